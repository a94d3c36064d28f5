import Derived.Test.YtocpikgcbibcoaaGreatDoorMTermLays4
import Derived.Shelf.Pu.ParseUintPublic10
import Derived.Deep.MidRow
import Derived.Laws.EntriesVeiled
namespace Go.Proofs.YtocpikgcbibcoaaGreatDoor.tm
open Go.ChangeShapes Go.WideShapes Go.ChangeAt Go.RowKit Go.Proofs.YtocpikgcbibcoaaGreatDoor.common Go.Proofs.YtocpikgcbibcoaaGreatDoor.bk
attribute [local go_sem ↓] Go.wp_at_zero Go.wp_at_succ

/-- what stands ahead of the first of these bytes, and the rest -/
def hd (cs l : List UInt8) : List UInt8 := l.takeWhile fun b => !cs.contains b
def tl (cs l : List UInt8) : List UInt8 := l.dropWhile fun b => !cs.contains b
theorem hd_tl (cs l : List UInt8) : hd cs l ++ tl cs l = l := List.takeWhile_append_dropWhile
theorem hd_le (cs l : List UInt8) : (hd cs l).length ≤ l.length := (List.takeWhile_prefix _).length_le
theorem hd_take (cs l : List UInt8) : l.take (hd cs l).length = hd cs l := by
  conv => lhs; arg 2; rw [← hd_tl cs l]
  exact List.take_left
theorem tl_drop (cs l : List UInt8) : l.drop (hd cs l).length = tl cs l := by
  conv => lhs; arg 2; rw [← hd_tl cs l]
  exact List.drop_left
theorem indexAny_hd (cs : List UInt8) : ∀ l : List UInt8, (Lib.indexAny l cs = ((hd cs l).length : Int)) ∨ (Lib.indexAny l cs = -1 ∧ (hd cs l).length = l.length)
  | [] => Or.inr ⟨rfl, rfl⟩
  | b :: l => by
    unfold Lib.indexAny hd
    by_cases hb : cs.contains b = true
    · rw [if_pos hb, List.takeWhile_cons_of_neg (by rw [hb]; decide)]
      exact Or.inl rfl
    · rw [Bool.not_eq_true] at hb
      rw [if_neg (by rw [hb]; decide), List.takeWhile_cons_of_pos (by rw [hb]; rfl), List.length_cons, List.length_cons]
      rcases indexAny_hd cs l with h | ⟨h1, h2⟩
      · unfold hd at h
        rw [h, if_neg (by rw [beq_iff_eq]; omega)]
        exact Or.inl (by omega)
      · unfold hd at h2
        rw [h1, if_pos (show ((-1 : Int) == -1) = true from rfl)]
        exact Or.inr ⟨rfl, by omega⟩

set_option maxRecDepth 100000 in
theorem indexAny_any (s cs : ByteArray) (w : World) (hs : s.size < 4294967281) (h2 : 2 ≤ cs.size) (h3 : cs.size ≤ 3) (ha : Asc cs) :
    Calls Tryz.prog 100 #[.string s, .string cs] w fun e w' => e = .returned (.int .i64 (Lib.indexAny s.data.toList cs.data.toList)) ∧ Below w.heap.size w w' := by
  by_cases h8 : s.size ≤ 8
  · exact indexAny_short s cs w h2 h3 h8 ha
  · have h116 : (Tryz.prog.info? (jl.lays153_ren.t 116)).map (fun i => (i.zero, i.size)) = some (some (.agg (Array.replicate 256 (.bool false))), 256) := by kernel_rfl
    have hz := zero_of_info h116
    refine (Any.strings_IndexAny_long jl.lays153 hz.1 hz.2 s cs w h2 (by omega) hs (by omega) (fun j b hj => ?_)).mono ?_
    · obtain ⟨hk, e⟩ := List.getElem?_eq_some_iff.1 hj
      have hk3 : j < cs.size := by rw [← len_list]; exact hk
      have := ha j hk3
      have e2 : cs[j]'hk3 = b := e
      rwa [e2] at this
    · rintro e w' ⟨rfl, rfl⟩
      exact ⟨rfl, ((Below.refl _ _).alloc (Nat.le_refl _) _).alloc (by simp) _⟩

set_option maxRecDepth 100000 in
set_option maxHeartbeats 1600000 in
theorem ahead_any (s cs : ByteArray) (w : World) (hs : s.size < 4294967281) (h2 : 2 ≤ cs.size) (h3 : cs.size ≤ 3) (ha : Asc cs) :
    Calls Tryz.prog 85 #[.string s, .string cs] w fun e w' => e = .returned (.int .i64 ((hd cs.data.toList s.data.toList).length : Int)) ∧ Below w.heap.size w w' := by
  have HI := hide (indexAny_any s cs w hs h2 h3 ha)
  have HC := indexAny_hd cs.data.toList s.data.toList
  rw [len_list] at HC
  have hl := hd_le cs.data.toList s.data.toList
  rw [len_list] at hl
  generalize (hd cs.data.toList s.data.toList).length = n at *
  generalize Lib.indexAny s.data.toList cs.data.toList = i at *
  clear ha
  rcases HC with rfl | ⟨rfl, rfl⟩
  · have h0 : (0 : Int) ≤ (n : Int) := Int.natCast_nonneg _
    go_enter Tryz.func85, Tryz.ntmps85
    go_wp2_with (go_at_call 100; refine HI.out.mono ?_; rintro x w2 ⟨rfl, hb⟩; have HB := hide hb; clear hb)
    go_ret
    exact ⟨rfl, HB.out⟩
  · go_enter Tryz.func85, Tryz.ntmps85
    go_wp2_with (go_at_call 100; refine HI.out.mono ?_; rintro x w2 ⟨rfl, hb⟩; have HB := hide hb; clear hb)
    go_ret
    exact ⟨rfl, HB.out⟩

/-- the errors of strconv lie in their variables -/
structure Nums (w : World) : Prop where
  syn : ∃ te pe, w.cell? ⟨20, 0, none⟩ = some (.iface te pe)
  rng : ∃ te pe, w.cell? ⟨21, 0, none⟩ = some (.iface te pe)
theorem Nums.below {w w' : World} (h : Nums w) (hb : Below w.heap.size w w') : Nums w' := by
  obtain ⟨t1, p1, h1⟩ := h.syn
  obtain ⟨t2, p2, h2⟩ := h.rng
  exact ⟨⟨t1, p1, (hb.cell (World.block_lt_of_cell? w _ h1)).trans h1⟩, ⟨t2, p2, (hb.cell (World.block_lt_of_cell? w _ h2)).trans h2⟩⟩

def is16 (l : List UInt8) : Bool := match Lib.parseUintB 16 l with | .ok _ => true | _ => false
/-- a port -/
def portL (l : List UInt8) : Bool := is16 l && decide ((l.headD 0).toNat ≠ 48)

theorem parse_any (s : ByteArray) (w : World) (hs : s.size ≤ 281474976710656) (h : Nums w) :
    Calls Tryz.prog 119 #[.string s, .int .i64 10, .int .i64 16] w fun e w' => Below w.heap.size w w' ∧ ∃ x ev, e = .returned (.tuple #[.int .u64 x, ev]) ∧ ((is16 s.data.toList = true ∧ ev = .nilIface) ∨ (is16 s.data.toList = false ∧ ∃ t p, ev = .iface t (.pointer (some p)))) := by
  obtain ⟨te, pe, h1⟩ := h.syn
  obtain ⟨tr, pr, h2⟩ := h.rng
  unfold is16
  rcases h : Lib.parseUintB 16 s.data.toList with v | _ | _
  · refine (Any.strconv_ParseUint_10_at16_ok jl.laysPu14 s (by omega) v h w).mono ?_
    rintro e w' ⟨rfl, hw⟩
    refine ⟨?_, _, _, rfl, Or.inl ⟨rfl, rfl⟩⟩
    rcases hw with rfl | rfl
    · exact Below.refl _ _
    · exact ⟨rfl, rfl, rfl, by rw [Lib.bytesWorld_size]; omega, fun j hj => Lib.bytesWorld_at_old _ _ _ j hj⟩
  · refine (Any.strconv_ParseUint_10_at16_syntax jl.laysPu14 s hs h _ w h1 (Or.inr ⟨te, pe, rfl⟩)).mono ?_
    rintro e w' ⟨N, rfl, _, _, hb⟩
    exact ⟨hb, _, _, rfl, Or.inr ⟨rfl, _, _, rfl⟩⟩
  · refine (Any.strconv_ParseUint_10_at16_range jl.laysPu14 s hs h _ w h2 (Or.inr ⟨tr, pr, rfl⟩)).mono ?_
    rintro e w' ⟨N, rfl, _, _, hb⟩
    exact ⟨hb, _, _, rfl, Or.inr ⟨rfl, _, _, rfl⟩⟩

theorem is16_nil : is16 [] = false := rfl
set_option maxRecDepth 100000 in
set_option maxHeartbeats 1600000 in
theorem port_any (s : ByteArray) (w : World) (hs : s.size ≤ 281474976710656) (h : Nums w) :
    Calls Tryz.prog 99 #[.string s] w fun e w' => e = .returned (.bool (portL s.data.toList)) ∧ Below w.heap.size w w' := by
  have HP := hide (parse_any s w hs h)
  have HS : Hid (portL s.data.toList = (is16 s.data.toList && decide ((s.data.toList.headD 0).toNat ≠ 48))) := rfl
  have HL : Hid (is16 s.data.toList = true → 0 < s.size) := by
    intro h
    cases hz : s.size with
    | succ n => omega
    | zero =>
      have : s.data.toList = [] := List.eq_nil_of_length_eq_zero (by rw [len_list]; exact hz)
      rw [this, is16_nil] at h; exact absurd h (by decide)
  generalize hi : is16 s.data.toList = t at *
  clear h hi
  go_enter Tryz.func99, Tryz.ntmps99
  go_wp2_with fail
  refine HP.out.mono ?_
  rintro x w2 ⟨hb, x, ev, rfl, hres⟩
  have HB := hide hb
  clear hb
  rcases hres with ⟨rfl, rfl⟩ | ⟨rfl, te, pe, rfl⟩
  · have hp := HL.out rfl
    have hpi : (0 : Int) < (s.size : Int) := by omega
    have HH := hide (head_is s hp)
    rcases is_cases 48 48 rfl s[0] with ⟨u1, a1, a2⟩ | ⟨u1, a1, a2⟩
    all_goals
      go_wp2_with fail
      go_ret
      exact ⟨by rw [HS.out, HH.out]; simp [bne, a2, u1], HB.out⟩
  · go_wp2_with fail
    go_ret
    exact ⟨by rw [HS.out]; rfl, HB.out⟩

end Go.Proofs.YtocpikgcbibcoaaGreatDoor.tm

namespace Go.Proofs.YtocpikgcbibcoaaGreatDoor.tm
open Go.ChangeShapes Go.WideShapes Go.ChangeAt Go.RowKit Go.Proofs.YtocpikgcbibcoaaGreatDoor.common Go.Proofs.YtocpikgcbibcoaaGreatDoor.bk
open Go.Proofs.YtocpikgcbibcoaaGreatDoor.fd (before behind)
attribute [local go_sem ↓] Go.wp_at_zero Go.wp_at_succ

/-- what may stand behind a host -/
def behL (l : List UInt8) : Bool := if [58].isPrefixOf l then portL (hd [47, 63] (l.drop 1)) && pathQ (tl [47, 63] (l.drop 1)) else pathQ l

theorem ext_to (s : ByteArray) (n : Nat) : (s.extract 0 n).data.toList = s.data.toList.take n := by rw [ext_list]; simp
theorem ext_from (s : ByteArray) (n : Nat) : (s.extract n s.size).data.toList = s.data.toList.drop n := by
  rw [ext_list]
  exact List.take_of_length_le (by rw [List.length_drop, len_list]; exact Nat.le_refl _)
theorem asc2 : Asc ⟨#[47, 63]⟩ := fun j h => by
  have h2 : j < 2 := h
  match j, h2 with
  | 0, _ => exact (by decide : (47 : UInt8).toNat < 128)
  | 1, _ => exact (by decide : (63 : UInt8).toNat < 128)
theorem asc3 : Asc ⟨#[58, 47, 63]⟩ := fun j h => by
  have h2 : j < 3 := h
  match j, h2 with
  | 0, _ => exact (by decide : (58 : UInt8).toNat < 128)
  | 1, _ => exact (by decide : (47 : UInt8).toNat < 128)
  | 2, _ => exact (by decide : (63 : UInt8).toNat < 128)

set_option maxRecDepth 100000 in
set_option maxHeartbeats 3200000 in
theorem beh_any (s : ByteArray) (w : World) (hs : s.size ≤ 1048576) (h : Nums w) :
    Calls Tryz.prog 84 #[.string s] w fun e w' => e = .returned (.bool (behL s.data.toList)) ∧ Below w.heap.size w w' := by
  have HC := hide (cutPrefix_any s ⟨#[58]⟩ w)
  have HS : Hid (behL s.data.toList = if [58].isPrefixOf s.data.toList then portL (hd [47, 63] (s.data.toList.drop 1)) && pathQ (tl [47, 63] (s.data.toList.drop 1)) else pathQ s.data.toList) := rfl
  unfold cutP at HC
  cases hp : (⟨#[58]⟩ : ByteArray).data.toList.isPrefixOf s.data.toList with
  | false =>
    have HR : Hid (behL s.data.toList = pathQ s.data.toList) := by show _ = _; rw [HS.out, if_neg (by rw [show [58].isPrefixOf s.data.toList = false from hp]; decide)]
    rw [hp, if_neg (by decide)] at HC
    rw [HR.out]
    have HQ := hide (fun W => pathQ_any s W (by omega))
    generalize pathQ s.data.toList = t at *
    clear hp HS HR
    go_enter Tryz.func84, Tryz.ntmps84
    go_wp2_with fail
    refine HC.out.mono ?_
    rintro x w1 ⟨rfl, hw⟩
    obtain rfl := hw.symm
    go_wp2_with (go_at_call 89; refine (HQ.out _).mono ?_; rintro x w2 ⟨rfl, hb⟩; have B1 := hide hb; clear hb)
    go_ret
    exact ⟨rfl, B1.out⟩
  | true =>
    obtain ⟨r, hr⟩ : ∃ r, r = s.extract 1 s.size := ⟨_, rfl⟩
    have hrl : r.data.toList = s.data.toList.drop 1 := by rw [hr, ext_from]
    have hrs : r.size ≤ s.size := by rw [hr, ByteArray.size_extract]; omega
    have HR : Hid (behL s.data.toList = (portL (hd [47, 63] r.data.toList) && pathQ (tl [47, 63] r.data.toList))) := by show _ = _; rw [HS.out, if_pos (show [58].isPrefixOf s.data.toList = true from hp), hrl]
    rw [hp, if_pos rfl, show (⟨#[58]⟩ : ByteArray).size = 1 from rfl, ← hr] at HC
    rw [HR.out]
    clear hp HS HR hr hrl
    have HA := hide (ahead_any r ⟨#[47, 63]⟩ w (by omega) (by decide) (by decide) asc2)
    have e1 := hd_take [47, 63] r.data.toList
    have e2 := tl_drop [47, 63] r.data.toList
    have hn := hd_le [47, 63] r.data.toList
    rw [len_list] at hn
    rw [← e1, ← e2]
    change Hid (Calls _ _ _ _ fun e w' => e = .returned (.int .i64 ((hd [47, 63] r.data.toList).length : Int)) ∧ _) at HA
    clear e1 e2
    generalize (hd [47, 63] r.data.toList).length = n at *
    rw [← ext_to, ← ext_from]
    have HP := hide (fun W h => port_any (r.extract 0 n) W (by rw [ByteArray.size_extract]; omega) h)
    have HQ := hide (fun W => pathQ_any (r.extract n r.size) W (by rw [ByteArray.size_extract]; omega))
    generalize portL (r.extract 0 n).data.toList = t at *
    generalize pathQ (r.extract n r.size).data.toList = u at *
    have hni : (n : Int) ≤ (r.size : Int) := by omega
    have HN := hide h
    clear h
    cases t
    all_goals
      go_enter Tryz.func84, Tryz.ntmps84
      go_wp2_with (first
        | (go_at_call 56; refine HC.out.mono ?_; rintro x w1 ⟨rfl, hw⟩; obtain rfl := hw.symm)
        | (go_at_call 85; refine HA.out.mono ?_; rintro x w2 ⟨rfl, hb⟩; have B1 := hide hb; clear hb)
        | (go_at_call 99; refine (HP.out _ (HN.out.below B1.out)).mono ?_; rintro x w3 ⟨rfl, hb⟩; have B2 := hide (keepD B1.out hb); clear hb)
        | (go_at_call 89; refine (HQ.out _).mono ?_; rintro x w4 ⟨rfl, hb⟩; have B3 := hide (keepD B2.out hb); clear hb))
      go_ret
      exact ⟨rfl, by first | exact B3.out | exact B2.out⟩

/-- what may stand behind https:// -/
def secI (i : List UInt8) : Bool := i.contains 93 && (!(before 93 i).isEmpty && ((before 93 i).all numB && behL (behind 93 i)))
def secL (l : List UInt8) : Bool := if [91].isPrefixOf l then secI (l.drop 1) else hostN ⟨(hd [58, 47, 63] l).toArray⟩ && behL (tl [58, 47, 63] l)

theorem str_of (s : ByteArray) : (⟨s.data.toList.toArray⟩ : ByteArray) = s := by rw [Array.toArray_toList]

set_option maxRecDepth 100000 in
set_option maxHeartbeats 3200000 in
theorem sec_any (s : ByteArray) (w : World) (hs : s.size ≤ 1048576) (h : Nums w) :
    Calls Tryz.prog 69 #[.string s] w fun e w' => e = .returned (.bool (secL s.data.toList)) ∧ Below w.heap.size w w' := by
  have HC := hide (cutPrefix_any s ⟨#[91]⟩ w)
  have HS : Hid (secL s.data.toList = if [91].isPrefixOf s.data.toList then secI (s.data.toList.drop 1) else hostN ⟨(hd [58, 47, 63] s.data.toList).toArray⟩ && behL (tl [58, 47, 63] s.data.toList)) := rfl
  unfold cutP at HC
  have HN := hide h
  clear h
  cases hp : (⟨#[91]⟩ : ByteArray).data.toList.isPrefixOf s.data.toList with
  | false =>
    have HR : Hid (secL s.data.toList = (hostN ⟨(hd [58, 47, 63] s.data.toList).toArray⟩ && behL (tl [58, 47, 63] s.data.toList))) := by show _ = _; rw [HS.out, if_neg (by rw [show [91].isPrefixOf s.data.toList = false from hp]; decide)]
    rw [hp, if_neg (by decide)] at HC
    rw [HR.out]
    clear hp HS HR
    have HA := hide (ahead_any s ⟨#[58, 47, 63]⟩ w (by omega) (by decide) (by decide) asc3)
    have e1 := hd_take [58, 47, 63] s.data.toList
    have e2 := tl_drop [58, 47, 63] s.data.toList
    have hn := hd_le [58, 47, 63] s.data.toList
    rw [len_list] at hn
    rw [← e1, ← e2]
    change Hid (Calls _ _ _ _ fun e w' => e = .returned (.int .i64 ((hd [58, 47, 63] s.data.toList).length : Int)) ∧ _) at HA
    clear e1 e2
    generalize (hd [58, 47, 63] s.data.toList).length = n at *
    rw [← ext_to, ← ext_from, str_of]
    have HP := hide (fun W => isHostName_any (s.extract 0 n) W (by rw [ByteArray.size_extract]; unfold reachBytes; omega))
    have HQ := hide (fun W h => beh_any (s.extract n s.size) W (by rw [ByteArray.size_extract]; omega) h)
    generalize hostN (s.extract 0 n) = t at *
    generalize behL (s.extract n s.size).data.toList = u at *
    have hni : (n : Int) ≤ (s.size : Int) := by omega
    cases t
    all_goals
      go_enter Tryz.func69, Tryz.ntmps69
      go_wp2_with (first
        | (go_at_call 56; refine HC.out.mono ?_; rintro x w1 ⟨rfl, hw⟩; obtain rfl := hw.symm)
        | (go_at_call 85; refine HA.out.mono ?_; rintro x w2 ⟨rfl, hb⟩; have B1 := hide hb; clear hb)
        | (go_at_call 86; refine (HP.out _).mono ?_; rintro x w3 ⟨rfl, hb⟩; have B2 := hide (keepD B1.out hb); clear hb)
        | (go_at_call 84; refine (HQ.out _ (HN.out.below B2.out)).mono ?_; rintro x w4 ⟨rfl, hb⟩; have B3 := hide (keepD B2.out hb); clear hb))
      go_ret
      exact ⟨rfl, by first | exact B3.out | exact B2.out⟩
  | true =>
    obtain ⟨r, hr⟩ : ∃ r, r = s.extract 1 s.size := ⟨_, rfl⟩
    have hrl : r.data.toList = s.data.toList.drop 1 := by rw [hr, ext_from]
    have hrs : r.size ≤ s.size := by rw [hr, ByteArray.size_extract]; omega
    have HR : Hid (secL s.data.toList = secI r.data.toList) := by show _ = _; rw [HS.out, if_pos (show [91].isPrefixOf s.data.toList = true from hp), hrl]
    rw [hp, if_pos rfl, show (⟨#[91]⟩ : ByteArray).size = 1 from rfl, ← hr] at HC
    rw [HR.out]
    clear hp HS HR hr hrl
    have HK := hide (fd.cut_any r 93 w (by omega))
    have l1 := before_le 93 r.data.toList
    have l2 := behind_le 93 r.data.toList
    rw [len_list] at l1 l2
    have HA := hide (fun W => all_any ⟨(before 93 r.data.toList).toArray⟩ _ numB W (by rw [str_size]; omega) num_enters num_tests)
    have HQ := hide (fun W h => beh_any ⟨(behind 93 r.data.toList).toArray⟩ W (by rw [str_size]; omega) h)
    have HS : Hid (secI r.data.toList = (r.data.toList.contains 93 && (!(before 93 r.data.toList).isEmpty && ((before 93 r.data.toList).all numB && behL (behind 93 r.data.toList))))) := rfl
    change Hid (∀ W, Calls _ _ _ _ fun e w' => e = .returned (.bool ((before 93 r.data.toList).all numB)) ∧ _) at HA
    change Hid (∀ W h, Calls _ _ _ _ fun e w' => e = .returned (.bool (behL (behind 93 r.data.toList))) ∧ _) at HQ
    generalize r.data.toList.contains 93 = t at *
    generalize (before 93 r.data.toList).all numB = u at *
    generalize behL (behind 93 r.data.toList) = v at *
    generalize before 93 r.data.toList = bl at *
    generalize behind 93 r.data.toList = be at *
    cases t <;> cases u <;> cases bl
    all_goals
      go_enter Tryz.func69, Tryz.ntmps69
      go_wp2_with (first
        | (go_at_call 56; refine HC.out.mono ?_; rintro x w1 ⟨rfl, hw⟩; obtain rfl := hw.symm)
        | (go_at_call 82; refine HK.out.mono ?_; rintro x w2 ⟨rfl, hb⟩; have B1 := hide hb; clear hb)
        | (go_at_call 68; refine (HA.out _).mono ?_; rintro x w3 ⟨rfl, hw⟩; obtain rfl := hw.symm)
        | (go_at_call 84; refine (HQ.out _ (HN.out.below B1.out)).mono ?_; rintro x w4 ⟨rfl, hb⟩; have B3 := hide (keepD B1.out hb); clear hb))
      go_ret
      exact ⟨by rw [HS.out]; rfl, by first | exact B3.out | exact B1.out⟩

end Go.Proofs.YtocpikgcbibcoaaGreatDoor.tm

namespace Go.Proofs.YtocpikgcbibcoaaGreatDoor.tm
open Go.ChangeShapes Go.WideShapes Go.ChangeAt Go.RowKit Go.Proofs.YtocpikgcbibcoaaGreatDoor.common Go.Proofs.YtocpikgcbibcoaaGreatDoor.bk
attribute [local go_sem ↓] Go.wp_at_zero Go.wp_at_succ

def hostsL : List (List UInt8) := [[108, 111, 99, 97, 108, 104, 111, 115, 116], [49, 50, 55, 46, 48, 46, 48, 46, 49], [91, 58, 58, 49, 93]]
def tH (k : Nat) : List UInt8 := hostsL.getD k []
def cellsH : List Value := hostsL.map fun l => S l
/-- the hosts of one's own lie in their variable -/
def Loc (w : World) : Prop := w.rangeAt 16 0 cellsH
theorem Loc.below {w w' : World} (h : Loc w) (hb : Below w.heap.size w w') : Loc w' := fun j v hv => by
  have := h j v hv
  rw [← this]
  exact hb.cell (World.block_lt_of_cell? w _ this)

def locT : List (List UInt8) → List UInt8 → Bool
  | [], _ => false
  | h :: t, l => if h.isPrefixOf l then behL (l.drop h.length) else locT t l
/-- what may stand behind http:// -/
def locL (l : List UInt8) : Bool := locT hostsL l

theorem loc_step (k : Nat) (h : k < 3) (l : List UInt8) : locT (hostsL.drop k) l = if (tH k).isPrefixOf l then behL (l.drop (tH k).length) else locT (hostsL.drop (k + 1)) l := by
  match k, h with
  | 0, _ => rfl
  | 1, _ => rfl
  | 2, _ => rfl

theorem sizeH : (Tryz.prog.info? 128).map (·.size) = some cellsH.length := by kernel_rfl
set_option maxRecDepth 100000 in
theorem index_hosts : ∀ k : Nat, k < 3 → ∀ w : World, (Instr.index 128 (.agg cellsH.toArray) (.int .i64 (k : Int))).run Tryz.prog w = .ok (S (tH k)) w := by
  intro k h w
  match k, h with
  | 0, _ => rfl
  | 1, _ => rfl
  | 2, _ => rfl

set_option maxRecDepth 100000 in
set_option maxHeartbeats 3200000 in
theorem loc_any (s : ByteArray) (w : World) (hs : s.size ≤ 1048576) (h : Nums w) (hl : Loc w) :
    Calls Tryz.prog 70 #[.string s] w fun e w' => e = .returned (.bool (locL s.data.toList)) ∧ Below w.heap.size w w' := by
  have HN := hide h
  have HL := hide hl
  clear h hl
  obtain ⟨R, hR⟩ : ∃ R, R = locL s.data.toList := ⟨_, rfl⟩
  have HRR : Hid (R = locT (hostsL.drop 0) s.data.toList) := hR
  rw [← hR]
  clear hR
  go_enter Tryz.func70, Tryz.ntmps70
  go_wp2_with (refine wpList_load_mid rfl 128 _ rfl 16 0 rfl cellsH _ HL.out Tryz.underlying128 rfl sizeH ?_)
  go_loopw [8] (fun i wr => ∃ k : Nat, k ≤ 3 ∧ i = .int .i64 k ∧ Hid (R = locT (hostsL.drop k) s.data.toList) ∧ wr = w) (fun i _ => 3 - (intOf i).toNat)
  case atStart => exact ⟨0, Nat.zero_le _, rfl, HRR, rfl⟩
  case round =>
    obtain ⟨k, hk, rfl, HR, rfl⟩ := hrel
    by_cases hlt : k < 3
    · have hki : (k : Int) < (3 : Int) := by omega
      have hix := index_hosts k hlt
      have HF := hide (loc_step k hlt s.data.toList)
      have HC := hide (cutPrefix_any s ⟨(tH k).toArray⟩ wr)
      unfold cutP at HC
      generalize cellsH.toArray = C at *
      cases hp : (⟨(tH k).toArray⟩ : ByteArray).data.toList.isPrefixOf s.data.toList with
      | true =>
        have HQ : Hid (R = behL (s.data.toList.drop (tH k).length)) := by
          show _ = _
          rw [HR.out, HF.out, if_pos (show (tH k).isPrefixOf s.data.toList = true from hp)]
        rw [hp, if_pos rfl, str_size] at HC
        have HB := hide (fun W h => beh_any (s.extract (tH k).length s.size) W (by rw [ByteArray.size_extract]; omega) h)
        rw [ext_from] at HB
        rw [← HQ.out] at HB
        clear hp HF HR HQ
        generalize tH k = T at *
        go_wp2_with (first
          | (go_at_call 56; refine HC.out.mono ?_; rintro x w1 ⟨rfl, hw⟩; obtain rfl := hw.symm)
          | (go_at_call 84; refine (HB.out _ HN.out).mono ?_; rintro x w4 ⟨rfl, hb⟩; have B1 := hide hb; clear hb))
        go_ret
        exact ⟨rfl, B1.out⟩
      | false =>
        have HQ : Hid (R = locT (hostsL.drop (k + 1)) s.data.toList) := by
          show _ = _
          rw [HR.out, HF.out, if_neg (by rw [show (tH k).isPrefixOf s.data.toList = false from hp]; decide)]
        rw [hp, if_neg (by decide)] at HC
        clear hp HF HR
        generalize tH k = T at *
        go_wp2_with (go_at_call 56; refine HC.out.mono ?_; rintro x w1 ⟨rfl, hw⟩; obtain rfl := hw.symm)
        go_roundw
        case rel => exact ⟨k + 1, by omega, by go_num, HQ, by trivial⟩
        case measure => simp [intOf]; omega
    · obtain rfl : k = 3 := by omega
      have HQ : Hid (R = false) := HR.out
      go_wp2_with fail
      go_ret
      exact ⟨by rw [HQ.out]; rfl, Below.refl _ _⟩

end Go.Proofs.YtocpikgcbibcoaaGreatDoor.tm

namespace Go.Proofs.YtocpikgcbibcoaaGreatDoor.tm
open Go.ChangeShapes Go.WideShapes Go.ChangeAt Go.RowKit Go.Proofs.YtocpikgcbibcoaaGreatDoor.common Go.Proofs.YtocpikgcbibcoaaGreatDoor.bk
attribute [local go_sem ↓] Go.wp_at_zero Go.wp_at_succ

def mHttps : List UInt8 := [104, 116, 116, 112, 115, 58, 47, 47]
def mHttp : List UInt8 := [104, 116, 116, 112, 58, 47, 47]
/-- a redirect address -/
def redL (l : List UInt8) : Bool := decide (l.length ≤ 512) && (if mHttps.isPrefixOf l then secL (l.drop 8) else if mHttp.isPrefixOf l then locL (l.drop 7) else privA l)

abbrev fnV (f : Nat) : Value := .func (.func f) #[] #[]
def formV : List Value := [S mHttps, fnV 69, S mHttp, fnV 70, S [], fnV 71]

set_option maxRecDepth 100000 in
set_option maxHeartbeats 3200000 in
theorem forms_any (w : World) :
    Calls Tryz.prog 55 #[] w fun e w' => e = .returned (.slice (some ⟨w.heap.size, 0, none⟩) 3 3) ∧ Below w.heap.size w w' ∧ w'.heap[w.heap.size]? = some (.cells formV.toArray 92 (0, 0)) := by
  go_enter Tryz.func55, Tryz.ntmps55
  go_wp2_with fail
  go_ret
  exact ⟨rfl, (Below.refl _ _).alloc (Nat.le_refl _) _, World.alloc_heap_new _ _⟩

theorem form_cell {w : World} {b : Nat} (h : w.heap[b]? = some (.cells formV.toArray 92 (0, 0))) (j : Nat) (v : Value) (hj : formV[j]? = some v) : w.cell? ⟨b, j, none⟩ = some v := by
  simp [World.cell?, h, hj]

/-- from the form of this number on -/
def redT (l : List UInt8) : Nat → Bool
  | 0 => if mHttps.isPrefixOf l then secL (l.drop 8) else if mHttp.isPrefixOf l then locL (l.drop 7) else privA l
  | 1 => if mHttp.isPrefixOf l then locL (l.drop 7) else privA l
  | 2 => privA l
  | _ => false
theorem pre_empty (l : List UInt8) : ([] : List UInt8).isPrefixOf l = true := by cases l <;> rfl

set_option maxRecDepth 100000 in
set_option maxHeartbeats 3200000 in
theorem red_any (s : ByteArray) (w : World) (h : Nums w) (hl : Loc w) :
    Calls Tryz.prog 45 #[.string s] w fun e w' => e = .returned (.bool (redL s.data.toList)) ∧ Below w.heap.size w w' := by
  have HN := hide h
  have HL := hide hl
  clear h hl
  by_cases hlong : 512 < s.size
  · have hi : (512 : Int) < (s.size : Int) := by omega
    have HR : Hid (redL s.data.toList = false) := by
      show _ = _
      unfold redL
      rw [decide_eq_false (by rw [len_list]; omega)]; rfl
    rw [HR.out]
    go_enter Tryz.func45, Tryz.ntmps45
    go_wp2_with fail
    go_ret
    exact ⟨rfl, Below.refl _ _⟩
  have hi : ¬ (512 : Int) < (s.size : Int) := by omega
  obtain ⟨R, hR⟩ : ∃ R, R = redL s.data.toList := ⟨_, rfl⟩
  have HRR : Hid (R = redT s.data.toList 0) := by
    show _ = _
    rw [hR]
    unfold redL
    rw [decide_eq_true (by rw [len_list]; omega)]; rfl
  rw [← hR]
  clear hR
  have HC0 := hide (fun W => cutPrefix_any s ⟨mHttps.toArray⟩ W)
  have HC1 := hide (fun W => cutPrefix_any s ⟨mHttp.toArray⟩ W)
  have HC2 := hide (fun W => cutPrefix_any s ⟨#[]⟩ W)
  go_enter Tryz.func45, Tryz.ntmps45
  go_wp2_with (go_at_call 55; refine (forms_any w).mono ?_; rintro x w1 ⟨rfl, hb1, hf1⟩; have HB1 := hide hb1; have HF1 := hide hf1; clear hb1 hf1)
  go_loopw [12] (fun i wr => ∃ k : Nat, k ≤ 2 ∧ i = .int .i64 k ∧ Hid (R = redT s.data.toList k) ∧ Hid (wr.heap[w.heap.size]? = some (.cells formV.toArray 92 (0, 0))) ∧ Hid (Below w.heap.size w wr)) (fun i _ => 3 - (intOf i).toNat)
  case atStart => exact ⟨0, Nat.zero_le _, rfl, HRR, HF1, HB1⟩
  case round =>
    obtain ⟨k, hk, rfl, HR, HF, HB⟩ := hrel
    have hsz : w.heap.size < wr.heap.size := (Array.getElem?_eq_some_iff.1 HF.out).1
    rcases (by omega : k = 0 ∨ k = 1 ∨ k = 2) with rfl | rfl | rfl
    · have HC := HC0
      unfold cutP at HC
      have c0 := form_cell HF.out 0 _ rfl
      have c1 : wr.cell? ⟨w.heap.size, 1, none⟩ = some (.func (.func 69) #[] #[]) := form_cell HF.out 1 _ rfl
      have HCB : Hid (∀ W, Below w.heap.size w W → Calls Tryz.prog 69 #[.string (s.extract 8 s.size)] W fun e w' => e = .returned (.bool (secL (s.data.toList.drop 8))) ∧ Below W.heap.size W w') := fun W hb => by
        have := sec_any (s.extract 8 s.size) W (by rw [ByteArray.size_extract]; omega) (HN.out.below hb)
        rw [ext_from] at this
        exact this
      cases hp : (⟨mHttps.toArray⟩ : ByteArray).data.toList.isPrefixOf s.data.toList with
      | true =>
        have HQ : Hid (R = secL (s.data.toList.drop 8)) := by
          show _ = _
          rw [HR.out]
          exact if_pos (show mHttps.isPrefixOf s.data.toList = true from hp)
        rw [hp] at HC
        have HD : Hid (∀ W, Calls Tryz.prog 56 #[.string s, .string ⟨mHttps.toArray⟩] W fun e w' => e = .returned (.tuple #[.string (s.extract 8 s.size), .bool true]) ∧ w' = W) := HC.out
        rw [← HQ.out] at HCB
        clear hp HR HQ HC
        go_wp2_with (first
          | (go_at_call 56; refine (HD.out _).mono ?_; rintro x w2 ⟨rfl, hw⟩; obtain rfl := hw.symm)
          | (go_at_call 69; refine (HCB.out _ (HB.out.alloc HB.out.size _)).mono ?_; rintro x w4 ⟨rfl, hb⟩; have B1 := hide (keepD (HB.out.alloc HB.out.size _) hb); clear hb))
        go_ret
        exact ⟨rfl, B1.out⟩
      | false =>
        have HQ : Hid (R = redT s.data.toList 1) := by
          show _ = _
          rw [HR.out]
          exact if_neg (by rw [show mHttps.isPrefixOf s.data.toList = false from hp]; decide)
        rw [hp] at HC
        have HD : Hid (∀ W, Calls Tryz.prog 56 #[.string s, .string ⟨mHttps.toArray⟩] W fun e w' => e = .returned (.tuple #[.string s, .bool false]) ∧ w' = W) := HC.out
        clear hp HR HC HCB
        go_wp2_with (go_at_call 56; refine (HD.out _).mono ?_; rintro x w2 ⟨rfl, hw⟩; obtain rfl := hw.symm)
        go_roundw
        case rel => exact ⟨1, by omega, by go_num, HQ, ((Below.refl wr.heap.size wr).alloc (Nat.le_refl _) _).block _ hsz |>.trans HF.out, HB.out.alloc HB.out.size _⟩
        case measure => simp [intOf]
    · have HC := HC1
      unfold cutP at HC
      have c0 := form_cell HF.out 2 _ rfl
      have c1 : wr.cell? ⟨w.heap.size, 3, none⟩ = some (.func (.func 70) #[] #[]) := form_cell HF.out 3 _ rfl
      have HCB : Hid (∀ W, Below w.heap.size w W → Calls Tryz.prog 70 #[.string (s.extract 7 s.size)] W fun e w' => e = .returned (.bool (locL (s.data.toList.drop 7))) ∧ Below W.heap.size W w') := fun W hb => by
        have := loc_any (s.extract 7 s.size) W (by rw [ByteArray.size_extract]; omega) (HN.out.below hb) (HL.out.below hb)
        rw [ext_from] at this
        exact this
      cases hp : (⟨mHttp.toArray⟩ : ByteArray).data.toList.isPrefixOf s.data.toList with
      | true =>
        have HQ : Hid (R = locL (s.data.toList.drop 7)) := by
          show _ = _
          rw [HR.out]
          exact if_pos (show mHttp.isPrefixOf s.data.toList = true from hp)
        rw [hp] at HC
        have HD : Hid (∀ W, Calls Tryz.prog 56 #[.string s, .string ⟨mHttp.toArray⟩] W fun e w' => e = .returned (.tuple #[.string (s.extract 7 s.size), .bool true]) ∧ w' = W) := HC.out
        rw [← HQ.out] at HCB
        clear hp HR HQ HC
        go_wp2_with (first
          | (go_at_call 56; refine (HD.out _).mono ?_; rintro x w2 ⟨rfl, hw⟩; obtain rfl := hw.symm)
          | (go_at_call 70; refine (HCB.out _ (HB.out.alloc HB.out.size _)).mono ?_; rintro x w4 ⟨rfl, hb⟩; have B1 := hide (keepD (HB.out.alloc HB.out.size _) hb); clear hb))
        go_ret
        exact ⟨rfl, B1.out⟩
      | false =>
        have HQ : Hid (R = redT s.data.toList 2) := by
          show _ = _
          rw [HR.out]
          exact if_neg (by rw [show mHttp.isPrefixOf s.data.toList = false from hp]; decide)
        rw [hp] at HC
        have HD : Hid (∀ W, Calls Tryz.prog 56 #[.string s, .string ⟨mHttp.toArray⟩] W fun e w' => e = .returned (.tuple #[.string s, .bool false]) ∧ w' = W) := HC.out
        clear hp HR HC HCB
        go_wp2_with (go_at_call 56; refine (HD.out _).mono ?_; rintro x w2 ⟨rfl, hw⟩; obtain rfl := hw.symm)
        go_roundw
        case rel => exact ⟨2, by omega, by go_num, HQ, ((Below.refl wr.heap.size wr).alloc (Nat.le_refl _) _).block _ hsz |>.trans HF.out, HB.out.alloc HB.out.size _⟩
        case measure => simp [intOf]
    · have HC := HC2
      unfold cutP at HC
      have c0 := form_cell HF.out 4 _ rfl
      have c1 : wr.cell? ⟨w.heap.size, 5, none⟩ = some (.func (.func 71) #[] #[]) := form_cell HF.out 5 _ rfl
      have HCB : Hid (∀ W, Below w.heap.size w W → Calls Tryz.prog 71 #[.string (s.extract 0 s.size)] W fun e w' => e = .returned (.bool (privA s.data.toList)) ∧ Below W.heap.size W w') := fun W hb => by
        have := privA_any (s.extract 0 s.size) W (by rw [ByteArray.size_extract]; omega)
        rw [ext_from] at this
        exact this
      cases hp : (⟨#[]⟩ : ByteArray).data.toList.isPrefixOf s.data.toList with
      | true =>
        have HQ : Hid (R = privA s.data.toList) := by
          show _ = _
          rw [HR.out]
          rfl
        rw [hp] at HC
        have HD : Hid (∀ W, Calls Tryz.prog 56 #[.string s, .string ⟨#[]⟩] W fun e w' => e = .returned (.tuple #[.string (s.extract 0 s.size), .bool true]) ∧ w' = W) := HC.out
        rw [← HQ.out] at HCB
        generalize s.extract 0 s.size = z at HD HCB
        clear hp HR HQ HC
        go_wp2_with (first
          | (go_at_call 56; refine (HD.out _).mono ?_; rintro x w2 ⟨rfl, hw⟩; obtain rfl := hw.symm)
          | (go_at_call 71; refine (HCB.out _ (HB.out.alloc HB.out.size _)).mono ?_; rintro x w4 ⟨rfl, hb⟩; have B1 := hide (keepD (HB.out.alloc HB.out.size _) hb); clear hb))
        go_ret
        exact ⟨rfl, B1.out⟩
      | false => exact absurd ((pre_empty _).symm.trans hp) (by decide)

end Go.Proofs.YtocpikgcbibcoaaGreatDoor.tm
