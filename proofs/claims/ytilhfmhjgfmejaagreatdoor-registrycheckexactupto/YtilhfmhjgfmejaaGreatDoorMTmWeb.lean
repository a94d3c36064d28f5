import Derived.Test.YtilhfmhjgfmejaaGreatDoorMTermLays4
import Derived.Shelf.Pu.ParseUintPublic10
namespace Go.Proofs.YtilhfmhjgfmejaaGreatDoor.tm
open Go.ChangeShapes Go.WideShapes Go.ChangeAt Go.RowKit Go.Proofs.YtilhfmhjgfmejaaGreatDoor.common Go.Proofs.YtilhfmhjgfmejaaGreatDoor.bk
attribute [local go_sem ↓] Go.wp_at_zero Go.wp_at_succ

/-- what stands ahead of the first of these bytes, and the rest -/
def hd (cs l : List UInt8) : List UInt8 := l.takeWhile fun b => !cs.contains b
def tl (cs l : List UInt8) : List UInt8 := l.dropWhile fun b => !cs.contains b
theorem hd_tl (cs l : List UInt8) : hd cs l ++ tl cs l = l := List.takeWhile_append_dropWhile
theorem hd_le (cs l : List UInt8) : (hd cs l).length ≤ l.length := (List.takeWhile_prefix _).length_le
theorem hd_take (cs l : List UInt8) : l.take (hd cs l).length = hd cs l := by
  conv => lhs; arg 2; rw [← hd_tl cs l]
  exact List.take_left
theorem tl_drop (cs l : List UInt8) : l.drop (hd cs l).length = tl cs l := by
  conv => lhs; arg 2; rw [← hd_tl cs l]
  exact List.drop_left
theorem indexAny_hd (cs : List UInt8) : ∀ l : List UInt8, (Lib.indexAny l cs = ((hd cs l).length : Int)) ∨ (Lib.indexAny l cs = -1 ∧ (hd cs l).length = l.length)
  | [] => Or.inr ⟨rfl, rfl⟩
  | b :: l => by
    unfold Lib.indexAny hd
    by_cases hb : cs.contains b = true
    · rw [if_pos hb, List.takeWhile_cons_of_neg (by rw [hb]; decide)]
      exact Or.inl rfl
    · rw [Bool.not_eq_true] at hb
      rw [if_neg (by rw [hb]; decide), List.takeWhile_cons_of_pos (by rw [hb]; rfl), List.length_cons, List.length_cons]
      rcases indexAny_hd cs l with h | ⟨h1, h2⟩
      · unfold hd at h
        rw [h, if_neg (by rw [beq_iff_eq]; omega)]
        exact Or.inl (by omega)
      · unfold hd at h2
        rw [h1, if_pos (show ((-1 : Int) == -1) = true from rfl)]
        exact Or.inr ⟨rfl, by omega⟩

set_option maxRecDepth 100000 in
theorem indexAny_any (s cs : ByteArray) (w : World) (hs : s.size < 4294967281) (h2 : 2 ≤ cs.size) (h3 : cs.size ≤ 3) (ha : Asc cs) :
    Calls Tryz.prog 133 #[.string s, .string cs] w fun e w' => e = .returned (.int .i64 (Lib.indexAny s.data.toList cs.data.toList)) ∧ Below w.heap.size w w' := by
  by_cases h8 : s.size ≤ 8
  · exact indexAny_short s cs w h2 h3 h8 ha
  · have h116 : (Tryz.prog.info? (jl.lays153_ren.t 116)).map (fun i => (i.zero, i.size)) = some (some (.agg (Array.replicate 256 (.bool false))), 256) := by kernel_rfl
    have hz := zero_of_info h116
    refine (Any.strings_IndexAny_long jl.lays153 hz.1 hz.2 s cs w h2 (by omega) hs (by omega) (fun j b hj => ?_)).mono ?_
    · obtain ⟨hk, e⟩ := List.getElem?_eq_some_iff.1 hj
      have hk3 : j < cs.size := by rw [← len_list]; exact hk
      have := ha j hk3
      have e2 : cs[j]'hk3 = b := e
      rwa [e2] at this
    · rintro e w' ⟨rfl, rfl⟩
      exact ⟨rfl, ((Below.refl _ _).alloc (Nat.le_refl _) _).alloc (by simp) _⟩

set_option maxRecDepth 100000 in
set_option maxHeartbeats 1600000 in
theorem ahead_any (s cs : ByteArray) (w : World) (hs : s.size < 4294967281) (h2 : 2 ≤ cs.size) (h3 : cs.size ≤ 3) (ha : Asc cs) :
    Calls Tryz.prog 113 #[.string s, .string cs] w fun e w' => e = .returned (.int .i64 ((hd cs.data.toList s.data.toList).length : Int)) ∧ Below w.heap.size w w' := by
  have HI := hide (indexAny_any s cs w hs h2 h3 ha)
  have HC := indexAny_hd cs.data.toList s.data.toList
  rw [len_list] at HC
  have hl := hd_le cs.data.toList s.data.toList
  rw [len_list] at hl
  generalize (hd cs.data.toList s.data.toList).length = n at *
  generalize Lib.indexAny s.data.toList cs.data.toList = i at *
  clear ha
  rcases HC with rfl | ⟨rfl, rfl⟩
  · have h0 : (0 : Int) ≤ (n : Int) := Int.natCast_nonneg _
    go_enter Tryz.func113, Tryz.ntmps113
    go_wp2_with (go_at_call 133; refine HI.out.mono ?_; rintro x w2 ⟨rfl, hb⟩; have HB := hide hb; clear hb)
    go_ret
    exact ⟨rfl, HB.out⟩
  · go_enter Tryz.func113, Tryz.ntmps113
    go_wp2_with (go_at_call 133; refine HI.out.mono ?_; rintro x w2 ⟨rfl, hb⟩; have HB := hide hb; clear hb)
    go_ret
    exact ⟨rfl, HB.out⟩

/-- the errors of strconv lie in their variables -/
structure Nums (w : World) : Prop where
  syn : ∃ te pe, w.cell? ⟨25, 0, none⟩ = some (.iface te pe)
  rng : ∃ te pe, w.cell? ⟨26, 0, none⟩ = some (.iface te pe)
theorem Nums.below {w w' : World} (h : Nums w) (hb : Below w.heap.size w w') : Nums w' := by
  obtain ⟨t1, p1, h1⟩ := h.syn
  obtain ⟨t2, p2, h2⟩ := h.rng
  exact ⟨⟨t1, p1, (hb.cell (World.block_lt_of_cell? w _ h1)).trans h1⟩, ⟨t2, p2, (hb.cell (World.block_lt_of_cell? w _ h2)).trans h2⟩⟩

def is16 (l : List UInt8) : Bool := match Lib.parseUintB 16 l with | .ok _ => true | _ => false
/-- a port -/
def portL (l : List UInt8) : Bool := is16 l && decide ((l.headD 0).toNat ≠ 48)

theorem parse_any (s : ByteArray) (w : World) (hs : s.size ≤ 281474976710656) (h : Nums w) :
    Calls Tryz.prog 150 #[.string s, .int .i64 10, .int .i64 16] w fun e w' => Below w.heap.size w w' ∧ ∃ x ev, e = .returned (.tuple #[.int .u64 x, ev]) ∧ ((is16 s.data.toList = true ∧ ev = .nilIface) ∨ (is16 s.data.toList = false ∧ ∃ t p, ev = .iface t (.pointer (some p)))) := by
  obtain ⟨te, pe, h1⟩ := h.syn
  obtain ⟨tr, pr, h2⟩ := h.rng
  unfold is16
  rcases h : Lib.parseUintB 16 s.data.toList with v | _ | _
  · refine (Any.strconv_ParseUint_10_at16_ok jl.laysPu14 s (by omega) v h w).mono ?_
    rintro e w' ⟨rfl, hw⟩
    refine ⟨?_, _, _, rfl, Or.inl ⟨rfl, rfl⟩⟩
    rcases hw with rfl | rfl
    · exact Below.refl _ _
    · exact ⟨rfl, rfl, rfl, by rw [Lib.bytesWorld_size]; omega, fun j hj => Lib.bytesWorld_at_old _ _ _ j hj⟩
  · refine (Any.strconv_ParseUint_10_at16_syntax jl.laysPu14 s hs h _ w h1 (Or.inr ⟨te, pe, rfl⟩)).mono ?_
    rintro e w' ⟨N, rfl, _, _, hb⟩
    exact ⟨hb, _, _, rfl, Or.inr ⟨rfl, _, _, rfl⟩⟩
  · refine (Any.strconv_ParseUint_10_at16_range jl.laysPu14 s hs h _ w h2 (Or.inr ⟨tr, pr, rfl⟩)).mono ?_
    rintro e w' ⟨N, rfl, _, _, hb⟩
    exact ⟨hb, _, _, rfl, Or.inr ⟨rfl, _, _, rfl⟩⟩

theorem is16_nil : is16 [] = false := rfl
set_option maxRecDepth 100000 in
set_option maxHeartbeats 1600000 in
theorem port_any (s : ByteArray) (w : World) (hs : s.size ≤ 281474976710656) (h : Nums w) :
    Calls Tryz.prog 132 #[.string s] w fun e w' => e = .returned (.bool (portL s.data.toList)) ∧ Below w.heap.size w w' := by
  have HP := hide (parse_any s w hs h)
  have HS : Hid (portL s.data.toList = (is16 s.data.toList && decide ((s.data.toList.headD 0).toNat ≠ 48))) := rfl
  have HL : Hid (is16 s.data.toList = true → 0 < s.size) := by
    intro h
    cases hz : s.size with
    | succ n => omega
    | zero =>
      have : s.data.toList = [] := List.eq_nil_of_length_eq_zero (by rw [len_list]; exact hz)
      rw [this, is16_nil] at h; exact absurd h (by decide)
  generalize hi : is16 s.data.toList = t at *
  clear h hi
  go_enter Tryz.func132, Tryz.ntmps132
  go_wp2_with fail
  refine HP.out.mono ?_
  rintro x w2 ⟨hb, x, ev, rfl, hres⟩
  have HB := hide hb
  clear hb
  rcases hres with ⟨rfl, rfl⟩ | ⟨rfl, te, pe, rfl⟩
  · have hp := HL.out rfl
    have hpi : (0 : Int) < (s.size : Int) := by omega
    have HH := hide (head_is s hp)
    rcases is_cases 48 48 rfl s[0] with ⟨u1, a1, a2⟩ | ⟨u1, a1, a2⟩
    all_goals
      go_wp2_with fail
      go_ret
      exact ⟨by rw [HS.out, HH.out]; simp [bne, a2, u1], HB.out⟩
  · go_wp2_with fail
    go_ret
    exact ⟨by rw [HS.out]; rfl, HB.out⟩

end Go.Proofs.YtilhfmhjgfmejaaGreatDoor.tm

namespace Go.Proofs.YtilhfmhjgfmejaaGreatDoor.tm
open Go.ChangeShapes Go.WideShapes Go.ChangeAt Go.RowKit Go.Proofs.YtilhfmhjgfmejaaGreatDoor.common Go.Proofs.YtilhfmhjgfmejaaGreatDoor.bk
open Go.Proofs.YtilhfmhjgfmejaaGreatDoor.fd (before behind)
attribute [local go_sem ↓] Go.wp_at_zero Go.wp_at_succ

/-- what may stand behind a host -/
def behL (l : List UInt8) : Bool := if [58].isPrefixOf l then portL (hd [47, 63] (l.drop 1)) && pathQ (tl [47, 63] (l.drop 1)) else pathQ l

theorem ext_to (s : ByteArray) (n : Nat) : (s.extract 0 n).data.toList = s.data.toList.take n := by rw [ext_list]; simp
theorem ext_from (s : ByteArray) (n : Nat) : (s.extract n s.size).data.toList = s.data.toList.drop n := by
  rw [ext_list]
  exact List.take_of_length_le (by rw [List.length_drop, len_list]; exact Nat.le_refl _)
theorem asc2 : Asc ⟨#[47, 63]⟩ := fun j h => by
  have h2 : j < 2 := h
  match j, h2 with
  | 0, _ => exact (by decide : (47 : UInt8).toNat < 128)
  | 1, _ => exact (by decide : (63 : UInt8).toNat < 128)
theorem asc3 : Asc ⟨#[58, 47, 63]⟩ := fun j h => by
  have h2 : j < 3 := h
  match j, h2 with
  | 0, _ => exact (by decide : (58 : UInt8).toNat < 128)
  | 1, _ => exact (by decide : (47 : UInt8).toNat < 128)
  | 2, _ => exact (by decide : (63 : UInt8).toNat < 128)

set_option maxRecDepth 100000 in
set_option maxHeartbeats 3200000 in
theorem beh_any (s : ByteArray) (w : World) (hs : s.size ≤ 1048576) (h : Nums w) :
    Calls Tryz.prog 112 #[.string s] w fun e w' => e = .returned (.bool (behL s.data.toList)) ∧ Below w.heap.size w w' := by
  have HC := hide (cutPrefix_any s ⟨#[58]⟩ w)
  have HS : Hid (behL s.data.toList = if [58].isPrefixOf s.data.toList then portL (hd [47, 63] (s.data.toList.drop 1)) && pathQ (tl [47, 63] (s.data.toList.drop 1)) else pathQ s.data.toList) := rfl
  unfold cutP at HC
  cases hp : (⟨#[58]⟩ : ByteArray).data.toList.isPrefixOf s.data.toList with
  | false =>
    have HR : Hid (behL s.data.toList = pathQ s.data.toList) := by show _ = _; rw [HS.out, if_neg (by rw [show [58].isPrefixOf s.data.toList = false from hp]; decide)]
    rw [hp, if_neg (by decide)] at HC
    rw [HR.out]
    have HQ := hide (fun W => pathQ_any s W (by omega))
    generalize pathQ s.data.toList = t at *
    clear hp HS HR
    go_enter Tryz.func112, Tryz.ntmps112
    go_wp2_with fail
    refine HC.out.mono ?_
    rintro x w1 ⟨rfl, hw⟩
    obtain rfl := hw.symm
    go_wp2_with (go_at_call 117; refine (HQ.out _).mono ?_; rintro x w2 ⟨rfl, hb⟩; have B1 := hide hb; clear hb)
    go_ret
    exact ⟨rfl, B1.out⟩
  | true =>
    obtain ⟨r, hr⟩ : ∃ r, r = s.extract 1 s.size := ⟨_, rfl⟩
    have hrl : r.data.toList = s.data.toList.drop 1 := by rw [hr, ext_from]
    have hrs : r.size ≤ s.size := by rw [hr, ByteArray.size_extract]; omega
    have HR : Hid (behL s.data.toList = (portL (hd [47, 63] r.data.toList) && pathQ (tl [47, 63] r.data.toList))) := by show _ = _; rw [HS.out, if_pos (show [58].isPrefixOf s.data.toList = true from hp), hrl]
    rw [hp, if_pos rfl, show (⟨#[58]⟩ : ByteArray).size = 1 from rfl, ← hr] at HC
    rw [HR.out]
    clear hp HS HR hr hrl
    have HA := hide (ahead_any r ⟨#[47, 63]⟩ w (by omega) (by decide) (by decide) asc2)
    have e1 := hd_take [47, 63] r.data.toList
    have e2 := tl_drop [47, 63] r.data.toList
    have hn := hd_le [47, 63] r.data.toList
    rw [len_list] at hn
    rw [← e1, ← e2]
    change Hid (Calls _ _ _ _ fun e w' => e = .returned (.int .i64 ((hd [47, 63] r.data.toList).length : Int)) ∧ _) at HA
    clear e1 e2
    generalize (hd [47, 63] r.data.toList).length = n at *
    rw [← ext_to, ← ext_from]
    have HP := hide (fun W h => port_any (r.extract 0 n) W (by rw [ByteArray.size_extract]; omega) h)
    have HQ := hide (fun W => pathQ_any (r.extract n r.size) W (by rw [ByteArray.size_extract]; omega))
    generalize portL (r.extract 0 n).data.toList = t at *
    generalize pathQ (r.extract n r.size).data.toList = u at *
    have hni : (n : Int) ≤ (r.size : Int) := by omega
    have HN := hide h
    clear h
    cases t
    all_goals
      go_enter Tryz.func112, Tryz.ntmps112
      go_wp2_with (first
        | (go_at_call 71; refine HC.out.mono ?_; rintro x w1 ⟨rfl, hw⟩; obtain rfl := hw.symm)
        | (go_at_call 113; refine HA.out.mono ?_; rintro x w2 ⟨rfl, hb⟩; have B1 := hide hb; clear hb)
        | (go_at_call 132; refine (HP.out _ (HN.out.below B1.out)).mono ?_; rintro x w3 ⟨rfl, hb⟩; have B2 := hide (keepD B1.out hb); clear hb)
        | (go_at_call 117; refine (HQ.out _).mono ?_; rintro x w4 ⟨rfl, hb⟩; have B3 := hide (keepD B2.out hb); clear hb))
      go_ret
      exact ⟨rfl, by first | exact B3.out | exact B2.out⟩

/-- what may stand behind https:// -/
def secI (i : List UInt8) : Bool := i.contains 93 && (!(before 93 i).isEmpty && ((before 93 i).all numB && behL (behind 93 i)))
def secL (l : List UInt8) : Bool := if [91].isPrefixOf l then secI (l.drop 1) else hostN ⟨(hd [58, 47, 63] l).toArray⟩ && behL (tl [58, 47, 63] l)

theorem str_of (s : ByteArray) : (⟨s.data.toList.toArray⟩ : ByteArray) = s := by rw [Array.toArray_toList]

set_option maxRecDepth 100000 in
set_option maxHeartbeats 3200000 in
theorem sec_any (s : ByteArray) (w : World) (hs : s.size ≤ 1048576) (h : Nums w) :
    Calls Tryz.prog 89 #[.string s] w fun e w' => e = .returned (.bool (secL s.data.toList)) ∧ Below w.heap.size w w' := by
  have HC := hide (cutPrefix_any s ⟨#[91]⟩ w)
  have HS : Hid (secL s.data.toList = if [91].isPrefixOf s.data.toList then secI (s.data.toList.drop 1) else hostN ⟨(hd [58, 47, 63] s.data.toList).toArray⟩ && behL (tl [58, 47, 63] s.data.toList)) := rfl
  unfold cutP at HC
  have HN := hide h
  clear h
  cases hp : (⟨#[91]⟩ : ByteArray).data.toList.isPrefixOf s.data.toList with
  | false =>
    have HR : Hid (secL s.data.toList = (hostN ⟨(hd [58, 47, 63] s.data.toList).toArray⟩ && behL (tl [58, 47, 63] s.data.toList))) := by show _ = _; rw [HS.out, if_neg (by rw [show [91].isPrefixOf s.data.toList = false from hp]; decide)]
    rw [hp, if_neg (by decide)] at HC
    rw [HR.out]
    clear hp HS HR
    have HA := hide (ahead_any s ⟨#[58, 47, 63]⟩ w (by omega) (by decide) (by decide) asc3)
    have e1 := hd_take [58, 47, 63] s.data.toList
    have e2 := tl_drop [58, 47, 63] s.data.toList
    have hn := hd_le [58, 47, 63] s.data.toList
    rw [len_list] at hn
    rw [← e1, ← e2]
    change Hid (Calls _ _ _ _ fun e w' => e = .returned (.int .i64 ((hd [58, 47, 63] s.data.toList).length : Int)) ∧ _) at HA
    clear e1 e2
    generalize (hd [58, 47, 63] s.data.toList).length = n at *
    rw [← ext_to, ← ext_from, str_of]
    have HP := hide (fun W => isHostName_any (s.extract 0 n) W (by rw [ByteArray.size_extract]; unfold reachBytes; omega))
    have HQ := hide (fun W h => beh_any (s.extract n s.size) W (by rw [ByteArray.size_extract]; omega) h)
    generalize hostN (s.extract 0 n) = t at *
    generalize behL (s.extract n s.size).data.toList = u at *
    have hni : (n : Int) ≤ (s.size : Int) := by omega
    cases t
    all_goals
      go_enter Tryz.func89, Tryz.ntmps89
      go_wp2_with (first
        | (go_at_call 71; refine HC.out.mono ?_; rintro x w1 ⟨rfl, hw⟩; obtain rfl := hw.symm)
        | (go_at_call 113; refine HA.out.mono ?_; rintro x w2 ⟨rfl, hb⟩; have B1 := hide hb; clear hb)
        | (go_at_call 114; refine (HP.out _).mono ?_; rintro x w3 ⟨rfl, hb⟩; have B2 := hide (keepD B1.out hb); clear hb)
        | (go_at_call 112; refine (HQ.out _ (HN.out.below B2.out)).mono ?_; rintro x w4 ⟨rfl, hb⟩; have B3 := hide (keepD B2.out hb); clear hb))
      go_ret
      exact ⟨rfl, by first | exact B3.out | exact B2.out⟩
  | true =>
    obtain ⟨r, hr⟩ : ∃ r, r = s.extract 1 s.size := ⟨_, rfl⟩
    have hrl : r.data.toList = s.data.toList.drop 1 := by rw [hr, ext_from]
    have hrs : r.size ≤ s.size := by rw [hr, ByteArray.size_extract]; omega
    have HR : Hid (secL s.data.toList = secI r.data.toList) := by show _ = _; rw [HS.out, if_pos (show [91].isPrefixOf s.data.toList = true from hp), hrl]
    rw [hp, if_pos rfl, show (⟨#[91]⟩ : ByteArray).size = 1 from rfl, ← hr] at HC
    rw [HR.out]
    clear hp HS HR hr hrl
    have HK := hide (fd.cut_any r 93 w (by omega))
    have l1 := before_le 93 r.data.toList
    have l2 := behind_le 93 r.data.toList
    rw [len_list] at l1 l2
    have HA := hide (fun W => all_any ⟨(before 93 r.data.toList).toArray⟩ _ numB W (by rw [str_size]; omega) num_enters num_tests)
    have HQ := hide (fun W h => beh_any ⟨(behind 93 r.data.toList).toArray⟩ W (by rw [str_size]; omega) h)
    have HS : Hid (secI r.data.toList = (r.data.toList.contains 93 && (!(before 93 r.data.toList).isEmpty && ((before 93 r.data.toList).all numB && behL (behind 93 r.data.toList))))) := rfl
    change Hid (∀ W, Calls _ _ _ _ fun e w' => e = .returned (.bool ((before 93 r.data.toList).all numB)) ∧ _) at HA
    change Hid (∀ W h, Calls _ _ _ _ fun e w' => e = .returned (.bool (behL (behind 93 r.data.toList))) ∧ _) at HQ
    generalize r.data.toList.contains 93 = t at *
    generalize (before 93 r.data.toList).all numB = u at *
    generalize behL (behind 93 r.data.toList) = v at *
    generalize before 93 r.data.toList = bl at *
    generalize behind 93 r.data.toList = be at *
    cases t <;> cases u <;> cases bl
    all_goals
      go_enter Tryz.func89, Tryz.ntmps89
      go_wp2_with (first
        | (go_at_call 71; refine HC.out.mono ?_; rintro x w1 ⟨rfl, hw⟩; obtain rfl := hw.symm)
        | (go_at_call 110; refine HK.out.mono ?_; rintro x w2 ⟨rfl, hb⟩; have B1 := hide hb; clear hb)
        | (go_at_call 88; refine (HA.out _).mono ?_; rintro x w3 ⟨rfl, hw⟩; obtain rfl := hw.symm)
        | (go_at_call 112; refine (HQ.out _ (HN.out.below B1.out)).mono ?_; rintro x w4 ⟨rfl, hb⟩; have B3 := hide (keepD B1.out hb); clear hb))
      go_ret
      exact ⟨by rw [HS.out]; rfl, by first | exact B3.out | exact B1.out⟩

end Go.Proofs.YtilhfmhjgfmejaaGreatDoor.tm
