import Derived.Test.YtmdjppjfjkgnpaaGreatDoorTmAny
import Derived.Test.YtmdjppjfjkgnpaaGreatDoorTermLays4
import Derived.Shelf.Pu.ParseUintPublic10
namespace Go.Proofs.YtmdjppjfjkgnpaaGreatDoor.tm
open Go.ChangeShapes Go.WideShapes Go.ChangeAt Go.RowKit Go.Proofs.YtmdjppjfjkgnpaaGreatDoor.common Go.Proofs.YtmdjppjfjkgnpaaGreatDoor.bk
attribute [local go_sem ↓] Go.wp_at_zero Go.wp_at_succ

/-- what stands ahead of the first of these bytes, and the rest -/
def hd (cs l : List UInt8) : List UInt8 := l.takeWhile fun b => !cs.contains b
def tl (cs l : List UInt8) : List UInt8 := l.dropWhile fun b => !cs.contains b
theorem hd_tl (cs l : List UInt8) : hd cs l ++ tl cs l = l := List.takeWhile_append_dropWhile
theorem hd_le (cs l : List UInt8) : (hd cs l).length ≤ l.length := (List.takeWhile_prefix _).length_le
theorem tl_le (cs l : List UInt8) : (tl cs l).length ≤ l.length := (List.dropWhile_suffix _).length_le
theorem hd_take (cs l : List UInt8) : l.take (hd cs l).length = hd cs l := by
  conv => lhs; arg 2; rw [← hd_tl cs l]
  exact List.take_left
theorem tl_drop (cs l : List UInt8) : l.drop (hd cs l).length = tl cs l := by
  conv => lhs; arg 2; rw [← hd_tl cs l]
  exact List.drop_left
theorem indexAny_hd (cs : List UInt8) : ∀ l : List UInt8, (Lib.indexAny l cs = ((hd cs l).length : Int)) ∨ (Lib.indexAny l cs = -1 ∧ (hd cs l).length = l.length)
  | [] => Or.inr ⟨rfl, rfl⟩
  | b :: l => by
    unfold Lib.indexAny hd
    by_cases hb : cs.contains b = true
    · rw [if_pos hb, List.takeWhile_cons_of_neg (by rw [hb]; decide)]
      exact Or.inl rfl
    · rw [Bool.not_eq_true] at hb
      rw [if_neg (by rw [hb]; decide), List.takeWhile_cons_of_pos (by rw [hb]; rfl), List.length_cons, List.length_cons]
      rcases indexAny_hd cs l with h | ⟨h1, h2⟩
      · unfold hd at h
        rw [h, if_neg (by rw [beq_iff_eq]; omega)]
        exact Or.inl (by omega)
      · unfold hd at h2
        rw [h1, if_pos (show ((-1 : Int) == -1) = true from rfl)]
        exact Or.inr ⟨rfl, by omega⟩

set_option maxRecDepth 100000 in
theorem indexAny_any (s cs : ByteArray) (w : World) (hs : s.size < 4294967281) (h2 : 2 ≤ cs.size) (h3 : cs.size ≤ 3) (ha : Asc cs) :
    Calls Tryz.prog 50 #[.string s, .string cs] w fun e w' => e = .returned (.int .i64 (Lib.indexAny s.data.toList cs.data.toList)) ∧ Below w.heap.size w w' := by
  by_cases h8 : s.size ≤ 8
  · exact indexAny_short s cs w h2 h3 h8 ha
  · have h116 : (Tryz.prog.info? (jl.lays153_ren.t 116)).map (fun i => (i.zero, i.size)) = some (some (.agg (Array.replicate 256 (.bool false))), 256) := by kernel_rfl
    have hz := zero_of_info h116
    refine (Any.strings_IndexAny_long jl.lays153 hz.1 hz.2 s cs w h2 (by omega) hs (by omega) (fun j b hj => ?_)).mono ?_
    · obtain ⟨hk, e⟩ := List.getElem?_eq_some_iff.1 hj
      have hk3 : j < cs.size := by rw [← len_list]; exact hk
      have := ha j hk3
      have e2 : cs[j]'hk3 = b := e
      rwa [e2] at this
    · rintro e w' ⟨rfl, rfl⟩
      exact ⟨rfl, ((Below.refl _ _).alloc (Nat.le_refl _) _).alloc (by simp) _⟩

set_option maxRecDepth 100000 in
set_option maxHeartbeats 1600000 in
theorem ahead_any (s cs : ByteArray) (w : World) (hs : s.size < 4294967281) (h2 : 2 ≤ cs.size) (h3 : cs.size ≤ 3) (ha : Asc cs) :
    Calls Tryz.prog 39 #[.string s, .string cs] w fun e w' => e = .returned (.int .i64 ((hd cs.data.toList s.data.toList).length : Int)) ∧ Below w.heap.size w w' := by
  have HI := hide (indexAny_any s cs w hs h2 h3 ha)
  have HC := indexAny_hd cs.data.toList s.data.toList
  rw [len_list] at HC
  have hl := hd_le cs.data.toList s.data.toList
  rw [len_list] at hl
  generalize (hd cs.data.toList s.data.toList).length = n at *
  generalize Lib.indexAny s.data.toList cs.data.toList = i at *
  clear ha
  rcases HC with rfl | ⟨rfl, rfl⟩
  · have h0 : (0 : Int) ≤ (n : Int) := Int.natCast_nonneg _
    go_enter Tryz.func39, Tryz.ntmps39
    go_wp2_with (go_at_call 50; refine HI.out.mono ?_; rintro x w2 ⟨rfl, hb⟩; have HB := hide hb; clear hb)
    go_ret
    exact ⟨rfl, HB.out⟩
  · go_enter Tryz.func39, Tryz.ntmps39
    go_wp2_with (go_at_call 50; refine HI.out.mono ?_; rintro x w2 ⟨rfl, hb⟩; have HB := hide hb; clear hb)
    go_ret
    exact ⟨rfl, HB.out⟩

/-- the errors of strconv lie in their variables -/
structure Nums (w : World) : Prop where
  syn : ∃ te pe, w.cell? ⟨16, 0, none⟩ = some (.iface te pe)
  rng : ∃ te pe, w.cell? ⟨17, 0, none⟩ = some (.iface te pe)
theorem Nums.below {w w' : World} (h : Nums w) (hb : Below w.heap.size w w') : Nums w' := by
  obtain ⟨t1, p1, h1⟩ := h.syn
  obtain ⟨t2, p2, h2⟩ := h.rng
  exact ⟨⟨t1, p1, (hb.cell (World.block_lt_of_cell? w _ h1)).trans h1⟩, ⟨t2, p2, (hb.cell (World.block_lt_of_cell? w _ h2)).trans h2⟩⟩

def is16 (l : List UInt8) : Bool := match Lib.parseUintB 16 l with | .ok _ => true | _ => false
/-- a port -/
def portL (l : List UInt8) : Bool := is16 l && decide ((l.headD 0).toNat ≠ 48)

theorem parse_any (s : ByteArray) (w : World) (hs : s.size ≤ 281474976710656) (h : Nums w) :
    Calls Tryz.prog 61 #[.string s, .int .i64 10, .int .i64 16] w fun e w' => Below w.heap.size w w' ∧ ∃ x ev, e = .returned (.tuple #[.int .u64 x, ev]) ∧ ((is16 s.data.toList = true ∧ ev = .nilIface) ∨ (is16 s.data.toList = false ∧ ∃ t p, ev = .iface t (.pointer (some p)))) := by
  obtain ⟨te, pe, h1⟩ := h.syn
  obtain ⟨tr, pr, h2⟩ := h.rng
  unfold is16
  rcases h : Lib.parseUintB 16 s.data.toList with v | _ | _
  · refine (Any.strconv_ParseUint_10_at16_ok jl.laysPu14 s (by omega) v h w).mono ?_
    rintro e w' ⟨rfl, hw⟩
    refine ⟨?_, _, _, rfl, Or.inl ⟨rfl, rfl⟩⟩
    rcases hw with rfl | rfl
    · exact Below.refl _ _
    · exact ⟨rfl, rfl, rfl, by rw [Lib.bytesWorld_size]; omega, fun j hj => Lib.bytesWorld_at_old _ _ _ j hj⟩
  · refine (Any.strconv_ParseUint_10_at16_syntax jl.laysPu14 s hs h _ w h1 (Or.inr ⟨te, pe, rfl⟩)).mono ?_
    rintro e w' ⟨N, rfl, _, _, hb⟩
    exact ⟨hb, _, _, rfl, Or.inr ⟨rfl, _, _, rfl⟩⟩
  · refine (Any.strconv_ParseUint_10_at16_range jl.laysPu14 s hs h _ w h2 (Or.inr ⟨tr, pr, rfl⟩)).mono ?_
    rintro e w' ⟨N, rfl, _, _, hb⟩
    exact ⟨hb, _, _, rfl, Or.inr ⟨rfl, _, _, rfl⟩⟩

theorem is16_nil : is16 [] = false := rfl
set_option maxRecDepth 100000 in
set_option maxHeartbeats 1600000 in
theorem port_any (s : ByteArray) (w : World) (hs : s.size ≤ 281474976710656) (h : Nums w) :
    Calls Tryz.prog 49 #[.string s] w fun e w' => e = .returned (.bool (portL s.data.toList)) ∧ Below w.heap.size w w' := by
  have HP := hide (parse_any s w hs h)
  have HS : Hid (portL s.data.toList = (is16 s.data.toList && decide ((s.data.toList.headD 0).toNat ≠ 48))) := rfl
  have HL : Hid (is16 s.data.toList = true → 0 < s.size) := by
    intro h
    cases hz : s.size with
    | succ n => omega
    | zero =>
      have : s.data.toList = [] := List.eq_nil_of_length_eq_zero (by rw [len_list]; exact hz)
      rw [this, is16_nil] at h; exact absurd h (by decide)
  generalize hi : is16 s.data.toList = t at *
  clear h hi
  go_enter Tryz.func49, Tryz.ntmps49
  go_wp2_with fail
  refine HP.out.mono ?_
  rintro x w2 ⟨hb, x, ev, rfl, hres⟩
  have HB := hide hb
  clear hb
  rcases hres with ⟨rfl, rfl⟩ | ⟨rfl, te, pe, rfl⟩
  · have hp := HL.out rfl
    have hpi : (0 : Int) < (s.size : Int) := by omega
    have HH := hide (head_is s hp)
    rcases is_cases 48 48 rfl s[0] with ⟨u1, a1, a2⟩ | ⟨u1, a1, a2⟩
    all_goals
      go_wp2_with fail
      go_ret
      exact ⟨by rw [HS.out, HH.out]; simp [bne, a2, u1], HB.out⟩
  · go_wp2_with fail
    go_ret
    exact ⟨by rw [HS.out]; rfl, HB.out⟩

end Go.Proofs.YtmdjppjfjkgnpaaGreatDoor.tm
