import Derived.Test.YthkbheojjcdglabDoorListKit
namespace Go.Proofs.YthkbheojjcdglabDoor.lst
open Go.ChangeShapes Go.WideShapes Go.ChangeAt Go.RowKit Go.Proofs.YthkbheojjcdglabDoor.common
attribute [local go_sem ↓] Go.wp_at_zero Go.wp_at_succ

/-- the first k turned -/
def mix (l : List PB) (k : Nat) : List PB := ((l.take k).map fun p => (p.2, p.1)) ++ l.drop k
theorem mix_zero (l : List PB) : mix l 0 = l := by simp [mix]
theorem mix_all (l : List PB) : mix l l.length = l.map fun p => (p.2, p.1) := by simp [mix]
theorem mix_len (l : List PB) (k : Nat) : (mix l k).length = l.length := by simp [mix]; omega
theorem mix_at (l r : List PB) (k : Nat) (h : k < l.length) : (mix l k ++ r)[k]'(by rw [List.length_append, mix_len]; omega) = l[k] := by
  have : (mix l k ++ r)[k]? = some l[k] := by
    rw [List.getElem?_append_left (by rw [mix_len]; exact h)]
    unfold mix
    rw [List.getElem?_append_right (by simp; omega)]
    simp; rw [Nat.min_eq_left (by omega)]; simp [h]
  exact (List.getElem?_eq_some_iff.1 this).2
theorem mix_set (l r : List PB) (k : Nat) (h : k < l.length) : (mix l k ++ r).set k (l[k].2, l[k].1) = mix l (k + 1) ++ r := by
  have e : l.drop k = l[k] :: l.drop (k + 1) := List.drop_eq_getElem_cons h
  unfold mix
  rw [e, takeP l k h, List.map_append, List.append_assoc, List.set_append_right _ _ (by rw [List.length_map, List.length_take]; exact Nat.min_le_left _ _)]
  simp only [List.length_map, List.length_take]
  rw [Nat.min_eq_left (by omega), Nat.sub_self]
  simp only [List.cons_append, List.set_cons_zero, List.map_cons, List.map_nil, List.append_assoc, List.nil_append]

set_option maxRecDepth 100000 in
set_option maxHeartbeats 1600000 in
theorem turn_any (g n cap : Nat) (l r : List PB) (w : World) (hn : l.length = n) (hr : Row w g (l ++ r)) (hs : l.length ≤ 4611686018427387904) :
    Calls Tryd.prog 13 #[.slice (some ⟨g, 0, none⟩) n cap] w fun e w' => e = .returned (.slice (some ⟨g, 0, none⟩) n cap) ∧ Row w' g ((l.map fun p => (p.2, p.1)) ++ r) ∧ Below g w w' := by
  go_enter Tryd.func13, Tryd.ntmps13
  have HR := hide hr
  clear hr
  go_wp2_with fail
  go_loopw [3] (fun i wr => ∃ k : Nat, k ≤ n ∧ i = .int .i64 k ∧ Row wr g (mix l k ++ r) ∧ Below g w wr) (fun i _ => n - (intOf i).toNat)
  case atStart => exact ⟨0, Nat.zero_le _, rfl, by rw [mix_zero]; exact HR.out, Below.refl _ _⟩
  case round =>
    obtain ⟨k, hk, rfl, hrow, hnx⟩ := hrel
    by_cases hlt : k < n
    · have hki : (k : Int) < (n : Int) := by omega
      have hkl : k < (mix l k ++ r).length := by rw [List.length_append, mix_len]; omega
      have d0 : wr.cell? ⟨g, k * 2, none⟩ = some (.string (l[k]'(by omega)).1) := by
        have := hrow.2 _ _ (cl_get0 _ k hkl)
        rw [Nat.zero_add] at this
        rw [this, mix_at l r k (by omega)]
      have d1 : wr.cell? ⟨g, k * 2 + 1, none⟩ = some (.string (l[k]'(by omega)).2) := by
        have := hrow.2 _ _ (cl_get1 _ k hkl)
        rw [Nat.zero_add] at this
        rw [this, mix_at l r k (by omega)]
      have f0 : wr.frozen? ⟨g, k * 2, none⟩ = false := by simpa using (hrow.1 (k * 2) (by omega)).2
      have f1 : wr.frozen? ⟨g, k * 2 + 1, none⟩ = false := by simpa using (hrow.1 (k * 2 + 1) (by omega)).2
      have HRW := hide (hrow.set k hkl ((l[k]'(by omega)).2, (l[k]'(by omega)).1))
      rw [mix_set l r k (by omega)] at HRW
      have HX := hide hnx
      clear hrow hnx
      generalize l[k]'(by omega) = p at *
      have k0 : (0 : Int) ≤ (k : Int) := Int.natCast_nonneg _
      go_wp2_with fail
      go_region
      all_goals
        go_wp2_with fail
        go_roundw
        case rel => exact ⟨k + 1, by omega, by go_num, HRW.out.drew, ((HX.out.setCell (Nat.le_refl _) _).setCell (Nat.le_refl _) _).drew⟩
        case measure => simp [intOf]; omega
    · obtain rfl : k = n := by omega
      have e : mix l k = l.map fun p => (p.2, p.1) := by rw [← hn]; exact mix_all l
      rw [e] at hrow
      have H1 := hide hrow
      have H2 := hide hnx
      clear hrow hnx e
      go_wp2_with fail
      go_ret
      exact ⟨rfl, H1.out, H2.out⟩

theorem lies_map {w : World} {g : Nat} (l : List PB) {r : List PB} (h : Row w g ((l.map fun p => (p.2, p.1)) ++ r)) (hg : g < w.heap.size) (cap : Nat) : Lies w (.slice (some ⟨g, 0, none⟩) l.length cap) (l.map fun p => (p.2, p.1)) := by
  have := h.lies hg l.length cap (by rw [List.length_append, List.length_map]; omega)
  rw [List.take_append_of_le_length (by rw [List.length_map]; exact Nat.le_refl _), List.take_of_length_le (by rw [List.length_map]; exact Nat.le_refl _)] at this
  exact this

theorem turn_own (v : Value) (l : List PB) (w : World) {base : Nat} {e : TypeId} (h : w.ownsRow base e 2 v l.length (cl l)) (hs : l.length ≤ 4611686018427387904) :
    Calls Tryd.prog 13 #[v] w fun x w' => x = .returned v ∧ Lies w' v (l.map fun p => (p.2, p.1)) ∧ Below base w w' := by
  rcases row_of_own h with ⟨rfl, rfl⟩ | ⟨g, cap, rfl, hb, hg, hr, _⟩
  · go_enter Tryd.func13, Tryd.ntmps13
    go_wp2_with fail
    go_loopw [3] (fun i wr => i = .int .i64 0 ∧ wr = w) (fun _ _ => 0)
    case atStart => exact ⟨rfl, rfl⟩
    case round =>
      obtain ⟨rfl, rfl⟩ := hrel
      go_wp2_with fail
      go_ret
      exact ⟨rfl, ⟨none, 0, rfl, fun i hi => absurd hi (Nat.not_lt_zero _)⟩, Below.refl _ _⟩
  · refine (turn_any g l.length cap l [] w rfl (by rw [List.append_nil]; exact hr) hs).mono ?_
    rintro x w' ⟨rfl, hr', hb'⟩
    exact ⟨rfl, lies_map l hr' (Nat.lt_of_lt_of_le hg hb'.size) cap, hb'.mono hb⟩

theorem keepT {W X X' : World} {g : Nat} (hg : W.heap.size ≤ g) (h : Below W.heap.size W X) (hb : Below g X X') : Below W.heap.size W X' := h.trans (hb.mono hg)

end Go.Proofs.YthkbheojjcdglabDoor.lst
