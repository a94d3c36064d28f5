import Derived.Test.YticncaoecoehkaaDoorRdKit
import Derived.Test.YticncaoecoehkaaDoorCrcP
import Derived.Test.YticncaoecoehkaaDoorWlMath
import Derived.Deep.RegionHeld3
namespace Go.Proofs.YticncaoecoehkaaDoor.wl
open Go.ChangeShapes Go.WideShapes Go.ChangeAt Go.RowKit Go.Proofs.YticncaoecoehkaaDoor.common Go.Proofs.YticncaoecoehkaaDoor.dk

theorem fits_any (n : Nat) (w : World) (hn : n ≤ 4611686018427387904) : Calls Tryd.prog 64 #[.int .i64 (n : Int)] w fun e w' => e = .returned (.bool (Wl.fit n)) ∧ w' = w := by
  by_cases h1 : 1 ≤ n
  · by_cases h2 : n ≤ 8192
    · have hf : Wl.fit n = true := by simp [Wl.fit, h1, h2]
      have e1 : decide ((n : Int) ≥ 1) = true := by rw [decide_eq_true_eq]; omega
      have e2 : decide ((n : Int) ≤ 8192) = true := by rw [decide_eq_true_eq]; omega
      rw [hf]
      go_enter Tryd.func64, Tryd.ntmps64
      go_wp2
      go_ret
      exact ⟨by simp, rfl⟩
    · have hf : Wl.fit n = false := by simp [Wl.fit]; omega
      rw [hf]
      go_enter Tryd.func64, Tryd.ntmps64
      go_wp2
      go_ret
      exact ⟨by simp; omega, rfl⟩
  · have hf : Wl.fit n = false := by simp [Wl.fit]; omega
    rw [hf]
    go_enter Tryd.func64, Tryd.ntmps64
    go_wp2
    go_ret
    exact ⟨by simp, rfl⟩

theorem set_here {w : World} {g : Nat} {cur : List Value} {t : TypeId} (hc : w.heap[g]? = some (.cells cur.toArray t (0, 0))) (o : Nat) (v : Value) : (w.setCell ⟨g, o, none⟩ v).heap[g]? = some (.cells (cur.set o v).toArray t (0, 0)) := by
  simp [World.setCell, Array.getElem?_modify, hc]

/-- behind k rounds -/
def wn (cur : List Value) (o x k : Nat) : List Value := cur.take (o + 4 - k) ++ (((Wl.num4 x).drop (4 - k)).map B ++ cur.drop (o + 4))

theorem wn_set (cur : List Value) (o x k : Nat) (hk : k < 4) (hc : o + 4 ≤ cur.length) : (wn cur o x k).set (o + (3 - k)) (B ((Wl.num4 x).getD (3 - k) 0)) = wn cur o x (k + 1) := by
  unfold wn
  have e1 : o + (3 - k) < (cur.take (o + 4 - k)).length := by rw [List.length_take]; omega
  rw [List.set_append_left _ _ e1]
  have e2 : o + 4 - k = o + (3 - k) + 1 := by omega
  have e3 : o + 4 - (k + 1) = o + (3 - k) := by omega
  have e4 : (Wl.num4 x).drop (4 - (k + 1)) = [(Wl.num4 x).getD (3 - k) 0] ++ (Wl.num4 x).drop (4 - k) := by
    have : ∀ j : Nat, j < 4 → (Wl.num4 x).drop (4 - (j + 1)) = [(Wl.num4 x).getD (3 - j) 0] ++ (Wl.num4 x).drop (4 - j) := by
      intro j hj
      match j, hj with
      | 0, _ => rfl
      | 1, _ => rfl
      | 2, _ => rfl
      | 3, _ => rfl
    exact this k hk
  rw [e3, e4, e2, List.map_append, List.append_assoc]
  rw [List.take_succ_eq_append_getElem (by omega), List.set_append_right _ _ (by rw [List.length_take]; omega)]
  have e5 : o + (3 - k) - (cur.take (o + (3 - k))).length = 0 := by rw [List.length_take]; omega
  rw [e5]
  simp

theorem num_at (x k : Nat) (hk : k < 4) : Value.int .u8 ((((x / 256 ^ k : Nat) : Int)) % 256) = B ((Wl.num4 x).getD (3 - k) 0) := by
  match k, hk with
  | 0, _ => show Value.int .u8 _ = Value.int .u8 _; congr 1; simp [Wl.num4]
  | 1, _ => show Value.int .u8 _ = Value.int .u8 _; congr 1
  | 2, _ => show Value.int .u8 _ = Value.int .u8 _; congr 1
  | 3, _ => show Value.int .u8 _ = Value.int .u8 _; congr 1

set_option maxRecDepth 100000 in
set_option maxHeartbeats 800000 in
theorem writeNumber_any (w : World) (g o c x : Nat) (hx : x < 4294967296) (cur : List Value) (t : TypeId) (hc : w.heap[g]? = some (.cells cur.toArray t (0, 0))) (ho : o + 4 ≤ cur.length) :
    Calls Tryd.prog 78 #[.slice (some ⟨g, o, none⟩) 4 c, .int .u32 (x : Int)] w fun e w' => e = .returned (.tuple #[]) ∧ w'.heap[g]? = some (.cells (wn cur o x 4).toArray t (0, 0)) ∧ Fr [g] w w' := by
  go_enter Tryd.func78, Tryd.ntmps78
  go_wp2
  go_loopw [7] (fun i wr => ∃ k : Nat, k ≤ 4 ∧ i = .int .i64 k ∧ wr.heap[g]? = some (.cells (wn cur o x k).toArray t (0, 0)) ∧ Fr [g] w wr) (fun i _ => 4 - (intOf i).toNat)
  case atStart => exact ⟨0, Nat.zero_le _, rfl, by rw [hc]; simp [wn, Wl.num4], Fr.refl _ _⟩
  case round =>
    obtain ⟨k, hk, rfl, hh, hf⟩ := hrel
    by_cases hlt : k < 4
    · have hl : (wn cur o x k).length = cur.length := by simp [wn, Wl.num4]; omega
      have fr : ∀ j, wr.frozen? ⟨g, j, none⟩ = false := fun j => free_of hh j
      have ce : ∀ j, j < 4 → ∃ y, wr.cell? ⟨g, o + j, none⟩ = some y := fun j hj => by
        have : o + j < (wn cur o x k).length := by omega
        exact ⟨(wn cur o x k)[o + j], by simp [World.cell?, hh, this]⟩
      obtain ⟨y0, c0⟩ := ce 0 (by omega)
      obtain ⟨y1, c1⟩ := ce 1 (by omega)
      obtain ⟨y2, c2⟩ := ce 2 (by omega)
      obtain ⟨y3, c3⟩ := ce 3 (by omega)
      rw [Nat.add_zero] at c0
      have f0 := fr o
      have f1 := fr (o + 1)
      have f2 := fr (o + 2)
      have f3 := fr (o + 3)
      have HN := hide (num_at x k hlt)
      have HS := hide (wn_set cur o x k hlt ho)
      have HH := hide hh
      have HF := hide hf
      clear hh hf hc fr ce hl
      obtain rfl | rfl | rfl | rfl : k = 0 ∨ k = 1 ∨ k = 2 ∨ k = 3 := by omega
      · go_wp2
        go_roundw
        case rel =>
          refine ⟨1, by decide, by go_num, ?_, HF.out.set _ _ (Or.inl (by simp))⟩
          rw [set_here HH.out, ← HS.out, ← HN.out]
          first | rfl | (congr 4; go_num)
        case measure => simp [intOf]
      · go_wp2
        go_roundw
        case rel =>
          refine ⟨2, by decide, by go_num, ?_, HF.out.set _ _ (Or.inl (by simp))⟩
          rw [set_here HH.out, ← HS.out, ← HN.out]
          first | rfl | (congr 4; go_num)
        case measure => simp [intOf]
      · go_wp2
        go_roundw
        case rel =>
          refine ⟨3, by decide, by go_num, ?_, HF.out.set _ _ (Or.inl (by simp))⟩
          rw [set_here HH.out, ← HS.out, ← HN.out]
          first | rfl | (congr 4; go_num)
        case measure => simp [intOf]
      · go_wp2
        go_roundw
        case rel =>
          refine ⟨4, by decide, by go_num, ?_, HF.out.set _ _ (Or.inl (by simp))⟩
          rw [set_here HH.out, ← HS.out, ← HN.out]
          first | rfl | (congr 4; go_num)
        case measure => simp [intOf]
    · obtain rfl : k = 4 := by omega
      have HH := hide hh
      have HF := hide hf
      clear hh hf hc
      go_wp2
      go_end0
      exact ⟨rfl, HH.out, HF.out⟩

end Go.Proofs.YticncaoecoehkaaDoor.wl
