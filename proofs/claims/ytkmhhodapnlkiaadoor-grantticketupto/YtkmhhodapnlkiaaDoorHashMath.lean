import Derived.Test.YtkmhhodapnlkiaaDoorPadMath
namespace Go.Proofs.YtkmhhodapnlkiaaDoor.Sha

theorem after_append (l x : List UInt8) (q : Nat) (h : 64 * q ≤ l.length) : after (l ++ x) q = after l q := by
  induction q with
  | zero => rfl
  | succ q ih =>
    simp only [after]
    rw [ih (by omega)]
    congr 1
    rw [List.drop_append_of_le_length (by omega), List.take_append_of_le_length (by simp; omega)]

/-- the buffer behind a copy -/
def over (pc : List UInt8) (c : Nat) (x : List UInt8) : List UInt8 := pc.take c ++ x ++ pc.drop (c + x.length)

theorem over_length (pc : List UInt8) (c : Nat) (x : List UInt8) (h : c + x.length ≤ pc.length) : (over pc c x).length = pc.length := by
  simp [over]; omega

/-- behind m bytes that don't fill the piece -/
theorem buf_part (l x pc : List UInt8) (hp : pc.length = 64) (h : pc.take (l.length % 64) = l.drop (64 * (l.length / 64))) (hx : l.length % 64 + x.length < 64) :
    (l ++ x).length / 64 = l.length / 64 ∧ (over pc (l.length % 64) x).take ((l ++ x).length % 64) = (l ++ x).drop (64 * ((l ++ x).length / 64)) := by
  have e1 : (l ++ x).length / 64 = l.length / 64 := by simp; omega
  have e2 : (l ++ x).length % 64 = l.length % 64 + x.length := by simp; omega
  refine ⟨e1, ?_⟩
  rw [e1, e2, List.drop_append_of_le_length (by omega), ← h]
  unfold over
  have e3 : l.length % 64 + x.length = (List.take (l.length % 64) pc ++ x).length := by simp; omega
  rw [List.take_append_of_le_length (by simp; omega)]
  rw [List.take_of_length_le (by simp; omega)]

/-- behind m bytes that fill it -/
theorem buf_full (l x pc : List UInt8) (hp : pc.length = 64) (h : pc.take (l.length % 64) = l.drop (64 * (l.length / 64))) (hx : l.length % 64 + x.length = 64) :
    (l ++ x).length / 64 = l.length / 64 + 1 ∧ (l ++ x).length % 64 = 0 ∧ over pc (l.length % 64) x = (l ++ x).drop (64 * (l.length / 64)) := by
  have e1 : (l ++ x).length / 64 = l.length / 64 + 1 := by simp; omega
  have e2 : (l ++ x).length % 64 = 0 := by simp; omega
  refine ⟨e1, e2, ?_⟩
  rw [List.drop_append_of_le_length (by omega), ← h]
  unfold over
  rw [hx, List.drop_of_length_le (by omega)]
  simp

theorem after_full (l x pc : List UInt8) (hp : pc.length = 64) (h : pc.take (l.length % 64) = l.drop (64 * (l.length / 64))) (hx : l.length % 64 + x.length = 64) :
    after (l ++ x) ((l ++ x).length / 64) = comp (after l (l.length / 64)) (over pc (l.length % 64) x) := by
  obtain ⟨e1, _, e3⟩ := buf_full l x pc hp h hx
  rw [e1, e3]
  simp only [after]
  rw [after_append _ _ _ (by omega), List.take_of_length_le (by simp; omega)]

end Go.Proofs.YtkmhhodapnlkiaaDoor.Sha
