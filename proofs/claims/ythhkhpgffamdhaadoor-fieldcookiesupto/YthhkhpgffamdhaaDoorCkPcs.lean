import Derived.Test.YthhkhpgffamdhaaDoorCkRd2
import Derived.Test.YthhkhpgffamdhaaDoorFieldTrim
namespace Go.Proofs.YthhkhpgffamdhaaDoor.fd
open Go.ChangeShapes Go.WideShapes Go.ChangeAt Go.RowKit Go.Proofs.YthhkhpgffamdhaaDoor.common Go.Proofs.YthhkhpgffamdhaaDoor.bk

theorem At.keep {w w' : World} {b : Nat} {s : ByteArray} {l : List UInt8} (h : At w b s l) (hb : Below w.heap.size w w') : At w' b s l := by
  have hlt : b < w.heap.size := World.block_lt_of_cell? w _ h.2.c0
  exact ⟨h.1, (hb.cell hlt).trans h.2.c0, (hb.cell hlt).trans h.2.c1, (hb.frozen (p := ⟨b, 1, none⟩) hlt).trans h.2.f1, h.2.tab.below hb⟩

/-- what is left behind a piece and its semicolon -/
def pcRest (l : List UInt8) : List UInt8 := (tk 59 (l.dropWhile isPc)).2
/-- the pieces with one more, if it is not empty -/
def pcAdd (acc : List (List UInt8)) (l : List UInt8) : List (List UInt8) := if Fd.trim (l.takeWhile isPc) = [] then acc else acc ++ [Fd.trim (l.takeWhile isPc)]
/-- the pieces, up to one past the limit -/
def pcs : Nat → List UInt8 → List (List UInt8) → List (List UInt8)
  | 0, _, acc => acc
  | n + 1, l, acc => if l = [] ∨ 16 < acc.length then acc else pcs n (pcRest l) (pcAdd acc l)

theorem tk_len (c : UInt8) (l : List UInt8) : (tk c l).2.length ≤ l.length := by
  cases l with
  | nil => exact Nat.le_refl _
  | cons x r =>
    by_cases h : x = c
    · rw [tk_yes r h]; exact Nat.le_succ _
    · rw [tk_no r h]; exact Nat.le_refl _
theorem pcRest_len (x : UInt8) (l : List UInt8) : (pcRest (x :: l)).length ≤ l.length := by
  unfold pcRest
  by_cases h : x = 59
  · have e : isPc x = false := decide_eq_false (fun k => k h)
    rw [List.dropWhile_cons_of_neg (by rw [e]; decide), tk_yes l h]
    exact Nat.le_refl _
  · have e : isPc x = true := decide_eq_true h
    rw [List.dropWhile_cons_of_pos e]
    exact Nat.le_trans (tk_len _ _) (List.dropWhile_suffix _).length_le
theorem pcs_fuel : ∀ (n m : Nat) (l : List UInt8) (acc : List (List UInt8)), l.length ≤ n → l.length ≤ m → pcs n l acc = pcs m l acc := by
  intro n
  induction n with
  | zero =>
    intro m l acc h1 _
    obtain rfl : l = [] := List.length_eq_zero_iff.1 (by omega)
    cases m with
    | zero => rfl
    | succ m => show acc = if _ then _ else _; rw [if_pos (Or.inl rfl)]
  | succ n ih =>
    intro m l acc h1 h2
    cases l with
    | nil =>
      cases m with
      | zero => show (if _ then _ else _) = acc; rw [if_pos (Or.inl rfl)]
      | succ m => show (if _ then _ else _) = if _ then _ else _; rw [if_pos (Or.inl rfl), if_pos (Or.inl rfl)]
    | cons x r =>
      cases m with
      | zero => simp at h2
      | succ m =>
        have hr := pcRest_len x r
        rw [List.length_cons] at h1 h2
        show (if _ then _ else _) = if _ then _ else _
        rw [ih m (pcRest (x :: r)) (pcAdd acc (x :: r)) (by omega) (by omega)]
/-- the pieces that follow those that were found -/
def pcsL (l : List UInt8) (acc : List (List UInt8)) : List (List UInt8) := pcs l.length l acc
theorem pcsL_nil (acc : List (List UInt8)) : pcsL [] acc = acc := rfl
theorem pcsL_full (l : List UInt8) (acc : List (List UInt8)) (h : 16 < acc.length) : pcsL l acc = acc := by
  unfold pcsL
  cases l with
  | nil => rfl
  | cons x r => show (if _ then _ else _) = _; rw [if_pos (Or.inr h)]
theorem pcsL_next (x : UInt8) (r : List UInt8) (acc : List (List UInt8)) (h : acc.length ≤ 16) : pcsL (x :: r) acc = pcsL (pcRest (x :: r)) (pcAdd acc (x :: r)) := by
  have hr := pcRest_len x r
  unfold pcsL
  show (if _ then _ else _) = _
  rw [if_neg (fun e => e.elim (fun e => by cases e) (fun e => by omega))]
  exact pcs_fuel _ _ _ _ (by omega) (Nat.le_refl _)

end Go.Proofs.YthhkhpgffamdhaaDoor.fd
