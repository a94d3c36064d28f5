import Derived.Test.YtkkgngmhdlmgnaaDoorRefMath4
namespace Go.Proofs.YtkkgngmhdlmgnaaDoor.Json
open Go.Lib

theorem blanks_idem (l : By) : blanks (blanks l) = blanks l := by
  unfold blanks
  induction l with
  | nil => rfl
  | cons c r ih =>
    by_cases h : bl c = true
    · rw [List.dropWhile_cons_of_pos h]; exact ih
    · rw [List.dropWhile_cons_of_neg h, List.dropWhile_cons_of_neg h]
theorem part_bl {c : UInt8} {l r : By} (h : part c l = some r) : blanks r = r := by
  cases l with
  | nil => cases h
  | cons d t =>
    simp only [part] at h
    split at h
    · injection h with h; subst h; exact blanks_idem t
    · cases h
theorem memberR_bl {l r : By} {m : Mem} (h : memberR l = some (m, r)) : blanks r = r := by
  unfold memberR at h
  split at h
  · cases h
  · split at h
    · cases h
    · split at h
      · cases h
      · injection h with h; injection h with _ h; subst h; exact blanks_idem _
theorem membersR_bl : ∀ (n : Nat) (acc : List Mem) (l : By) {ms : List Mem} {r : By}, membersR n acc l = some (ms, r) → blanks r = r
  | 0, _, _, _, _, h => by cases h
  | n + 1, acc, l, ms, r, h => by
    simp only [membersR] at h
    split at h
    · cases h
    · rename_i m q e
      split at h
      · exact membersR_bl n _ _ h
      · injection h with h; injection h with _ h; subst h; exact memberR_bl e
/-- what stands ahead of the closing brace -/
def inside (r : By) : Option (List Mem × By) := if r = [] ∨ r.head? = some 125 then some ([], r) else mems [] r
theorem inside_bl {r q : By} {ms : List Mem} (hr : blanks r = r) (h : inside r = some (ms, q)) : blanks q = q := by
  unfold inside at h
  split at h
  · injection h with h; injection h with _ h; subst h; exact hr
  · exact membersR_bl _ _ _ h
theorem object_parts (l : By) : object l = match part 123 (blanks l) with
    | none => none
    | some r => match inside r with
      | none => none
      | some (ms, q) => match part 125 (blanks q) with
        | none => none
        | some r2 => if r2 = [] then some ms else none := by
  rw [object_R, objectR_shut]
  cases hp : part 123 (blanks l) with
  | none => rfl
  | some r =>
    have hb := part_bl hp
    simp only
    have hi : (match inside r with | none => none | some (ms, q) => match part 125 (blanks q) with | none => none | some r2 => if r2 = [] then some ms else none) = shut (inside r) := by
      cases hx : inside r with
      | none => rfl
      | some x =>
        obtain ⟨ms, q⟩ := x
        simp only [shut]
        rw [inside_bl hb hx]
        cases part 125 q <;> rfl
    rw [hi]
    unfold inside
    cases r with
    | nil => rfl
    | cons c t =>
      by_cases hc : c = 125
      · subst hc
        rw [if_pos (show (125 :: t = [] ∨ (125 :: t).head? = some 125) from Or.inr rfl)]
        have : part 125 (125 :: t) = some (blanks t) := by simp [part]
        simp only [shut, this]
      · have : part 125 (c :: t) = none := if_neg hc
        rw [this, if_neg]
        · rfl
        · rintro (h | h)
          · cases h
          · injection h with h; exact hc h
/-- the document's reader as a whole -/
theorem read_no {l : By} (h : object l = none) : read l = (2, []) := by unfold read; rw [h]
theorem read_many {l : By} {ms : List Mem} (h : object l = some ms) (h2 : 32 < ms.length) : read l = (3, []) := by unfold read; rw [h]; exact if_pos h2
theorem read_twice {l : By} {ms : List Mem} (h : object l = some ms) (h2 : ¬ 32 < ms.length) (h3 : twice ms = true) : read l = (4, []) := by
  unfold read; rw [h]; simp only [if_neg h2, if_pos h3]
theorem read_yes {l : By} {ms : List Mem} (h : object l = some ms) (h2 : ¬ 32 < ms.length) (h3 : twice ms = false) : read l = (0, ms) := by
  unfold read; rw [h]; simp only [if_neg h2, h3, Bool.false_eq_true, if_false]
end Go.Proofs.YtkkgngmhdlmgnaaDoor.Json
