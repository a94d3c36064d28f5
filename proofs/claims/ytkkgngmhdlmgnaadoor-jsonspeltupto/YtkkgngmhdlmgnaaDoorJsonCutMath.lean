import Derived.Test.YtkkgngmhdlmgnaaDoorJsonObj
namespace Go.Proofs.YtkkgngmhdlmgnaaDoor.Json
open Go.Lib

/-! ### what is read is read the same with more behind it -/
theorem blanks_ext : ∀ (l t : By), blanks l ≠ [] → blanks (l ++ t) = blanks l ++ t
  | [], t, h => absurd rfl h
  | c :: r, t, h => by
    unfold blanks at h ⊢
    rw [List.cons_append, List.dropWhile_cons, List.dropWhile_cons]
    rw [List.dropWhile_cons] at h
    split
    · rename_i hb
      rw [if_pos hb] at h
      exact blanks_ext r t h
    · rfl
theorem part_ext {c : UInt8} {l r : By} (h : part c l = some r) (hr : r ≠ []) (t : By) : part c (l ++ t) = some (r ++ t) := by
  cases l with
  | nil => cases h
  | cons d s =>
    simp only [part] at h
    split at h
    · rename_i hd
      injection h with h
      simp only [List.cons_append, part]
      rw [if_pos hd, blanks_ext s t (by rw [h]; exact hr), h]
    · cases h
theorem hexs_ext : ∀ (k n : Nat) (l : By) {m : Nat} {r : By} (t : By), hexs k n l = some (m, r) → hexs k n (l ++ t) = some (m, r ++ t)
  | 0, n, l, m, r, t, h => by
    simp only [hexs, Option.some.injEq, Prod.mk.injEq] at h ⊢
    exact ⟨h.1, by rw [h.2]⟩
  | k + 1, n, [], m, r, t, h => by simp [hexs] at h
  | k + 1, n, c :: s, m, r, t, h => by
    simp only [List.cons_append, hexs] at h ⊢
    split at h
    · cases h
    · exact hexs_ext k _ s t h
theorem word_ext {p l r : By} (h : word p l = some r) (t : By) : word p (l ++ t) = some (r ++ t) := by
  obtain ⟨_, rfl⟩ := word_le h
  rw [List.append_assoc, word_append]
theorem numbered_ext {l r : By} {n : Nat} (h : numbered l = some (n, r)) (t : By) : numbered (l ++ t) = some (n, r ++ t) := by
  unfold numbered at h ⊢
  split at h
  · cases h
  · rename_i a r0 e0
    rw [show unit (l ++ t) = some (a, r0 ++ t) from hexs_ext 4 0 l t e0]
    simp only
    split at h
    · rename_i hc
      injection h with h; injection h with h1 h2; subst h1; subst h2
      rw [if_pos hc]
    · rename_i hc
      rw [if_neg hc]
      split at h
      · cases h
      · rename_i r1 e1
        rw [word_ext e1 t]
        simp only
        split at h
        · cases h
        · rename_i k r2 e2
          rw [show unit (r1 ++ t) = some (k, r2 ++ t) from hexs_ext 4 0 r1 t e2]
          simp only
          split at h
          · rename_i hk
            have h3 := Option.some.inj h
            have h1 := congrArg Prod.fst h3
            have h2 := congrArg Prod.snd h3
            dsimp only at h1 h2
            rw [if_pos hk, h1, h2]
          · cases h
theorem escaped_ext {l r : By} {n : Nat} (h : escaped l = some (n, r)) (t : By) : escaped (l ++ t) = some (n, r ++ t) := by
  cases l with
  | nil => cases h
  | cons c s =>
    simp only [List.cons_append, escaped] at h ⊢
    split at h
    · rename_i hc
      rw [if_pos hc]; exact numbered_ext h t
    · rename_i hc
      rw [if_neg hc]
      split at h
      · cases h
      · rename_i m hm
        injection h with h; injection h with h1 h2; subst h1; subst h2
        rfl
theorem char_ext {l r : By} {n : Nat} (h : char l = some (n, r)) (t : By) : char (l ++ t) = some (n, r ++ t) := by
  cases l with
  | nil => cases h
  | cons c s =>
    simp only [char] at h
    by_cases hc : c = 92
    · rw [if_pos hc] at h
      simp only [List.cons_append, char]
      rw [if_pos hc]; exact escaped_ext h t
    · rw [if_neg hc] at h
      simp only [List.cons_append, char]
      rw [if_neg hc]
      split at h
      · cases h
      · rename_i hb
        injection h with h; injection h with h1 h2
        have hb2 : ¬ bad (c :: s) := fun x => hb (Or.inr x)
        have hb3 : ¬ (decodeL (c :: s)).1 < 32 := fun x => hb (Or.inl x)
        have he := encode_decode (c :: s) (by simp) hb2
        have hl := decodeL_le (c :: s) (by simp)
        have hcs : encodeRune ((decodeL (c :: s)).1 : Int) ++ (r ++ t) = c :: (s ++ t) := by
          rw [he, ← h2, ← List.append_assoc, List.take_append_drop]; rfl
        obtain ⟨k1, k2⟩ := decode_encode (decodeL (c :: s)).1 (decode_ok _) (r ++ t)
        rw [hcs] at k1 k2
        have hn : ¬ ((decodeL (c :: (s ++ t))).1 < 32 ∨ bad (c :: (s ++ t))) := by
          rintro (x | x)
          · rw [k1] at x; exact hb3 x
          · exact k2 x
        rw [if_neg hn, k1, ← h1, ← hcs]
        simp
theorem chars_ext : ∀ (n m : Nat) (acc l : By) {u r : By} (t : By), chars n acc l = some (u, r) → (l ++ t).length < m → chars m acc (l ++ t) = some (u, r ++ t)
  | 0, _, _, _, _, _, _, h, _ => by simp [chars] at h
  | _ + 1, _, _, [], _, _, _, h, _ => by simp [chars] at h
  | n + 1, 0, _, _ :: _, _, _, _, _, hm => by omega
  | n + 1, m + 1, acc, c :: s, u, r, t, h, hm => by
    simp only [chars] at h
    simp only [List.cons_append, chars]
    split at h
    · rename_i hc
      injection h with h; injection h with h1 h2; subst h1; subst h2
      rw [if_pos hc]
    · rename_i hc
      rw [if_neg hc]
      split at h
      · cases h
      · rename_i d r1 e
        have hx := char_ext e t
        rw [List.cons_append] at hx
        rw [hx]
        simp only
        have hlt := char_lt e
        refine chars_ext n m _ r1 t h ?_
        simp only [List.length_append, List.length_cons] at hm hlt ⊢
        omega
theorem quoted_ext {l u r : By} (h : quoted l = some (u, r)) (t : By) : quoted (l ++ t) = some (u, r ++ t) := by
  unfold quoted at h ⊢
  split at h
  · cases h
  · rename_i r0 e
    rw [word_ext e t]
    simp only
    exact chars_ext _ _ _ _ t h (by omega)
theorem dropWhile_ext (p : UInt8 → Bool) : ∀ (l t : By), l.dropWhile p ≠ [] → (l ++ t).dropWhile p = l.dropWhile p ++ t ∧ (l ++ t).takeWhile p = l.takeWhile p
  | [], t, h => absurd rfl h
  | c :: r, t, h => by
    rw [List.dropWhile_cons] at h
    rw [List.cons_append, List.dropWhile_cons, List.dropWhile_cons, List.takeWhile_cons, List.takeWhile_cons]
    split
    · rename_i hb
      rw [if_pos hb] at h
      obtain ⟨h1, h2⟩ := dropWhile_ext p r t h
      exact ⟨h1, by rw [h2]⟩
    · exact ⟨rfl, rfl⟩
theorem digitsOf_ext {l : By} {k : Nat} (h : digitsOf l = some k) (t : By) : digitsOf (l ++ t) = some k := by
  cases l with
  | nil => cases h
  | cons c s =>
    simp only [digitsOf] at h
    simp only [List.cons_append, digitsOf]
    split at h
    · rename_i hc; rw [if_pos hc]; exact h
    · rename_i hc
      rw [if_neg hc]
      split at h
      · cases h
      · rename_i hd
        obtain ⟨h1, h2⟩ := dropWhile_ext isDig (c :: s) t hd
        rw [List.cons_append] at h1 h2
        rw [h1, h2, if_neg (by simp [hd])]; exact h
theorem number_ext {l r : By} {v : Int} (h : number l = some (v, r)) (t : By) : number (l ++ t) = some (v, r ++ t) := by
  cases l with
  | nil => cases h
  | cons c s =>
    simp only [number] at h
    simp only [List.cons_append, number]
    split at h
    · cases h
    · rename_i k hk
      have hk2 : digitsOf (if c = 45 then s ++ t else c :: (s ++ t)) = some k := by
        have := digitsOf_ext hk t
        split at this
        · rename_i hc; rw [if_pos hc]; exact this
        · rename_i hc; rw [if_neg hc]; exact this
      rw [hk2]
      simp only
      have hle := digitsOf_le hk
      have hK : (if c = 45 then k + 1 else k) ≤ (c :: s).length := by
        split at hle <;> simp_all
      rw [show c :: (s ++ t) = (c :: s) ++ t from rfl, List.take_append_of_le_length hK, List.drop_append_of_le_length hK]
      split at h
      · injection h with h; injection h with h1 h2; subst h1; subst h2; rfl
      · cases h
theorem value_ext {l r : By} {m : Mem} (h : value l = some (m, r)) (t : By) : value (l ++ t) = some (m, r ++ t) := by
  cases l with
  | nil => cases h
  | cons c s =>
    simp only [value] at h
    simp only [List.cons_append, value]
    split at h
    · rename_i hc
      rw [if_pos hc]
      split at h
      · cases h
      · rename_i u r1 e
        injection h with h; injection h with h1 h2; subst h1; subst h2
        have := quoted_ext e t
        rw [List.cons_append] at this
        rw [this]
    · rename_i hc
      rw [if_neg hc]
      split at h
      · rename_i hc2
        rw [if_pos hc2]
        split at h
        · cases h
        · rename_i r1 e
          injection h with h; injection h with h1 h2; subst h1; subst h2
          have := word_ext e t
          rw [List.cons_append] at this
          rw [this]
      · rename_i hc2
        rw [if_neg hc2]
        split at h
        · rename_i hc3
          rw [if_pos hc3]
          split at h
          · cases h
          · rename_i r1 e
            injection h with h; injection h with h1 h2; subst h1; subst h2
            have := word_ext e t
            rw [List.cons_append] at this
            rw [this]
        · rename_i hc3
          rw [if_neg hc3]
          split at h
          · cases h
          · rename_i n r1 e
            injection h with h; injection h with h1 h2; subst h1; subst h2
            have := number_ext e t
            rw [List.cons_append] at this
            rw [this]
theorem value_ne {l : By} {x : Mem × By} (h : value l = some x) : l ≠ [] := by rintro rfl; cases h
theorem part_ne {c : UInt8} {l r : By} (h : part c l = some r) : l ≠ [] := by rintro rfl; cases h
theorem member_ext {l r : By} {m : Mem} (h : member l = some (m, r)) (hr : r ≠ []) (t : By) : member (l ++ t) = some (m, r ++ t) := by
  unfold member at h ⊢
  split at h
  · cases h
  · rename_i name r0 e0
    rw [quoted_ext e0 t]
    simp only
    split at h
    · cases h
    · rename_i r1 e1
      rw [blanks_ext r0 t (part_ne e1)]
      split at h
      · cases h
      · rename_i k r2 e2
        rw [part_ext e1 (value_ne e2) t]
        simp only
        rw [value_ext e2 t]
        simp only
        injection h with h; injection h with h1 h2
        rw [blanks_ext r2 t (by rw [h2]; exact hr), h1, h2]
theorem quoted_ne {l : By} {x : By × By} (h : quoted l = some x) : l ≠ [] := by
  rintro rfl
  simp [quoted, word, List.isPrefixOf] at h
theorem member_ne {l : By} {x : Mem × By} (h : member l = some x) : l ≠ [] := by
  unfold member at h
  split at h
  · cases h
  · rename_i e; exact quoted_ne e
theorem members_ne : ∀ (n : Nat) {acc : List Mem} {l : By} {x : List Mem × By}, members n acc l = some x → l ≠ []
  | 0, _, _, _, h => by simp [members] at h
  | n + 1, acc, l, x, h => by
    simp only [members] at h
    split at h
    · cases h
    · rename_i e; exact member_ne e
theorem members_ext : ∀ (n k : Nat) (acc : List Mem) (l : By) {ms : List Mem} {r : By} (t : By), members n acc l = some (ms, r) → r ≠ [] → (l ++ t).length < k → members k acc (l ++ t) = some (ms, r ++ t)
  | 0, _, _, _, _, _, _, h, _, _ => by simp [members] at h
  | n + 1, 0, _, _, _, _, _, _, _, hk => by omega
  | n + 1, k + 1, acc, l, ms, r, t, h, hr, hk => by
    simp only [members] at h ⊢
    split at h
    · cases h
    · rename_i m r0 e
      split at h
      · rename_i r1 e1
        rw [member_ext e (part_ne e1) t]
        simp only
        rw [part_ext e1 (members_ne n h) t]
        simp only
        have h1 := member_lt e
        have h2 := part_lt e1
        refine members_ext n k _ r1 t h hr ?_
        simp only [List.length_append] at hk ⊢
        omega
      · rename_i e1
        injection h with h; injection h with h1 h2; subst h1; subst h2
        rw [member_ext e hr t]
        simp only
        have : part 44 (r0 ++ t) = none := by
          cases r0 with
          | nil => exact absurd rfl hr
          | cons c s =>
            simp only [List.cons_append, part] at e1 ⊢
            split at e1
            · cases e1
            · rename_i hc; rw [if_neg hc]
        rw [this]

/-- an object up to and with its brace -/
def upto (l : By) : Option (List Mem × By) :=
  match part 123 (blanks l) with
  | none => none
  | some r => match r with
    | [] => none
    | c :: s => if c = 125 then some ([], s) else match members (r.length + 1) [] r with
      | none => none
      | some (_, []) => none
      | some (ms, c :: s) => if c = 125 then some (ms, s) else none

theorem object_upto (l : By) : object l = match upto l with
    | none => none
    | some (ms, r) => if blanks r = [] then some ms else none := by
  unfold object upto
  split
  · rename_i e; simp [e]
  · rename_i r e
    simp only [e]
    cases r with
    | nil => simp [part, members, member, quoted, word, List.isPrefixOf]
    | cons c s =>
      simp only
      by_cases hc : c = 125
      · simp only [part]
        rw [if_pos hc]
        simp only [if_pos hc]
      · have hp : part 125 (c :: s) = none := by simp only [part]; rw [if_neg hc]
        rw [hp]
        simp only [if_neg hc]
        cases hm : members ((c :: s).length + 1) [] (c :: s) with
        | none => rfl
        | some x =>
          obtain ⟨ms, r1⟩ := x
          cases r1 with
          | nil => rfl
          | cons d q =>
            simp only [part]
            by_cases hd : d = 125
            · rw [if_pos hd]; simp only [if_pos hd]
            · rw [if_neg hd]; simp only [if_neg hd]

theorem upto_ext {l r : By} {ms : List Mem} (h : upto l = some (ms, r)) (t : By) : upto (l ++ t) = some (ms, r ++ t) := by
  unfold upto at h ⊢
  split at h
  · cases h
  · rename_i r0 e
    rw [blanks_ext l t (part_ne e)]
    cases r0 with
    | nil => cases h
    | cons c s =>
      rw [part_ext e (by simp) t]
      simp only [List.cons_append] at h ⊢
      split at h
      · rename_i hc
        injection h with h; injection h with h1 h2; subst h1; subst h2
        rw [if_pos hc]
      · rename_i hc
        rw [if_neg hc]
        split at h
        · cases h
        · cases h
        · rename_i ms' d q e1
          split at h
          · rename_i hd
            injection h with h; injection h with h1 h2; subst h1; subst h2
            have := members_ext _ ((c :: (s ++ t)).length + 1) [] (c :: s) t e1 (by simp) (by simp)
            rw [List.cons_append] at this
            rw [this]
            simp only [List.cons_append]
            rw [if_pos hd]
          · cases h

theorem SpeltObj.upto {ms : List Mem} (h : ∀ m ∈ ms, memOk m) : upto (objOf ms) = some (ms.map bareMem, []) := by
  have ho := (spelt_obj ms h).object
  rw [object_upto] at ho
  cases hu : Json.upto (objOf ms) with
  | none => rw [hu] at ho; cases ho
  | some x =>
    obtain ⟨ks, r⟩ := x
    rw [hu] at ho
    simp only at ho
    split at ho
    · rename_i hb
      injection ho with ho; subst ho
      have key : r = [] := by
        have hk := spelt_obj ms h
        -- the text reads to its last byte
        by_cases he : ms = []
        · subst he
          revert hu
          simp only [objOf, rowOf, Json.upto]
          have : part 123 (blanks (123 :: ([] ++ [125]))) = some [125] := by decide
          rw [this]
          simp only
          rw [if_pos trivial]
          intro hu
          injection hu with hu; injection hu with _ hu; exact hu.symm
        · have hr := spelt_row ms he h
          obtain ⟨s, es⟩ := hr.head
          have hp : part 123 (blanks (objOf ms)) = some (rowOf ms ++ [125]) := by
            unfold objOf
            have : blanks (123 :: (rowOf ms ++ [125])) = 123 :: (rowOf ms ++ [125]) := by unfold blanks; rw [List.dropWhile_cons, if_neg (by decide)]
            rw [this]
            simp only [part]
            rw [if_pos trivial, es, List.cons_append]
            unfold blanks
            rw [List.dropWhile_cons, if_neg (by decide)]
          unfold Json.upto at hu
          rw [hp] at hu
          have hm := SpeltRow.members ms hr ((rowOf ms ++ [125]).length + 1) [] [] (by simp; omega)
          rw [es] at hu hm
          simp only [List.cons_append] at hu hm
          rw [if_neg (by decide)] at hu
          rw [hm] at hu
          simp only at hu
          rw [if_pos trivial] at hu
          injection hu with hu; injection hu with _ hu; exact hu.symm
      rw [key]
    · cases ho

/-- no shorter beginning is an object -/
theorem read_head (ms : List Mem) (h : ∀ m ∈ ms, memOk m) (k : Nat) (hk : k < (objOf ms).length) : read ((objOf ms).take k) = (2, []) := by
  have hu := SpeltObj.upto h
  unfold read
  rw [object_upto]
  cases hc : upto ((objOf ms).take k) with
  | none => rfl
  | some x =>
    exfalso
    obtain ⟨ks, r⟩ := x
    have := upto_ext hc ((objOf ms).drop k)
    rw [List.take_append_drop, hu] at this
    injection this with this; injection this with _ this
    have h2 := congrArg List.length this
    simp only [List.length_nil, List.length_append, List.length_drop] at h2
    omega
/-- nor one with a mark behind it -/
theorem read_more (ms : List Mem) (h : ∀ m ∈ ms, memOk m) (c : UInt8) (hc : bl c = false) : read (objOf ms ++ [c]) = (2, []) := by
  have hu := upto_ext (SpeltObj.upto h) [c]
  unfold read
  rw [object_upto, hu]
  simp only [List.nil_append, blanks, List.dropWhile_cons, hc]
  rfl
end Go.Proofs.YtkkgngmhdlmgnaaDoor.Json
