import Derived.Lib.MapLaws
import Derived.Lib.ValidLaws
import Derived.Lib.AtoiAllCases
import Derived.Lib.ItoaMem
namespace Go.Proofs.YtkkgngmhdlmgnaaDoor.Json
open Go.Lib

abbrev By := List UInt8

/-- a member as it lies in memory: five fields -/
structure Mem where
  name : By
  kind : Int
  text : By
  num : Int
  flag : Bool

/-- no character begins here -/
abbrev bad (l : By) : Prop := (decodeL l).1 = 65533 ∧ (decodeL l).2 = 1

/-! ### writing -/
def dig (n : Nat) : UInt8 := if n < 10 then UInt8.ofNat (48 + n) else UInt8.ofNat (87 + n)

/-- one byte as a quoted text has it -/
def esc (c : UInt8) : By :=
  if c = 34 then [92, 34] else if c = 92 then [92, 92] else if c = 8 then [92, 98] else if c = 9 then [92, 116]
  else if c = 10 then [92, 110] else if c = 12 then [92, 102] else if c = 13 then [92, 114]
  else if c.toNat < 32 then [92, 117, 48, 48, dig (c.toNat / 16), dig (c.toNat % 16)] else [c]

def inner (l : By) : By := l.flatMap esc
def quote (l : By) : By := 34 :: (inner l ++ [34])

def valueOf (m : Mem) : By :=
  if m.kind = 1 then quote m.text else if m.kind = 2 then itoa m.num
  else if m.flag then [116, 114, 117, 101] else [102, 97, 108, 115, 101]
def memberOf (m : Mem) : By := quote m.name ++ 58 :: valueOf m
/-- the members with commas between -/
def rowOf : List Mem → By
  | [] => []
  | [m] => memberOf m
  | m :: n :: r => memberOf m ++ 44 :: rowOf (n :: r)
def objOf (ms : List Mem) : By := 123 :: (rowOf ms ++ [125])

def known (k : Int) : Bool := k = 1 || k = 2 || k = 3
def plainMem (m : Mem) : Bool := validD m.name && (!(m.kind = 1) || validD m.text)
/-- is one of the names there a second time? -/
def twice : List Mem → Bool
  | [] => false
  | m :: r => (r.any fun k => k.name = m.name) || twice r

/-- the refusal's number in the document's list; 0: none -/
def check (ms : List Mem) : Nat :=
  if 32 < ms.length then 3 else if ms.all (fun m => known m.kind) = false then 1
  else if ms.all plainMem = false then 2 else if twice ms then 4 else 0

/-! ### reading: each takes what is left and gives what is left behind it -/
def bl (c : UInt8) : Bool := c == 32 || c == 9 || c == 10 || c == 13
def blanks (l : By) : By := l.dropWhile bl
def part (c : UInt8) : By → Option By
  | [] => none
  | d :: r => if d = c then some (blanks r) else none
def hexa (c : UInt8) : Option Nat :=
  if 48 ≤ c.toNat ∧ c.toNat ≤ 57 then some (c.toNat - 48)
  else if 97 ≤ c.toNat ∧ c.toNat ≤ 102 then some (c.toNat - 87)
  else if 65 ≤ c.toNat ∧ c.toNat ≤ 70 then some (c.toNat - 55) else none
/-- k digits behind what was read -/
def hexs : Nat → Nat → By → Option (Nat × By)
  | 0, n, l => some (n, l)
  | _ + 1, _, [] => none
  | k + 1, n, c :: r => match hexa c with
    | none => none
    | some d => hexs k (16 * n + d) r
def unit (l : By) : Option (Nat × By) := hexs 4 0 l
def short (c : UInt8) : Option Nat :=
  if c = 34 then some 34 else if c = 92 then some 92 else if c = 47 then some 47 else if c = 98 then some 8
  else if c = 102 then some 12 else if c = 110 then some 10 else if c = 114 then some 13 else if c = 116 then some 9 else none
/-- a word at the head -/
def word (p l : By) : Option By := if p.isPrefixOf l then some (l.drop p.length) else none
def numbered (l : By) : Option (Nat × By) :=
  match unit l with
  | none => none
  | some (h, r) =>
    if h < 55296 ∨ 57344 ≤ h then some (h, r) else
    match word [92, 117] r with
    | none => none
    | some r1 => match unit r1 with
      | none => none
      | some (k, r2) => if h < 56320 ∧ 56320 ≤ k ∧ k < 57344 then some (65536 + (h - 55296) * 1024 + (k - 56320), r2) else none
def escaped : By → Option (Nat × By)
  | [] => none
  | c :: r => if c = 117 then numbered r else match short c with
    | none => none
    | some n => some (n, r)
def char : By → Option (Nat × By)
  | [] => none
  | c :: r => if c = 92 then escaped r else
    if (decodeL (c :: r)).1 < 32 ∨ bad (c :: r) then none else some ((decodeL (c :: r)).1, (c :: r).drop (decodeL (c :: r)).2)
def chars : Nat → By → By → Option (By × By)
  | 0, _, _ => none
  | _ + 1, _, [] => none
  | n + 1, acc, c :: r => if c = 34 then some (acc, r) else match char (c :: r) with
    | none => none
    | some (d, r1) => chars n (acc ++ encodeRune (d : Int)) r1
def quoted (l : By) : Option (By × By) :=
  match word [34] l with
  | none => none
  | some r => chars (r.length + 1) [] r
def isDig (c : UInt8) : Bool := 48 ≤ c.toNat && c.toNat ≤ 57
/-- what stands behind the sign: how many bytes the number takes (none: the text ends there) -/
def digitsOf : By → Option Nat
  | [] => none
  | c :: r => if c = 48 then some 1 else
    if (c :: r).dropWhile isDig = [] then none else some ((c :: r).takeWhile isDig).length
def number : By → Option (Int × By)
  | [] => none
  | c :: r =>
    match digitsOf (if c = 45 then r else c :: r) with
    | none => none
    | some k => match atoiAll ((c :: r).take (if c = 45 then k + 1 else k)) with
      | .ok v => some (v, (c :: r).drop (if c = 45 then k + 1 else k))
      | _ => none
def textMem (t : By) : Mem := ⟨[], 1, t, 0, false⟩
def numMem (n : Int) : Mem := ⟨[], 2, [], n, false⟩
def flagMem (b : Bool) : Mem := ⟨[], 3, [], 0, b⟩
def value : By → Option (Mem × By)
  | [] => none
  | c :: r =>
    if c = 34 then match quoted (c :: r) with
      | none => none
      | some (t, r1) => some (textMem t, r1)
    else if c = 116 then match word [116, 114, 117, 101] (c :: r) with
      | none => none
      | some r1 => some (flagMem true, r1)
    else if c = 102 then match word [102, 97, 108, 115, 101] (c :: r) with
      | none => none
      | some r1 => some (flagMem false, r1)
    else match number (c :: r) with
      | none => none
      | some (n, r1) => some (numMem n, r1)
def member (l : By) : Option (Mem × By) :=
  match quoted l with
  | none => none
  | some (name, r) => match part 58 (blanks r) with
    | none => none
    | some r1 => match value r1 with
      | none => none
      | some (m, r2) => some ({ m with name := name }, blanks r2)
def members : Nat → List Mem → By → Option (List Mem × By)
  | 0, _, _ => none
  | n + 1, acc, l => match member l with
    | none => none
    | some (m, r) => match part 44 r with
      | some r1 => members n (acc ++ [m]) r1
      | none => some (acc ++ [m], r)
def object (l : By) : Option (List Mem) :=
  match part 123 (blanks l) with
  | none => none
  | some r => match part 125 r with
    | some r1 => if r1 = [] then some [] else none
    | none => match members (r.length + 1) [] r with
      | none => none
      | some (ms, r1) => match part 125 r1 with
        | none => none
        | some r2 => if r2 = [] then some ms else none

/-- the refusal's number, and the members -/
def read (l : By) : Nat × List Mem :=
  match object l with
  | none => (2, [])
  | some ms => if 32 < ms.length then (3, []) else if twice ms then (4, []) else (0, ms)

/-! ### what is left is shorter -/
theorem blanks_le (l : By) : (blanks l).length ≤ l.length := by
  unfold blanks; exact (List.dropWhile_sublist _).length_le
theorem part_lt {c : UInt8} {l r : By} (h : part c l = some r) : r.length < l.length := by
  cases l with
  | nil => cases h
  | cons d t =>
    simp only [part] at h
    split at h
    · injection h with h; subst h
      have := blanks_le t
      simp only [List.length_cons]; omega
    · cases h
theorem word_le {p l r : By} (h : word p l = some r) : r.length + p.length = l.length ∧ l = p ++ r := by
  unfold word at h
  split at h
  · injection h with h; subst h
    rename_i hp
    obtain ⟨t, rfl⟩ := List.isPrefixOf_iff_prefix.1 hp
    simp; omega
  · cases h
theorem hexs_le : ∀ (k n : Nat) (l : By) {m : Nat} {r : By}, hexs k n l = some (m, r) → r.length + k = l.length ∧ r = l.drop k
  | 0, n, l, m, r, h => by
    simp only [hexs, Option.some.injEq, Prod.mk.injEq] at h
    obtain ⟨_, rfl⟩ := h; simp
  | k + 1, n, [], m, r, h => by simp [hexs] at h
  | k + 1, n, c :: t, m, r, h => by
    simp only [hexs] at h
    split at h
    · cases h
    · obtain ⟨h1, h2⟩ := hexs_le k _ t h
      exact ⟨by simp only [List.length_cons]; omega, by simpa using h2⟩
theorem numbered_lt {l r : By} {n : Nat} (h : numbered l = some (n, r)) : r.length + 4 ≤ l.length := by
  unfold numbered unit at h
  split at h
  · cases h
  · rename_i a r0 e0
    have h0 := (hexs_le 4 0 l e0).1
    split at h
    · injection h with h; injection h with _ h; subst h; omega
    · split at h
      · cases h
      · rename_i r1 e1
        have h1 := (word_le e1).1
        split at h
        · cases h
        · rename_i k r2 e2
          have h2 := (hexs_le 4 0 r1 e2).1
          split at h
          · injection h with h; injection h with _ h; subst h
            simp only [List.length_cons, List.length_nil] at h1
            omega
          · cases h
theorem escaped_lt {l r : By} {n : Nat} (h : escaped l = some (n, r)) : r.length < l.length := by
  cases l with
  | nil => cases h
  | cons c t =>
    simp only [escaped] at h
    split at h
    · have := numbered_lt h; simp only [List.length_cons]; omega
    · split at h
      · cases h
      · injection h with h; injection h with _ h; subst h; simp
theorem char_lt {l r : By} {n : Nat} (h : char l = some (n, r)) : r.length < l.length := by
  cases l with
  | nil => cases h
  | cons c t =>
    simp only [char] at h
    split at h
    · have := escaped_lt h; simp only [List.length_cons]; omega
    · split at h
      · cases h
      · injection h with h; injection h with _ h; subst h
        have := decodeL_width (c :: t)
        simp only [List.length_drop, List.length_cons]; omega

/-- enough fuel is as good as more -/
theorem chars_fuel : ∀ (n m : Nat) (acc l : By), l.length < n → l.length < m → chars n acc l = chars m acc l
  | 0, _, _, _, h, _ => by omega
  | _ + 1, 0, _, _, _, h => by omega
  | n + 1, m + 1, acc, [], _, _ => by simp [chars]
  | n + 1, m + 1, acc, c :: r, h1, h2 => by
    simp only [chars]
    split
    · rfl
    · split
      · rfl
      · rename_i d r1 e
        have := char_lt e
        exact chars_fuel n m _ r1 (by omega) (by omega)
theorem chars_lt : ∀ (n : Nat) (acc l : By) {t r : By}, chars n acc l = some (t, r) → r.length < l.length
  | 0, _, _, _, _, h => by simp [chars] at h
  | _ + 1, _, [], _, _, h => by simp [chars] at h
  | n + 1, acc, c :: r, t, r2, h => by
    simp only [chars] at h
    split at h
    · injection h with h; injection h with _ h; subst h; simp
    · split at h
      · cases h
      · rename_i d r1 e
        have := char_lt e
        have := chars_lt n _ r1 h
        simp only [List.length_cons] at *; omega
theorem quoted_lt {l t r : By} (h : quoted l = some (t, r)) : r.length + 1 < l.length := by
  unfold quoted at h
  split at h
  · cases h
  · rename_i r0 e
    have h1 := (word_le e).1
    have h2 := chars_lt _ _ _ h
    simp only [List.length_cons, List.length_nil] at h1
    omega
theorem digitsOf_le {l : By} {k : Nat} (h : digitsOf l = some k) : k ≤ l.length := by
  cases l with
  | nil => cases h
  | cons c r =>
    simp only [digitsOf] at h
    split at h
    · injection h with h; subst h; simp
    · split at h
      · cases h
      · injection h with h; subst h; exact (List.takeWhile_sublist _).length_le
theorem number_le {l r : By} {v : Int} (h : number l = some (v, r)) : r.length ≤ l.length := by
  cases l with
  | nil => cases h
  | cons c t =>
    simp only [number] at h
    split at h
    · cases h
    · split at h
      · injection h with h; injection h with _ h; subst h; simp
      · cases h
theorem value_le {l r : By} {m : Mem} (h : value l = some (m, r)) : r.length ≤ l.length := by
  cases l with
  | nil => cases h
  | cons c t =>
    simp only [value] at h
    split at h
    · split at h
      · cases h
      · rename_i t r1 e
        injection h with h; injection h with _ h; subst h
        have := quoted_lt e; omega
    · split at h
      · split at h
        · cases h
        · rename_i r1 e
          injection h with h; injection h with _ h; subst h
          have := (word_le e).1; omega
      · split at h
        · split at h
          · cases h
          · rename_i r1 e
            injection h with h; injection h with _ h; subst h
            have := (word_le e).1; omega
        · split at h
          · cases h
          · rename_i n r1 e
            injection h with h; injection h with _ h; subst h
            exact number_le e
theorem member_lt {l r : By} {m : Mem} (h : member l = some (m, r)) : r.length < l.length := by
  unfold member at h
  split at h
  · cases h
  · rename_i name r0 e0
    have h0 := quoted_lt e0
    split at h
    · cases h
    · rename_i r1 e1
      have h1 := part_lt e1
      have := blanks_le r0
      split at h
      · cases h
      · rename_i m2 r2 e2
        injection h with h; injection h with _ h; subst h
        have := value_le e2
        have := blanks_le r2
        omega
theorem members_fuel : ∀ (n m : Nat) (acc : List Mem) (l : By), l.length < n → l.length < m → members n acc l = members m acc l
  | 0, _, _, _, h, _ => by omega
  | _ + 1, 0, _, _, _, h => by omega
  | n + 1, m + 1, acc, l, h1, h2 => by
    simp only [members]
    split
    · rfl
    · rename_i k r e
      have := member_lt e
      split
      · rename_i r1 e1
        have := part_lt e1
        exact members_fuel n m _ r1 (by omega) (by omega)
      · rfl
end Go.Proofs.YtkkgngmhdlmgnaaDoor.Json
