import Derived.Test.YtlbhiefamnpphaaDoorJdMath
namespace Go.Proofs.YtlbhiefamnpphaaDoor.Jc
set_option maxRecDepth 100000
/-- a cursor: what is left, and whether it has failed -/
abbrev Cs := List UInt8 × Bool
/-- this text must come -/
def mustS (p : List UInt8) (c : Cs) : Cs := if p.isPrefixOf c.1 then (c.1.drop p.length, c.2) else (c.1, true)
/-- one digit -/
def digS (c : Cs) : Nat × Cs :=
  match c.1 with
  | [] => (0, (c.1, true))
  | a :: t => if 48 ≤ a.toNat ∧ a.toNat ≤ 57 then (a.toNat - 48, (t, c.2)) else (0, (c.1, true))
/-- a number of so many digits -/
def digsS : Nat → Nat → Cs → Nat × Cs
  | 0, acc, c => (acc, c)
  | k + 1, acc, c => digsS k (10 * acc + (digS c).1) (digS c).2
/-- one of these names -/
def nameS (l : List (List UInt8)) (c : Cs) : Nat × Cs :=
  match l.findIdx? (fun p => p.isPrefixOf c.1) with
  | none => (0, (c.1, true))
  | some i => (i, (c.1.drop (l.getD i []).length, c.2))
/-- what a reader comes to: W writes it, G says what it may be -/
structure Rd {α : Type} (W : α → List UInt8) (G : α → Prop) (c : Cs) (a : α) (c' : Cs) : Prop where
  back : c'.2 = false → c.2 = false ∧ G a ∧ c.1 = W a ++ c'.1
  on : ∀ b r, G b → c = (W b ++ r, false) → a = b ∧ c' = (r, false)
theorem Rd.bind {α β : Type} {W : α → List UInt8} {G : α → Prop} {V : β → List UInt8} {H : β → Prop} {c c1 c2 : Cs} {a : α} {b : β} (h : Rd W G c a c1) (k : Rd V H c1 b c2) : Rd (fun p : α × β => W p.1 ++ V p.2) (fun p => G p.1 ∧ H p.2) c (a, b) c2 := by
  refine ⟨fun e => ?_, fun p r hp e => ?_⟩
  · obtain ⟨e1, h1, h2⟩ := k.back e
    obtain ⟨e3, h4, h5⟩ := h.back e1
    exact ⟨e3, ⟨h4, h1⟩, by rw [h5, h2]; simp⟩
  · obtain ⟨x, y⟩ := p
    obtain ⟨e1, e2⟩ := h.on x (V y ++ r) hp.1 (by rw [e]; simp)
    obtain ⟨e3, e4⟩ := k.on y r hp.2 e2
    exact ⟨by rw [e1, e3], e4⟩
/-- the same, told of another thing -/
theorem Rd.map {α β : Type} {W : α → List UInt8} {G : α → Prop} {V : β → List UInt8} {H : β → Prop} {c c1 : Cs} {a : α} (h : Rd W G c a c1) (f : α → β) (g : β → α) (h1 : ∀ a, G a → H (f a) ∧ V (f a) = W a) (h2 : ∀ b, H b → G (g b) ∧ W (g b) = V b ∧ f (g b) = b) : Rd V H c (f a) c1 := by
  refine ⟨fun e => ?_, fun b r hb e => ?_⟩
  · obtain ⟨e1, k1, k2⟩ := h.back e
    exact ⟨e1, (h1 a k1).1, by rw [(h1 a k1).2]; exact k2⟩
  · obtain ⟨k1, k2, k3⟩ := h2 b hb
    obtain ⟨e1, e2⟩ := h.on (g b) r k1 (by rw [k2]; exact e)
    exact ⟨by rw [e1, k3], e2⟩
theorem pre_split {p r : List UInt8} (h : p.isPrefixOf r = true) : r = p ++ r.drop p.length := by
  obtain ⟨t, rfl⟩ := List.isPrefixOf_iff_prefix.1 h
  simp
theorem pre_app (p r : List UInt8) : p.isPrefixOf (p ++ r) = true := List.isPrefixOf_iff_prefix.2 ⟨r, rfl⟩
theorem must_rd (p : List UInt8) (c : Cs) : Rd (fun _ : Unit => p) (fun _ => True) c () (mustS p c) := by
  refine ⟨fun e => ?_, fun b r _ e => ?_⟩
  · unfold mustS at e ⊢
    cases h : p.isPrefixOf c.1 with
    | true => rw [h] at e; exact ⟨e, trivial, pre_split h⟩
    | false => rw [h] at e; cases e
  · subst e
    unfold mustS
    rw [pre_app]
    exact ⟨rfl, by simp⟩
theorem dig_of (a : UInt8) (h : 48 ≤ a.toNat ∧ a.toNat ≤ 57) : UInt8.ofNat (48 + (a.toNat - 48) % 10) = a := by
  have e : 48 + (a.toNat - 48) % 10 = a.toNat := by omega
  rw [e]; exact UInt8.ofNat_toNat
theorem dig_to (n : Nat) : (UInt8.ofNat (48 + n % 10)).toNat = 48 + n % 10 := by rw [UInt8.toNat_ofNat']; omega
theorem dig_back {c : Cs} (e : (digS c).2.2 = false) : c.2 = false ∧ (digS c).1 < 10 ∧ c.1 = [UInt8.ofNat (48 + (digS c).1 % 10)] ++ (digS c).2.1 := by
  unfold digS at e ⊢
  split at e
  · cases e
  · rename_i a t h
    split at e
    · rename_i h1
      rw [if_pos h1]
      refine ⟨e, by simp only; omega, ?_⟩
      rw [h]; simp only [dig_of a h1]; rfl
    · cases e
theorem dig_on (n : Nat) (h : n < 10) (r : List UInt8) : digS (UInt8.ofNat (48 + n % 10) :: r, false) = (n, (r, false)) := by
  unfold digS
  have e := dig_to n
  simp only
  rw [if_pos (by omega), e]
  simp only [Prod.mk.injEq, and_true]
  omega
/-- the first digit of k + 1 -/
theorem dg_cons : ∀ (k n : Nat), n < 10 ^ (k + 1) → dg (k + 1) n = UInt8.ofNat (48 + n / 10 ^ k % 10) :: dg k (n % 10 ^ k)
  | 0, n, h => by simp [dg]
  | k + 1, n, h => by
    have h' : n / 10 < 10 ^ (k + 1) := by rw [Nat.pow_succ] at h; omega
    have e1 : dg (k + 1 + 1) n = dg (k + 1) (n / 10) ++ [UInt8.ofNat (48 + n % 10)] := rfl
    rw [e1, dg_cons k (n / 10) h', Nat.div_div_eq_div_mul, Nat.mul_comm, ← Nat.pow_succ]
    have e2 : n % 10 ^ (k + 1) / 10 = n / 10 % 10 ^ k := by
      rw [Nat.pow_succ, Nat.mul_comm, Nat.mod_mul_right_div_self]
    have e3 : n % 10 ^ (k + 1) % 10 = n % 10 := Nat.mod_mod_of_dvd _ ⟨10 ^ k, by rw [Nat.pow_succ, Nat.mul_comm]⟩
    have e4 : dg (k + 1) (n % 10 ^ (k + 1)) = dg k (n % 10 ^ (k + 1) / 10) ++ [UInt8.ofNat (48 + n % 10 ^ (k + 1) % 10)] := rfl
    rw [e4, e2, e3]
    rfl
theorem digs_rd : ∀ (k acc : Nat) (c : Cs), ∃ v, digsS k acc c = (acc * 10 ^ k + v, (digsS k acc c).2) ∧ Rd (fun n => dg k n) (fun n => n < 10 ^ k) c v (digsS k acc c).2
  | 0, acc, c => by
    refine ⟨0, by simp [digsS], fun e => ⟨e, by simp, by simp [dg, digsS]⟩, fun b r hb e => ⟨by simp at hb; omega, ?_⟩⟩
    rw [e]; simp [dg, digsS]
  | k + 1, acc, c => by
    obtain ⟨v, h1, h2⟩ := digs_rd k (10 * acc + (digS c).1) (digS c).2
    have hp : 0 < 10 ^ k := Nat.pow_pos (by decide)
    refine ⟨(digS c).1 * 10 ^ k + v, ?_, fun e => ?_, fun b r hb e => ?_⟩
    · rw [digsS, h1]
      simp only [Prod.mk.injEq, and_true]
      rw [Nat.add_mul, Nat.pow_succ, Nat.mul_comm 10 acc, Nat.mul_assoc acc 10, Nat.mul_comm 10 (10 ^ k), Nat.add_assoc]
    · obtain ⟨e1, e2, e3⟩ := h2.back e
      obtain ⟨e4, e5, e6⟩ := dig_back e1
      have hlt : (digS c).1 * 10 ^ k + v < 10 ^ (k + 1) := by
        have : (digS c).1 * 10 ^ k ≤ 9 * 10 ^ k := Nat.mul_le_mul_right _ (by omega)
        rw [Nat.pow_succ]; omega
      refine ⟨e4, hlt, ?_⟩
      rw [dg_cons k _ hlt, e6, e3]
      have a1 : ((digS c).1 * 10 ^ k + v) / 10 ^ k = (digS c).1 := by
        rw [Nat.mul_comm, Nat.mul_add_div hp, Nat.div_eq_of_lt e2]; simp
      have a2 : ((digS c).1 * 10 ^ k + v) % 10 ^ k = v := by
        rw [Nat.mul_comm, Nat.mul_add_mod, Nat.mod_eq_of_lt e2]
      rw [a1, a2]; rfl
    · rw [dg_cons k b hb] at e
      have hq : b / 10 ^ k < 10 := by rw [Nat.div_lt_iff_lt_mul hp, Nat.mul_comm, ← Nat.pow_succ]; exact hb
      have e1 : digS c = (b / 10 ^ k, (dg k (b % 10 ^ k) ++ r, false)) := by
        rw [e]; exact dig_on _ hq _
      obtain ⟨e2, e3⟩ := h2.on (b % 10 ^ k) r (Nat.mod_lt _ hp) (by rw [e1])
      refine ⟨?_, e3⟩
      rw [e2, e1]
      show b / 10 ^ k * 10 ^ k + b % 10 ^ k = b
      rw [Nat.mul_comm]; exact Nat.div_add_mod b (10 ^ k)
/-- no name begins with another one -/
def PreFree (l : List (List UInt8)) : Prop := ∀ i j, i < l.length → j < l.length → ∀ r, (l.getD j []).isPrefixOf (l.getD i [] ++ r) = true → i = j
theorem name_rd (l : List (List UInt8)) (hl : PreFree l) (c : Cs) : Rd (fun i => l.getD i []) (fun i => i < l.length) c (nameS l c).1 (nameS l c).2 := by
  refine ⟨fun e => ?_, fun b r hb e => ?_⟩
  · unfold nameS at e ⊢
    split at e
    · cases e
    · rename_i i h
      obtain ⟨h1, h2, _⟩ := List.findIdx?_eq_some_iff_getElem.1 h
      refine ⟨e, h1, ?_⟩
      have hg : l.getD i [] = l[i] := by simp [h1]
      simp only [hg]
      exact pre_split h2
  · subst e
    unfold nameS
    have : l.findIdx? (fun p => p.isPrefixOf (l.getD b [] ++ r)) = some b := by
      refine List.findIdx?_eq_some_iff_getElem.2 ⟨hb, ?_, fun j hj => ?_⟩
      · have hg : l.getD b [] = l[b] := by simp [hb]
        rw [hg]; exact pre_app _ _
      · intro hp
        have hg : l.getD j [] = l[j] := by have : j < l.length := by omega
                                           simp [this]
        have := hl b j hb (by omega) r (by rw [hg]; exact hp)
        omega
    simp only [this]
    exact ⟨by trivial, by simp⟩
end Go.Proofs.YtlbhiefamnpphaaDoor.Jc
