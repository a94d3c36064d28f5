import Derived.Test.YtpfamgahnphceaaDoorRadixBack
namespace Go.Proofs.YtpfamgahnphceaaDoor.Pk

/-- an unreserved byte -/
def un (n : Nat) : Bool := decide ((65 ≤ n ∧ n ≤ 90) ∨ (97 ≤ n ∧ n ≤ 122) ∨ (48 ≤ n ∧ n ≤ 57) ∨ n = 45 ∨ n = 46 ∨ n = 95 ∨ n = 126)
def unb (c : UInt8) : Bool := un c.toNat
def proof (l : List UInt8) : Bool := decide (43 ≤ l.length ∧ l.length ≤ 128) && l.all unb

theorem un_big (n : Nat) (h : 128 ≤ n) : un n = false := decide_eq_false (by omega)

theorem url_un : ∀ i : Fin 64, unb (Rad.urlT.getD i.val 0) = true := by decide +kernel

theorem b64_un (l : List UInt8) : (Rad.b64 Rad.urlT l).all unb = true := by
  rw [List.all_eq_true]
  intro c hc
  unfold Rad.b64 at hc
  obtain ⟨m, _, rfl⟩ := List.mem_map.1 hc
  exact url_un ⟨_, Rad.six_lt l m⟩

theorem b64_proof (l : List UInt8) (h : l.length = 32) : proof (Rad.b64 Rad.urlT l) = true := by
  unfold proof
  rw [b64_un, Rad.b64_len, h]; rfl

theorem all_take (l : List UInt8) (p : UInt8 → Bool) (k : Nat) (h : k < l.length) : (l.take (k + 1)).all p = ((l.take k).all p && p l[k]) := by
  rw [List.take_succ_eq_append_getElem h, List.all_append]; simp
theorem all_short (l : List UInt8) (p : UInt8 → Bool) (k : Nat) (h : (l.take k).all p = false) : l.all p = false := by
  rw [← List.take_append_drop k l, List.all_append, h, Bool.false_and]

theorem xor_zero {x y : Nat} (h : x ^^^ y = 0) : x = y := by
  have : (x ^^^ y) ^^^ y = x := by rw [Nat.xor_assoc, Nat.xor_self, Nat.xor_zero]
  rw [h, Nat.zero_xor] at this
  exact this.symm

/-- all differences of two texts, gathered -/
def diff (a b : List UInt8) : Nat → Nat
  | 0 => 0
  | k + 1 => diff a b k ||| ((a.getD k 0).toNat ^^^ (b.getD k 0).toNat)

theorem diff_lt (a b : List UInt8) (k : Nat) : diff a b k < 256 := by
  induction k with
  | zero => exact (by decide : (0 : Nat) < 256)
  | succ k ih => exact Nat.or_lt_two_pow (n := 8) ih (Nat.xor_lt_two_pow (n := 8) (a.getD k 0).toNat_lt (b.getD k 0).toNat_lt)

theorem diff_zero (a b : List UInt8) (k : Nat) : diff a b k = 0 ↔ ∀ i, i < k → a.getD i 0 = b.getD i 0 := by
  induction k with
  | zero => exact ⟨fun _ i h => absurd h (Nat.not_lt_zero _), fun _ => rfl⟩
  | succ k ih =>
    show diff a b k ||| _ = 0 ↔ _
    rw [Nat.or_eq_zero_iff, ih]
    constructor
    · rintro ⟨h1, h2⟩ i hi
      by_cases e : i = k
      · subst e; exact UInt8.toNat_inj.1 (xor_zero h2)
      · exact h1 i (by omega)
    · intro h
      refine ⟨fun i hi => h i (by omega), ?_⟩
      rw [h k (by omega)]; exact Nat.xor_self _

theorem diff_same (a b : List UInt8) (h : a.length = b.length) : diff a b a.length = 0 ↔ a = b := by
  rw [diff_zero]
  exact ⟨fun hh => Rad.list_eq h hh, fun e => by subst e; intros; rfl⟩

end Go.Proofs.YtpfamgahnphceaaDoor.Pk
