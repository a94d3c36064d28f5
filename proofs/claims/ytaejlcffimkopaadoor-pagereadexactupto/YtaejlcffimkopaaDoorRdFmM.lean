import Derived.Test.YtaejlcffimkopaaDoorRdIp
namespace Go.Proofs.YtaejlcffimkopaaDoor.pg
open Go.Proofs.YtaejlcffimkopaaDoor.common

theorem skp_lt {m s r : List UInt8} (h : skp m s = some r) : r.length + m.length = s.length := by
  rw [skp_is h, List.length_append]; omega
theorem txt_le {c : UInt8} {s r : List UInt8} {t : ByteArray} (h : txtL c s = some (t, r)) : r.length ≤ s.length := by
  rw [(txtL_is h).1, List.length_append]; omega
/-- a bind that says something -/
theorem bind_some {α β : Type} {x : Option α} {f : α → Option β} {y : β} (h : x.bind f = some y) : ∃ a, x = some a ∧ f a = some y := by
  cases x with
  | none => cases h
  | some a => exact ⟨a, rfl, h⟩
theorem nmD_lt {s r : List UInt8} {n : ByteArray} (h : nmD s = some (n, r)) : r.length < s.length := by
  obtain ⟨⟨t, q⟩, h1, h2⟩ := bind_some h
  obtain ⟨r', h3, h4⟩ := bind_some h2
  cases h4
  have e1 := txt_le h1
  have e2 := skp_lt h3
  have e3 : r.length + 1 = q.length := e2
  omega
theorem vlD_lt {s r : List UInt8} {n : ByteArray} (h : vlD s = some (n, r)) : r.length < s.length := by
  obtain ⟨q, h1, h2⟩ := bind_some h
  have e1 := skp_lt h1
  have e2 := nmD_lt h2
  omega
theorem lbT_lt {l : ByteArray} {s r : List UInt8} {x : Inp} (h : lbT l s = some (x, r)) : r.length < s.length := by
  unfold lbT at h
  split at h
  · rename_i q hq
    obtain ⟨⟨n, q2⟩, h1, h2⟩ := bind_some h
    obtain ⟨⟨v, q3⟩, h3, h4⟩ := bind_some h2
    obtain ⟨q4, h5, h6⟩ := bind_some h4
    cases h6
    have e0 := skp_lt hq
    have e1 := nmD_lt h1
    have e2 := vlD_lt h3
    have e3 := skp_lt h5
    simp only at e2 e3
    omega
  · obtain ⟨q, hq, h0⟩ := bind_some h
    obtain ⟨⟨n, q2⟩, h1, h2⟩ := bind_some h0
    obtain ⟨q4, h5, h6⟩ := bind_some h2
    cases h6
    have e0 := skp_lt hq
    have e1 := nmD_lt h1
    have e3 := skp_lt h5
    simp only at e3
    omega
theorem lbD_lt {s r : List UInt8} {x : Inp} (h : lbD s = some (x, r)) : r.length < s.length := by
  obtain ⟨q, hq, h0⟩ := bind_some h
  obtain ⟨⟨v, q2⟩, h1, h2⟩ := bind_some h0
  simp only at h2
  split at h2
  · have e0 := skp_lt hq
    have e1 := txt_le h1
    have e2 := lbT_lt h2
    have e3 : mLabelHead.data.toList.length = 10 := rfl
    simp only [List.length_cons] at e2
    omega
  · cases h2
theorem inD_lt {s r : List UInt8} {x : Inp} (h : inD s = some (x, r)) : r.length < s.length := by
  unfold inD at h
  split at h
  · rename_i q hq
    obtain ⟨⟨n, q2⟩, h1, h2⟩ := bind_some h
    obtain ⟨⟨v, q3⟩, h3, h4⟩ := bind_some h2
    obtain ⟨q4, h5, h6⟩ := bind_some h4
    cases h6
    have e0 := skp_lt hq
    have e1 := nmD_lt h1
    have e2 := vlD_lt h3
    have e3 := skp_lt h5
    simp only at e2 e3
    omega
  · split at h
    · rename_i q hq
      obtain ⟨⟨n, q2⟩, h1, h2⟩ := bind_some h
      obtain ⟨⟨v, q3⟩, h3, h4⟩ := bind_some h2
      obtain ⟨q4, h5, h6⟩ := bind_some h4
      obtain ⟨⟨b, q5⟩, h7, h8⟩ := bind_some h6
      obtain ⟨q6, h9, h10⟩ := bind_some h8
      cases h10
      have e0 := skp_lt hq
      have e1 := nmD_lt h1
      have e2 := vlD_lt h3
      have e3 := skp_lt h5
      have e4 := txt_le h7
      have e5 := skp_lt h9
      simp only at e2 e3 e4 e5
      omega
    · exact lbD_lt h
theorem rest_len (s : ByteArray) (a : Nat) : (rest s a).length = s.size - a := by unfold rest; rw [List.length_drop, len_list]
theorem rest_lt {s : ByteArray} {a b : Nat} (h : (rest s b).length < (rest s a).length) : a < b ∧ b ≤ s.size ∨ a < b := by
  rw [rest_len, rest_len] at h
  exact Or.inr (by omega)
/-- the inputs that have been read from a0 on: xs, up to b -/
structure InsR (s : ByteArray) (a0 : Nat) (l0 : Bool) (xs : List Inp) (b : Nat) (m : Bool) : Prop where
  most : xs.length ≤ s.size - a0 + 1
  yes : m = false → l0 = false ∧ xs.length ≤ b - a0 ∧ ∀ n, insDF (xs.length + n) (rest s a0) = (insDF n (rest s b)).map fun q => (xs ++ q.1, q.2)
  no : m = true → l0 = true ∨ ∀ n, insDF (xs.length + n) (rest s a0) = none
theorem InsR.start (s : ByteArray) (a0 : Nat) (l0 : Bool) : InsR s a0 l0 [] a0 l0 :=
  ⟨Nat.zero_le _, fun e => ⟨e, Nat.zero_le _, fun n => by
    rw [List.length_nil, Nat.zero_add]
    cases insDF n (rest s a0) with
    | none => rfl
    | some q => rfl⟩, fun e => Or.inl e⟩
theorem InsR.step {s : ByteArray} {a0 : Nat} {l0 : Bool} {xs : List Inp} {b b' : Nat} {m' : Bool} {x : Inp} (h : InsR s a0 l0 xs b false) (hab : a0 ≤ b) (hb : b ≤ s.size) (hb' : b' ≤ s.size) (hk : skp mFormButton.data.toList (rest s b) = none) (R : Rel inD s b false x b' m') : InsR s a0 l0 (xs ++ [x]) b' m' ∧ (m' = false → b < b') := by
  obtain ⟨e0, hl, hn⟩ := h.yes rfl
  refine ⟨⟨by rw [List.length_append, List.length_singleton]; omega, fun e => ?_, fun e => ?_⟩, fun e => ?_⟩
  · obtain ⟨_, e2⟩ := R.yes e
    have hlt := inD_lt e2
    rw [rest_len, rest_len] at hlt
    refine ⟨e0, by rw [List.length_append, List.length_singleton]; omega, fun n => ?_⟩
    have h1 : (xs ++ [x]).length + n = xs.length + (n + 1) := by rw [List.length_append, List.length_singleton]; omega
    have h2 : insDF (n + 1) (rest s b) = (insDF n (rest s b')).bind fun q => some (x :: q.1, q.2) := by
      show (match skp mFormButton.data.toList (rest s b) with
        | some r => some ([], r)
        | none => (inD (rest s b)).bind fun p => (insDF n p.2).bind fun q => some (p.1 :: q.1, q.2)) = _
      rw [hk, e2]
      rfl
    rw [h1, hn, h2]
    cases insDF n (rest s b') with
    | none => rfl
    | some q => simp
  · rcases R.no e with h | h
    · cases h
    · refine Or.inr fun n => ?_
      have h1 : (xs ++ [x]).length + n = xs.length + (n + 1) := by rw [List.length_append, List.length_singleton]; omega
      have h2 : insDF (n + 1) (rest s b) = none := by
        show (match skp mFormButton.data.toList (rest s b) with
          | some r => some ([], r)
          | none => (inD (rest s b)).bind fun p => (insDF n p.2).bind fun q => some (p.1 :: q.1, q.2)) = _
        rw [hk, h]
        rfl
      rw [h1, hn, h2]
      rfl
  · obtain ⟨_, e2⟩ := R.yes e
    have hlt := inD_lt e2
    rw [rest_len, rest_len] at hlt
    omega
theorem InsR.lost {s : ByteArray} {a0 : Nat} {l0 : Bool} {xs : List Inp} {b b' : Nat} {m' : Bool} (h : InsR s a0 l0 xs b true) (R : RelS mFormButton s b true b' m') : Rel (fun x => insDF (x.length + 1) x) s a0 l0 xs b' m' := by
  refine ⟨fun e => ?_, fun e => ?_⟩
  · have := (R.yes e).1
    cases this
  · rcases h.no rfl with h1 | h1
    · exact Or.inl h1
    · have := h1 (s.size - a0 + 1 - xs.length)
      have hm := h.most
      rw [show xs.length + (s.size - a0 + 1 - xs.length) = s.size - a0 + 1 by omega] at this
      refine Or.inr ?_
      rw [rest_len]
      exact this
theorem InsR.done {s : ByteArray} {a0 : Nat} {l0 : Bool} {xs : List Inp} {b b' : Nat} {m' : Bool} {r : List UInt8} (h : InsR s a0 l0 xs b false) (hb : b ≤ s.size) (hk : skp mFormButton.data.toList (rest s b) = some r) (R : RelS mFormButton s b false b' m') : Rel (fun x => insDF (x.length + 1) x) s a0 l0 xs b' m' := by
  obtain ⟨e0, hl, hn⟩ := h.yes rfl
  refine ⟨fun e => ?_, fun e => ?_⟩
  · have e2 := (R.yes e).2
    have h3 := hn (s.size - a0 - xs.length + 1)
    refine ⟨e0, ?_⟩
    rw [rest_len]
    have hq : xs.length ≤ s.size - a0 := by omega
    rw [show xs.length + (s.size - a0 - xs.length + 1) = s.size - a0 + 1 by omega] at h3
    rw [h3]
    show Option.map _ (match skp mFormButton.data.toList (rest s b) with
      | some r => some ([], r)
      | none => (inD (rest s b)).bind fun p => (insDF _ p.2).bind fun q => some (p.1 :: q.1, q.2)) = _
    rw [e2]
    simp
  · rcases R.no e with h1 | h1
    · cases h1
    · rw [hk] at h1; cases h1
end Go.Proofs.YtaejlcffimkopaaDoor.pg
