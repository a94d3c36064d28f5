import Derived.Test.YtkamnkldgeaaaaaDoorCommon
namespace Go.Proofs.YtkamnkldgeaaaaaDoor.dk
open Go.Proofs.YtkamnkldgeaaaaaDoor.common

/-- a disk: its bytes, how many of them are synced, the room, the arms (after, keep), dead? -/
structure St where
  b : List UInt8
  s : Nat
  r : Nat
  a : List (Nat × Int)
  d : Bool
/-- how many bytes are left where the power fails -/
def St.left (x : St) (k : Int) : Nat := x.s + min k.toNat (x.b.length - x.s)
def St.fail (x : St) (k : Int) : St := ⟨x.b.take (x.left k), x.left k, x.r, x.a, true⟩
/-- have the bytes room? -/
def St.fits (x : St) (p : List UInt8) : Bool := decide (x.b.length + p.length ≤ x.r)
def St.put (x : St) (p : List UInt8) : St := if x.fits p then ⟨x.b ++ p, x.s, x.r, x.a, x.d⟩ else x
def St.cut (x : St) (n : Nat) : St := ⟨x.b.take n, min x.s n, x.r, x.a, x.d⟩
def St.sync (x : St) : St := ⟨x.b, x.b.length, x.r, x.a, x.d⟩
/-- an operation that looks at the arms first: what a dying one still does, what one that goes on does, what it answers -/
def St.oper (x : St) (dying on : St → St) (err : Nat) : St × Nat :=
  if x.d then (x, 10) else match x.a with
    | [] => (on x, err)
    | (0, k) :: r => ((dying ⟨x.b, x.s, x.r, r, false⟩).fail k, 10)
    | (n + 1, k) :: r => (on ⟨x.b, x.s, x.r, (n, k) :: r, false⟩, err)
def St.append (x : St) (p : List UInt8) : St × Nat := x.oper (fun y => y.put p) (fun y => y.put p) (if x.fits p then 0 else 9)
def St.syncs (x : St) : St × Nat := x.oper id St.sync 0
def St.reads (x : St) : St × Nat := x.oper id id 0
def St.trunc (x : St) (n : Int) : St × Nat := if !x.d && (decide (n < 0) || decide ((x.b.length : Int) < n)) then (x, 1) else x.oper id (fun y => y.cut n.toNat) 0
def St.arm (x : St) (n k : Int) : St := ⟨x.b, x.s, x.r, x.a ++ [(n.toNat, k)], x.d⟩
def St.crash (x : St) (k : Int) : St := if x.d then x else x.fail k
def St.revive (x : St) : St := ⟨x.b, x.s, x.r, x.a, false⟩
def St.readL (x : St) : List UInt8 := if x.reads.2 = 0 then x.b else []
def St.deadN (x : St) : Int := if x.d then 1 else 0
/-- what a call has answered -/
structure An where
  l : List UInt8
  n : Int
  e : Nat
/-- a step -/
structure Sp where
  k : Int
  o : Int
  n : Int
  m : Int
  t : ByteArray
def St.step (x : St) (s : Sp) : St × An :=
  if s.k = 1 then ((x.append s.t.data.toList).1, ⟨[], 0, (x.append s.t.data.toList).2⟩)
  else if s.k = 2 then (x.syncs.1, ⟨[], 0, x.syncs.2⟩)
  else if s.k = 3 then (x.reads.1, ⟨x.readL, 0, x.reads.2⟩)
  else if s.k = 4 then ((x.trunc s.n).1, ⟨[], 0, (x.trunc s.n).2⟩)
  else if s.k = 5 then (x.arm s.n s.m, ⟨[], 0, 0⟩)
  else if s.k = 6 then (x.crash s.n, ⟨[], 0, 0⟩)
  else if s.k = 7 then (x, ⟨[], x.deadN, 0⟩)
  else if s.k = 8 then (x.revive, ⟨[], 0, 0⟩)
  else if s.k = 9 then (x, ⟨x.b, x.s, 0⟩)
  else (x, ⟨[], 0, 0⟩)
/-- what holds of every disk -/
structure St.Ok (M : Nat) (x : St) : Prop where
  syn : x.s ≤ x.b.length
  room : x.r ≤ 1073741824
  most : x.b.length ≤ M
theorem St.left_le (x : St) (k : Int) (h : x.s ≤ x.b.length) : x.s ≤ x.left k ∧ x.left k ≤ x.b.length := by
  unfold St.left
  omega
theorem St.Ok.fail {M : Nat} {x : St} (h : x.Ok M) (k : Int) : (x.fail k).Ok M := by
  have := x.left_le k h.syn
  refine ⟨?_, h.room, ?_⟩
  · show x.left k ≤ (x.b.take (x.left k)).length
    rw [List.length_take]; omega
  · show (x.b.take (x.left k)).length ≤ M
    have := h.most
    rw [List.length_take]; omega
theorem St.Ok.put {M : Nat} {x : St} (h : x.Ok M) (p : List UInt8) (hM : 1073741824 ≤ M) : (x.put p).Ok M := by
  unfold St.put St.fits
  by_cases hf : x.b.length + p.length ≤ x.r
  · rw [if_pos (decide_eq_true hf)]
    have := h.room
    have := h.syn
    refine ⟨?_, h.room, ?_⟩
    · show x.s ≤ (x.b ++ p).length
      rw [List.length_append]; omega
    · show (x.b ++ p).length ≤ M
      rw [List.length_append]; omega
  · rw [if_neg (by simpa using hf)]; exact h
theorem St.Ok.cut {M : Nat} {x : St} (h : x.Ok M) (n : Nat) : (x.cut n).Ok M := by
  have h1 := h.syn
  have h2 := h.most
  refine ⟨?_, h.room, ?_⟩
  · show min x.s n ≤ (x.b.take n).length
    rw [List.length_take]; omega
  · show (x.b.take n).length ≤ M
    rw [List.length_take]; omega
theorem St.Ok.sync {M : Nat} {x : St} (h : x.Ok M) : x.sync.Ok M := ⟨Nat.le_refl _, h.room, h.most⟩
theorem St.Ok.arms {M : Nat} {x : St} (h : x.Ok M) (a : List (Nat × Int)) (d : Bool) : St.Ok M ⟨x.b, x.s, x.r, a, d⟩ := ⟨h.syn, h.room, h.most⟩
theorem St.Ok.oper {M : Nat} {x : St} (h : x.Ok M) {dying on : St → St} {err : Nat} (h1 : ∀ y, St.Ok M y → (dying y).Ok M) (h2 : ∀ y, St.Ok M y → (on y).Ok M) : (x.oper dying on err).1.Ok M := by
  unfold St.oper
  split
  · exact h
  · split
    · exact h2 _ h
    · exact (h1 _ (h.arms _ _)).fail _
    · exact h2 _ (h.arms _ _)
theorem St.Ok.step {M : Nat} {x : St} (h : x.Ok M) (hM : 1073741824 ≤ M) (s : Sp) : (x.step s).1.Ok M := by
  unfold St.step
  repeat' split
  · exact h.oper (fun y hy => hy.put _ hM) (fun y hy => hy.put _ hM)
  · exact h.oper (fun y hy => hy) (fun y hy => hy.sync)
  · exact h.oper (fun y hy => hy) (fun y hy => hy)
  · show (x.trunc s.n).1.Ok M
    unfold St.trunc
    split
    · exact h
    · exact h.oper (fun y hy => hy) (fun y hy => hy.cut _)
  · exact h.arms _ _
  · show (x.crash s.n).Ok M
    unfold St.crash
    split
    · exact h
    · exact h.fail _
  · exact h
  · exact h.arms _ _
  · exact h
  · exact h
theorem oper_arms (x : St) (dying on : St → St) (err : Nat) (h1 : ∀ y, (dying y).a = y.a) (h2 : ∀ y, (on y).a = y.a) : (x.oper dying on err).1.a.length ≤ x.a.length := by
  unfold St.oper
  split
  · exact Nat.le_refl _
  · split
    · rename_i e; rw [h2]; exact Nat.le_refl _
    · rename_i k r e
      show (dying _).a.length ≤ _
      rw [h1, e, List.length_cons]
      exact Nat.le_succ _
    · rename_i n k r e
      rw [h2, e]
      exact Nat.le_refl _
theorem put_arms (x : St) (p : List UInt8) : (x.put p).a = x.a := by
  unfold St.put; split <;> rfl
theorem step_arms (x : St) (s : Sp) : (x.step s).1.a.length ≤ x.a.length + 1 := by
  unfold St.step
  repeat' split
  · exact Nat.le_succ_of_le (oper_arms x _ _ _ (fun y => put_arms y _) (fun y => put_arms y _))
  · exact Nat.le_succ_of_le (oper_arms x _ _ _ (fun y => rfl) (fun y => rfl))
  · exact Nat.le_succ_of_le (oper_arms x _ _ _ (fun y => rfl) (fun y => rfl))
  · show (x.trunc s.n).1.a.length ≤ _
    unfold St.trunc
    split
    · exact Nat.le_succ _
    · exact Nat.le_succ_of_le (oper_arms x _ _ _ (fun y => rfl) (fun y => rfl))
  · show (x.a ++ [_]).length ≤ _
    rw [List.length_append]; exact Nat.le_refl _
  · show (x.crash s.n).a.length ≤ _
    unfold St.crash
    split <;> exact Nat.le_succ _
  · exact Nat.le_succ _
  · exact Nat.le_succ _
  · exact Nat.le_succ _
  · exact Nat.le_succ _
/-- the room that a number means -/
def roomOf (n : Int) : Nat := if n < 0 then 0 else if 1073741824 < n then 1073741824 else n.toNat
theorem roomOf_le (n : Int) : roomOf n ≤ 1073741824 := by
  unfold roomOf
  split
  · omega
  · split <;> omega
end Go.Proofs.YtkamnkldgeaaaaaDoor.dk
