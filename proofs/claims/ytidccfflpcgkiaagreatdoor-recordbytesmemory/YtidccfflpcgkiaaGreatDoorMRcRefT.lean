import Derived.Test.YtidccfflpcgkiaaGreatDoorMRcRef
import Derived.Test.YtidccfflpcgkiaaGreatDoorMRepeat
import Derived.Deep.DeepCutAuto
namespace Go.Proofs.YtidccfflpcgkiaaGreatDoor.rc
open Go.ChangeShapes Go.WideShapes Go.ChangeAt Go.RowKit Go.Proofs.YtidccfflpcgkiaaGreatDoor.common Go.Proofs.YtidccfflpcgkiaaGreatDoor.bk Go.Proofs.YtidccfflpcgkiaaGreatDoor.ss
attribute [local go_sem ↓] Go.wp_at_zero Go.wp_at_succ

def T_hasID : List Bool := [false, true, true, false, true, true, true, true, true, true, true, false]
def T_hasUser : List Bool := [false, true, false, true, true, false, true, false, false, true, false, true]
def T_hasClient : List Bool := [false, false, false, true, true, false, true, false, false, true, false, true]
def T_hasRedirect : List Bool := [false, false, false, false, true, false, false, false, false, false, false, false]
def T_hasChallenge : List Bool := [false, false, false, false, true, false, false, false, false, false, false, false]
def T_hasCode : List Bool := [false, false, false, false, false, false, true, false, false, true, false, false]
def T_hasScopes : List Bool := [false, false, false, true, true, false, true, false, false, true, false, false]
def T_hasAt : List Bool := [false, true, false, true, true, false, true, false, false, true, false, false]
theorem kinds12 (k : Nat) (h0 : 0 < k) (h1 : k < 12) : k = 1 ∨ k = 2 ∨ k = 3 ∨ k = 4 ∨ k = 5 ∨ k = 6 ∨ k = 7 ∨ k = 8 ∨ k = 9 ∨ k = 10 ∨ k = 11 := by omega
theorem tab_hasID (k : Nat) (h0 : 0 < k) (h1 : k < 12) : T_hasID.getD k false = nm (k : Int) 1 := by
  rcases kinds12 k h0 h1 with h | h | h | h | h | h | h | h | h | h | h <;> subst h <;> decide
theorem tab_hasUser (k : Nat) (h0 : 0 < k) (h1 : k < 12) : T_hasUser.getD k false = nm (k : Int) 2 := by
  rcases kinds12 k h0 h1 with h | h | h | h | h | h | h | h | h | h | h <;> subst h <;> decide
theorem tab_hasClient (k : Nat) (h0 : 0 < k) (h1 : k < 12) : T_hasClient.getD k false = nm (k : Int) 4 := by
  rcases kinds12 k h0 h1 with h | h | h | h | h | h | h | h | h | h | h <;> subst h <;> decide
theorem tab_hasRedirect (k : Nat) (h0 : 0 < k) (h1 : k < 12) : T_hasRedirect.getD k false = nm (k : Int) 8 := by
  rcases kinds12 k h0 h1 with h | h | h | h | h | h | h | h | h | h | h <;> subst h <;> decide
theorem tab_hasChallenge (k : Nat) (h0 : 0 < k) (h1 : k < 12) : T_hasChallenge.getD k false = nm (k : Int) 16 := by
  rcases kinds12 k h0 h1 with h | h | h | h | h | h | h | h | h | h | h <;> subst h <;> decide
theorem tab_hasCode (k : Nat) (h0 : 0 < k) (h1 : k < 12) : T_hasCode.getD k false = nm (k : Int) 32 := by
  rcases kinds12 k h0 h1 with h | h | h | h | h | h | h | h | h | h | h <;> subst h <;> decide
theorem tab_hasScopes (k : Nat) (h0 : 0 < k) (h1 : k < 12) : T_hasScopes.getD k false = nm (k : Int) 64 := by
  rcases kinds12 k h0 h1 with h | h | h | h | h | h | h | h | h | h | h <;> subst h <;> decide
theorem tab_hasAt (k : Nat) (h0 : 0 < k) (h1 : k < 12) : T_hasAt.getD k false = nm (k : Int) 128 := by
  rcases kinds12 k h0 h1 with h | h | h | h | h | h | h | h | h | h | h <;> subst h <;> decide
theorem empty_forms (s : ByteArray) (z : Bool) (h : decide (s.size = 0) = z) : (s.toList == []) = z ∧ s.toList.isEmpty = z ∧ s.data.toList.isEmpty = z := by
  by_cases hs : s = ⟨#[]⟩
  · subst hs
    subst h
    exact ⟨by rw [ByteArray.toList_eq]; rfl, by rw [ByteArray.toList_eq]; rfl, rfl⟩
  · obtain ⟨h1, h2, h3⟩ := tm.word_ne hs
    have hz : ¬ s.size = 0 := fun h => hs (ba_ext (by simpa using List.eq_nil_of_length_eq_zero (l := s.data.toList) (by simpa using h)))
    rw [decide_eq_false hz] at h
    subst h
    exact ⟨h1, h3, h2⟩
/-- the document's word: fields one by one -/
def e_at (r : Rec) : Bool := eit (nm r.k 128) (decide (0 ≤ r.at_) && decide (r.at_ ≤ 1099511627776)) (decide (r.at_ = 0))
def chN (r : Rec) : Int := if mayB r then 0 else 1
end Go.Proofs.YtidccfflpcgkiaaGreatDoor.rc

namespace Go.Proofs.YtidccfflpcgkiaaGreatDoor.rc
open Go.ChangeShapes Go.WideShapes Go.ChangeAt Go.RowKit Go.Proofs.YtidccfflpcgkiaaGreatDoor.common Go.Proofs.YtidccfflpcgkiaaGreatDoor.dk

theorem wpList_appendX {P : Program} {w : World} {ops : Array Oper} {rest : List Oper} {o : Oper} {a : Act} {Q : Exit → Act → World → Prop} (hgd : o.guard = none) (s x : Operand) (t tx : TypeId)
    (ho : o.op = .call { callee := .builtin .append, args := #[s, x], argTypes := #[t, tx] }) (vs vx : Value) (hs : a.eval s = vs) (hx : a.eval x = vx) (v' : Value) (w' : World)
    (hr : (Builtin.append_ #[t, tx] o.type #[vs, vx]).run P w = .ok v' w') (h : wpList P ops Q rest (a.put o.dst v') w') : wpList P ops Q (o :: rest) a w := by
  refine wpList_plain hgd fun K hK => ?_
  unfold Oper.wp execOp
  simp only [ho, resolve, invoke, builtin, Sem.run_bind, Sem.run_pure, Result.andThen_ok, List.map_toArray, List.map_cons, List.map_nil, hs, hx, hr]
  exact hK _ _ h
theorem gr_of {u v' : Value} {w w1 : World} (hf : Fr u.ownBlock.toList w w1) (hat : v'.ownBlock = u.ownBlock ∨ ∃ g, v'.ownBlock = some g ∧ w.heap.size ≤ g) : Gr u v' w w1 :=
  ⟨hf, fun k hk => by
    rcases hat with h | ⟨g, h, hg⟩
    · exact Or.inl (by rw [← h]; exact hk)
    · rw [h] at hk
      cases hk
      exact Or.inr hg⟩

end Go.Proofs.YtidccfflpcgkiaaGreatDoor.rc
