import Derived.Test.YtkibaedocieceaaDoorDkFree
namespace Go.Proofs.YtkibaedocieceaaDoor.dk
open Go.ChangeShapes Go.WideShapes Go.ChangeAt Go.RowKit Go.Proofs.YtkibaedocieceaaDoor.common

/-- no arm waits, the room is what it was -/
theorem oper_quiet {x : St} {dying on : St → St} {err : Nat} (h : x.a = []) (h2 : ∀ y, (on y).a = y.a ∧ (on y).r = y.r) : (x.oper dying on err).1.a = [] ∧ (x.oper dying on err).1.r = x.r := by
  unfold St.oper
  split
  · exact ⟨h, rfl⟩
  · rw [h]
    exact ⟨(h2 _).1.trans h, (h2 _).2⟩
theorem put_room (x : St) (p : List UInt8) : (x.put p).r = x.r := by unfold St.put; split <;> rfl
theorem step_quiet (x : St) (s : Sp) (h : x.a = []) (hs : s.k ≠ 5) : (x.step s).1.a = [] ∧ (x.step s).1.r = x.r := by
  unfold St.step
  repeat' split
  · exact oper_quiet h (fun y => ⟨put_arms y _, put_room y _⟩)
  · exact oper_quiet (dying := id) (on := St.sync) (err := 0) h (fun y => ⟨rfl, rfl⟩)
  · exact oper_quiet (dying := id) (on := id) (err := 0) h (fun y => ⟨rfl, rfl⟩)
  · show (x.trunc s.n).1.a = [] ∧ (x.trunc s.n).1.r = x.r
    unfold St.trunc
    split
    · exact ⟨h, rfl⟩
    · exact oper_quiet (dying := id) (on := fun y => y.cut s.n.toNat) (err := 0) h (fun y => ⟨rfl, rfl⟩)
  · show (x.crash s.n).a = [] ∧ (x.crash s.n).r = x.r
    unfold St.crash
    split <;> exact ⟨h, rfl⟩
  · exact ⟨h, rfl⟩
  · exact ⟨h, rfl⟩
  · exact ⟨h, rfl⟩
  · exact ⟨h, rfl⟩
theorem crash_dead (x : St) (k : Int) : (x.crash k).d = true := by
  unfold St.crash
  split
  · assumption
  · rfl
/-- a dead disk is synced -/
def Dry (x : St) : Prop := x.d = true → x.s = x.b.length
theorem fail_dry (x : St) (k : Int) (h : x.s ≤ x.b.length) : Dry (x.fail k) := fun _ => by
  have := x.left_le k h
  show x.left k = (x.b.take (x.left k)).length
  rw [List.length_take]; omega
theorem oper_dry {x : St} {dying on : St → St} {err : Nat} (h : Dry x) (hd : ∀ y : St, y.s ≤ y.b.length → (dying y).s ≤ (dying y).b.length) (h2 : ∀ y, (on y).d = y.d) (hx : x.s ≤ x.b.length) : Dry (x.oper dying on err).1 := by
  unfold St.oper
  split
  · exact h
  · rename_i hxd
    split
    · intro hd2; rw [h2] at hd2; rw [hd2] at hxd; exact absurd rfl hxd
    · exact fail_dry _ _ (hd _ hx)
    · intro hd2; rw [h2] at hd2; cases hd2
theorem put_ok (x : St) (p : List UInt8) (h : x.s ≤ x.b.length) : (x.put p).s ≤ (x.put p).b.length := by
  unfold St.put
  split
  · show x.s ≤ (x.b ++ p).length; rw [List.length_append]; omega
  · exact h
theorem put_dead (x : St) (p : List UInt8) : (x.put p).d = x.d := by unfold St.put; split <;> rfl
theorem step_dry (x : St) (s : Sp) (h : Dry x) (hx : x.s ≤ x.b.length) : Dry (x.step s).1 := by
  unfold St.step
  repeat' split
  · exact oper_dry h (fun y hy => put_ok y _ hy) (fun y => put_dead y _) hx
  · exact oper_dry (dying := id) (on := St.sync) (err := 0) h (fun y hy => hy) (fun y => rfl) hx
  · exact oper_dry (dying := id) (on := id) (err := 0) h (fun y hy => hy) (fun y => rfl) hx
  · show Dry (x.trunc s.n).1
    unfold St.trunc
    split
    · exact h
    · exact oper_dry (dying := id) (on := fun y => y.cut s.n.toNat) (err := 0) h (fun y hy => hy) (fun y => rfl) hx
  · exact h
  · show Dry (x.crash s.n)
    unfold St.crash
    split
    · exact h
    · exact fail_dry _ _ hx
  · exact h
  · intro hd; cases hd
  · exact h
  · exact h
end Go.Proofs.YtkibaedocieceaaDoor.dk
