import Derived.Test.YtkkkgpcdnjijbabDoorStrOpen
import Derived.Test.YtkkkgpcdnjijbabDoorTermLays
import Derived.Shelf.Strings.OnBuilder
namespace Go.Proofs.YtkkkgpcdnjijbabDoor.ss
open Go.ChangeShapes Go.WideShapes Go.ChangeAt Go.RowKit Go.Proofs.YtkkkgpcdnjijbabDoor.common Go.Proofs.YtkkkgpcdnjijbabDoor.bk
attribute [local go_sem ↓] Go.wp_at_zero Go.wp_at_succ

/-- texts with a blank between each two -/
def joinS (l : List ByteArray) : List UInt8 := Lib.join (l.map (·.data.toList)) [32]
theorem join_snoc (x : List UInt8) (r : List (List UInt8)) (y : List UInt8) : Lib.join ((x :: r) ++ [y]) [32] = Lib.join (x :: r) [32] ++ [32] ++ y := by
  rw [List.cons_append, Lib.join_cons, Lib.join_cons]
  unfold Lib.joinTail
  simp [List.append_assoc]
theorem joinS_snoc (l : List ByteArray) (k : Nat) (h : k < l.length) (h0 : 0 < k) : joinS (l.take (k + 1)) = joinS (l.take k) ++ [32] ++ l[k].data.toList := by
  rw [takeS l k h]
  unfold joinS
  rw [List.map_append]
  cases e : l.take k with
  | nil => have := congrArg List.length e; rw [List.length_take, Nat.min_eq_left (by omega), List.length_nil] at this; omega
  | cons x r => rw [List.map_cons]; exact join_snoc _ _ _
theorem joinS_first (l : List ByteArray) (h : 0 < l.length) : joinS (l.take 1) = l[0].data.toList := by
  rw [show 1 = 0 + 1 from rfl, takeS l 0 h]
  unfold joinS
  simp [Lib.join_one]
theorem tot_app (l m : List ByteArray) : tot (l ++ m) = tot l + tot m := by simp [tot]
theorem joinS_len (l : List ByteArray) : (joinS l).length ≤ tot l := by
  unfold joinS
  cases l with
  | nil => simp [Lib.join_nil]
  | cons x r =>
    rw [List.map_cons, Lib.join_cons]
    unfold Lib.joinTail tot
    rw [List.length_append, len_list, List.map_cons, List.sum_cons]
    have : ∀ m : List ByteArray, (((m.map (·.data.toList)).map ([32] ++ ·)).flatten).length ≤ (m.map fun x => x.size + 1).sum := by
      intro m
      induction m with
      | nil => simp
      | cons y s ih =>
        simp only [List.map_cons, List.flatten_cons, List.length_append, List.sum_cons, List.length_cons, List.length_nil, len_list]
        omega
    have := this r
    omega
theorem tot_take (l : List ByteArray) (k : Nat) (h : k < l.length) : tot (l.take k) + l[k].size + 1 ≤ tot l := by
  have e : tot l = tot (l.take (k + 1)) + tot (l.drop (k + 1)) := by rw [← tot_app, List.take_append_drop]
  rw [e, takeS l k h, tot_app]
  simp [tot]; omega
theorem tot_mem {l : List ByteArray} {x : ByteArray} (h : x ∈ l) : x.size + 1 ≤ tot l := by
  induction l with
  | nil => cases h
  | cons y r ih =>
    have e : tot (y :: r) = y.size + 1 + tot r := by simp [tot]
    rw [e]
    rcases List.mem_cons.1 h with rfl | h
    · omega
    · have := ih h; omega

theorem extra156 : Builder.Extra Tryd.prog jl.lays156_ren where
  sizeBuilder := by kernel_rfl
  liesBuilder := by kernel_rfl
  t5 := Tryd.underlying5
  a5 := Tryd.isAgg5
  z5 := Tryd.sizeOf5
  v5 := Tryd.zeroValue5
  infoByte := by kernel_rfl
  cellsByte := by kernel_rfl
  sizeByte := by kernel_rfl
  neB5 := by decide

end Go.Proofs.YtkkkgpcdnjijbabDoor.ss
