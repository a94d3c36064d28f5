import Derived.Test.YtlefalplljgkeaaGreatDoorMCkB
import Derived.Test.YtlefalplljgkeaaGreatDoorMFieldLays
import Derived.Test.YtlefalplljgkeaaGreatDoorMListKit0
import Derived.Shelf.Strings.OnBuilder
namespace Go.Proofs.YtlefalplljgkeaaGreatDoor.fd
open Go.ChangeShapes Go.WideShapes Go.ChangeAt Go.RowKit Go.Proofs.YtlefalplljgkeaaGreatDoor.common Go.Proofs.YtlefalplljgkeaaGreatDoor.bk
open Go.Proofs.YtlefalplljgkeaaGreatDoor.lst (PB Lies)
attribute [local go_sem ↓] Go.wp_at_zero Go.wp_at_succ

def one (p : PB) : ByteArray := ckB p.1 p.2
/-- how long pairs are, written -/
def tot : List PB → Nat
  | [] => 0
  | p :: r => p.1.size + p.2.size + 3 + tot r
theorem tot_app (l m : List PB) : tot (l ++ m) = tot l + tot m := by
  induction l with
  | nil => simp [tot]
  | cons p r ih => show _ + tot (r ++ m) = _ + tot r + tot m; rw [ih]; omega
theorem tot_take (l : List PB) (k : Nat) : tot (l.take k) ≤ tot l := by
  conv => rhs; rw [← List.take_append_drop k l]
  rw [tot_app]; omega
theorem tot_mem {l : List PB} {p : PB} (h : p ∈ l) : p.1.size + p.2.size + 3 ≤ tot l := by
  induction l with
  | nil => cases h
  | cons q r ih =>
    show _ ≤ q.1.size + q.2.size + 3 + tot r
    rcases List.mem_cons.1 h with rfl | h
    · omega
    · have := ih h; omega
/-- the texts of pairs, joined -/
def joinL (l : List PB) : List UInt8 := Lib.join (l.map fun p => (one p).data.toList) [59, 32]
def joinB (l : List PB) : ByteArray := ⟨(joinL l).toArray⟩
theorem joinL_nil : joinL [] = [] := rfl
theorem joinL_snoc (l : List PB) (p : PB) : joinL (l ++ [p]) = joinL l ++ ((if l = [] then [] else [59, 32]) ++ (one p).data.toList) := by
  cases l with
  | nil => simp [joinL, Lib.join_one, Lib.join_nil]
  | cons q r =>
    rw [if_neg (by simp)]
    unfold joinL
    rw [List.cons_append, List.map_cons, List.map_cons, List.map_append, Lib.join_cons, Lib.join_cons]
    unfold Lib.joinTail
    simp
theorem joinL_len (l : List PB) : (joinL l).length ≤ tot l := by
  have h : ∀ n (l : List PB), l.length = n → (joinL l).length ≤ tot l := by
    intro n
    induction n with
    | zero => intro l hl; rw [List.eq_nil_of_length_eq_zero hl]; exact Nat.zero_le _
    | succ n ih =>
      intro l hl
      have hne : l ≠ [] := by intro e; rw [e] at hl; cases hl
      rw [← List.dropLast_concat_getLast hne, joinL_snoc, tot_app]
      have h1 := ih l.dropLast (by rw [List.length_dropLast, hl]; rfl)
      rw [List.length_append, List.length_append, len_list]
      unfold one
      rw [ckB_size]
      have h2 : ((if l.dropLast = [] then ([] : List UInt8) else [59, 32])).length ≤ 2 := by split <;> simp
      show _ ≤ _ + ((l.getLast hne).1.size + (l.getLast hne).2.size + 3 + 0)
      omega
  exact h _ l rfl
def allCk (l : List PB) : Bool := l.all fun p => isCk p.1 p.2
theorem allCk_take (l : List PB) (k : Nat) (h : k < l.length) : allCk (l.take (k + 1)) = (allCk (l.take k) && isCk l[k].1 l[k].2) := by
  unfold allCk
  rw [List.take_succ_eq_append_getElem h, List.all_append]; simp
theorem allCk_false {l : List PB} {k : Nat} (h : allCk (l.take k) = false) : allCk l = false := by
  unfold allCk at *
  have e : l.all (fun p => isCk p.1 p.2) = ((l.take k).all (fun p => isCk p.1 p.2) && (l.drop k).all fun p => isCk p.1 p.2) := by rw [← List.all_append, List.take_append_drop]
  rw [e, h]; rfl

theorem extra156 : Builder.Extra Tryz.prog jl.lays156_ren where
  sizeBuilder := by kernel_rfl
  liesBuilder := by kernel_rfl
  t5 := Tryz.underlying5
  a5 := Tryz.isAgg5
  z5 := Tryz.sizeOf5
  v5 := Tryz.zeroValue5
  infoByte := by kernel_rfl
  cellsByte := by kernel_rfl
  sizeByte := by kernel_rfl
  neB5 := by decide
theorem infoS : (Tryz.prog.info? 9).map (fun i => (i.zero, i.size, i.bytes)) = some (some (.string ⟨#[]⟩), 1, 16) := by kernel_rfl

theorem joined_any {base : Nat} (v : Value) (l : List PB) (w : World) (h : w.ownsRow base 9 1 v l.length (l.map fun p => .string (one p))) (hl : l.length ≤ 16) (ht : tot l ≤ 140737488355328) :
    Calls Tryz.prog 19 #[v, .string ⟨#[59, 32]⟩] w fun e w' => e = .returned (.string (joinB l)) ∧ Below w.heap.size w w' := by
  have e : (l.map one).map (·.data.toList) = l.map fun p => (one p).data.toList := by rw [List.map_map]; rfl
  rcases h.2 with ⟨rfl, h0⟩ | ⟨g, cap, cur, rfl, hg, hh, hn, _, hsz, htk⟩
  · obtain rfl : l = [] := List.eq_nil_of_length_eq_zero h0
    exact (Any.strings_Join_none jl.lays156 extra156 none 0 ⟨#[59, 32]⟩ w).mono fun x w' ⟨hx, hw⟩ => ⟨hx, hw ▸ Below.refl _ _⟩
  · have hc : ∀ (j : Nat) x, (l.map one)[j]? = some x → w.cell? ⟨g, 0 + j, none⟩ = some (.string x) := by
      intro j x hx
      have hj : j < l.length := by have := (List.getElem?_eq_some_iff.1 hx).1; simpa using this
      have h1 : (cur.toList.take (l.length * 1))[j]? = (l.map fun p => Value.string (one p))[j]? := by rw [htk]
      rw [List.getElem?_take_of_lt (by omega), List.getElem?_map] at h1
      rw [List.getElem?_map] at hx
      simp only [World.cell?, hh]
      rw [List.getElem?_eq_getElem hj] at h1 hx
      simp at h1 hx
      subst hx
      simpa using h1
    have := Any.strings_Join jl.lays156 extra156 g 0 cap (l.map one) ⟨#[59, 32]⟩ w hc (Array.getElem?_eq_some_iff.1 hh).1 (by rw [List.length_map]; omega) (by rw [List.length_map]; exact hn) (by rw [e]; exact Nat.le_trans (joinL_len l) ht)
    rw [List.length_map, e] at this
    exact this

end Go.Proofs.YtlefalplljgkeaaGreatDoor.fd
