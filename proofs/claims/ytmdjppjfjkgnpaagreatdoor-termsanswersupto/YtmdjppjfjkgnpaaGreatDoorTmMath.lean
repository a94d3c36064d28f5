import Derived.WalkKit
namespace Go.Proofs.YtmdjppjfjkgnpaaGreatDoor.Tm

/-- bytes from lo to hi -/
def btw (lo hi : Nat) (b : UInt8) : Bool := decide (lo ≤ b.toNat ∧ b.toNat ≤ hi)
/-- one byte or more, up to so many, each of which may be there -/
def word (most : Nat) (p : UInt8 → Bool) (l : List UInt8) : Bool := !l.isEmpty && decide (l.length ≤ most) && l.all p

theorem all_take (l : List UInt8) (p : UInt8 → Bool) (k : Nat) (h : k < l.length) : (l.take (k + 1)).all p = ((l.take k).all p && p l[k]) := by
  rw [List.take_succ_eq_append_getElem h, List.all_append]; simp
theorem all_short (l : List UInt8) (p : UInt8 → Bool) (k : Nat) (h : (l.take k).all p = false) : l.all p = false := by
  have e : l.all p = ((l.take k).all p && (l.drop k).all p) := by rw [← List.all_append, List.take_append_drop]
  rw [e, h]; rfl
end Go.Proofs.YtmdjppjfjkgnpaaGreatDoor.Tm

namespace Go.Proofs.YtmdjppjfjkgnpaaGreatDoor.Tm

/-- what stands between the bytes c -/
def split (c : UInt8) : List UInt8 → List (List UInt8)
  | [] => [[]]
  | b :: r => if b = c then [] :: split c r else match split c r with
    | h :: t => (b :: h) :: t
    | [] => [[b]]
theorem split_ne (c : UInt8) (l : List UInt8) : split c l ≠ [] := by
  cases l with
  | nil => simp [split]
  | cons b r =>
    unfold split
    split
    · simp
    · cases split c r <;> simp
theorem split_one (c : UInt8) : ∀ l : List UInt8, (∀ x ∈ l, x ≠ c) → split c l = [l]
  | [], _ => rfl
  | b :: r, h => by
    have h1 : b ≠ c := h b (List.mem_cons_self ..)
    have h2 := split_one c r fun x hx => h x (List.mem_cons_of_mem _ hx)
    rw [split, if_neg h1, h2]
theorem split_at (c : UInt8) : ∀ (l r : List UInt8), (∀ x ∈ l, x ≠ c) → split c (l ++ c :: r) = l :: split c r
  | [], r, _ => by rw [List.nil_append, split, if_pos rfl]
  | b :: l, r, h => by
    have h1 : b ≠ c := h b (List.mem_cons_self ..)
    have h2 := split_at c l r fun x hx => h x (List.mem_cons_of_mem _ hx)
    rw [List.cons_append, split, if_neg h1, h2]
end Go.Proofs.YtmdjppjfjkgnpaaGreatDoor.Tm
