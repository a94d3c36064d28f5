import Derived.WalkKit
namespace Go.Proofs.YtmdjppjfjkgnpaaDoor.Tm

/-- what stands between the bytes c -/
def split (c : UInt8) : List UInt8 → List (List UInt8)
  | [] => [[]]
  | b :: r => if b = c then [] :: split c r else match split c r with
    | h :: t => (b :: h) :: t
    | [] => [[b]]
theorem split_ne (c : UInt8) (l : List UInt8) : split c l ≠ [] := by
  cases l with
  | nil => simp [split]
  | cons b r =>
    unfold split
    split
    · simp
    · cases split c r <;> simp
theorem split_one (c : UInt8) : ∀ l : List UInt8, (∀ x ∈ l, x ≠ c) → split c l = [l]
  | [], _ => rfl
  | b :: r, h => by
    have h1 : b ≠ c := h b (List.mem_cons_self ..)
    have h2 := split_one c r fun x hx => h x (List.mem_cons_of_mem _ hx)
    rw [split, if_neg h1, h2]
theorem split_at (c : UInt8) : ∀ (l r : List UInt8), (∀ x ∈ l, x ≠ c) → split c (l ++ c :: r) = l :: split c r
  | [], r, _ => by rw [List.nil_append, split, if_pos rfl]
  | b :: l, r, h => by
    have h1 : b ≠ c := h b (List.mem_cons_self ..)
    have h2 := split_at c l r fun x hx => h x (List.mem_cons_of_mem _ hx)
    rw [List.cons_append, split, if_neg h1, h2]
end Go.Proofs.YtmdjppjfjkgnpaaDoor.Tm
