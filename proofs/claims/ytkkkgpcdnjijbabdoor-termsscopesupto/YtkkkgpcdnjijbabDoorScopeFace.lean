import Derived.Test.YtkkkgpcdnjijbabDoorJoinS
namespace Go.Proofs.YtkkkgpcdnjijbabDoor.ss
open Go.ChangeShapes Go.WideShapes Go.ChangeAt Go.RowKit Go.Joins Go.Proofs.YtkkkgpcdnjijbabDoor.common Go.Proofs.YtkkkgpcdnjijbabDoor.bk
attribute [local go_sem ↓] Go.wp_at_zero Go.wp_at_succ

/-- a slice is no longer than its room -/
def Room (v : Value) : Prop := ∀ oa n c, v = .slice oa n c → n ≤ c
theorem room_of {H : Type} {enc : TypeId × Value → H} {W : World} {fuel : Nat} {v : Value} {x : DataW H × List MemPlace} (h : DataW.trod enc Tryd.prog W 0 (fun _ => true) true fuel 25 [v] = some x) : Room v := by
  rcases Deep.open_slice Tryd.underlying25 h with ⟨hcs, _⟩ | ⟨a, len, cap, m, n, D, Pl, hcs, _, hl, _⟩
  · obtain rfl : v = .slice none 0 0 := by simpa using hcs
    intro oa n c e; cases e; exact Nat.le_refl _
  · obtain rfl : v = .slice (some a) len cap := by simpa using hcs
    intro oa n c e; cases e; exact hl
theorem room_own {w : World} {base : Nat} {e : TypeId} {v : Value} {n : Nat} {xs : List Value} (h : w.ownsRow base e 1 v n xs) : Room v := by
  rcases h.2 with ⟨rfl, _⟩ | ⟨g, cap, cur, rfl, _, _, hn, _⟩
  · intro oa n c e; cases e; exact Nat.le_refl _
  · intro oa n c e; cases e; exact hn

theorem join_lies (v : Value) (l : List ByteArray) (w : World) (hl : Lies w v l) (hr : Room v) (ht : tot l ≤ 140737488355328) :
    Calls Tryd.prog 36 #[v, .string ⟨#[32]⟩] w fun e w' => e = .returned (S (joinS l)) ∧ Below w.heap.size w w' := by
  have hn := len_tot l
  obtain ⟨oa, cap, rfl, hc⟩ := hl
  cases l with
  | nil => exact (Any.strings_Join_none jl.lays156 extra156 oa cap ⟨#[32]⟩ w).mono fun e w' ⟨he, hw⟩ => ⟨he, hw ▸ Below.refl _ _⟩
  | cons x r =>
    obtain ⟨b, o, rfl, hb, _⟩ := hc 0 (by simp)
    refine Any.strings_Join jl.lays156 extra156 b o cap (x :: r) ⟨#[32]⟩ w ?_ hb (by omega) (hr _ _ _ rfl) (Nat.le_trans (joinS_len (x :: r)) ht)
    intro j y hy
    obtain ⟨hj, rfl⟩ := List.getElem?_eq_some_iff.1 hy
    obtain ⟨b', o', e, _, c0⟩ := hc j hj
    cases e
    exact c0

set_option maxRecDepth 100000 in
theorem text_any (v : Value) (l : List ByteArray) (w : World) (hl : Lies w v l) (hr : Room v) (ht : tot l ≤ 140737488355328) :
    Calls Tryd.prog 18 #[v] w fun e w' => e = .returned (S (joinS l)) ∧ Below w.heap.size w w' := by
  have HJ := hide (join_lies v l w hl hr ht)
  clear hl hr
  go_enter Tryd.func18, Tryd.ntmps18
  go_wp2_with fail
  refine HJ.out.mono ?_
  rintro e w' ⟨rfl, hb⟩
  have HB := hide hb
  clear hb
  go_wp2_with fail
  go_ret
  exact ⟨rfl, HB.out⟩

end Go.Proofs.YtkkkgpcdnjijbabDoor.ss
