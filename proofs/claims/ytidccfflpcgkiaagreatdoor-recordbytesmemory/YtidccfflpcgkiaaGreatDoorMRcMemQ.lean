import Derived.Test.YtidccfflpcgkiaaGreatDoorMRcMemG
import Derived.Test.YtidccfflpcgkiaaGreatDoorMRcHeld
import Derived.Test.YtidccfflpcgkiaaGreatDoorMRcPkB
namespace Go.Proofs.YtidccfflpcgkiaaGreatDoor.rc
open Go.ChangeShapes Go.WideShapes Go.ChangeAt Go.RowKit Go.Proofs.YtidccfflpcgkiaaGreatDoor.common Go.Proofs.YtidccfflpcgkiaaGreatDoor.dk

theorem grown_rep (A : Nat → Prop) (n g cap : Nat) (c : UInt8) (w : World) (h : Rw A w (.slice (some ⟨g, 0, none⟩) n cap) (List.replicate n c)) (hn : n ≤ 1048576) :
    Calls Tryz.prog 24 #[.slice (some ⟨g, 0, none⟩) n cap, .int .u8 (c.toNat : Int)] w fun e w' => ∃ v', e = .returned v' ∧ Rw (fun b => b = g ∨ (w.heap.size ≤ b ∧ b < w'.heap.size)) w' v' (List.replicate (n + 64) c) ∧ Fr [g] w w' := by
  have h1 := grown_any A (List.replicate n c) g cap c w (by rw [List.length_replicate]; exact h) (by rw [List.length_replicate]; exact hn)
  rw [List.length_replicate, List.replicate_append_replicate] at h1
  exact h1
theorem own_sets {w : World} {base g : Nat} {v : Value} {n : Nat} {xs : List Value} {vs : List Value} (h : w.ownsRow base 9 1 v n xs) {cs : Array Value} (hg : w.heap[g]? = some (.cells cs 24 (0, 0))) (o : Nat) : (w.setCells g o vs).ownsRow base 9 1 v n xs := by
  refine ⟨h.1, ?_⟩
  rcases h.2 with hh | ⟨b, cap, cur, rfl, hb, hh, hn⟩
  · exact Or.inl hh
  · refine Or.inr ⟨b, cap, cur, rfl, hb, (sets_other _ _ _ _ _ (fun e => ?_)).trans hh, hn⟩
    rw [e, hg] at hh
    simp at hh
theorem OwnR.blk {base : Nat} {w : World} {l : List Rec} {s : List Value} {g n cap : Nat} (h : OwnR base w (.slice (some ⟨g, 0, none⟩) n cap) l s) : ∃ cs, w.heap[g]? = some (.cells cs 24 (0, 0)) ∧ l.length * 9 ≤ cs.size := by
  rcases h.row.2 with ⟨hv, _⟩ | ⟨g', cap', cur, hv, hg, hh, h1, h2, h3, h4⟩
  · cases hv
  · cases hv
    exact ⟨cur, hh, by rw [h3]; omega⟩
/-- the first record is written over -/
theorem liesR_head {base base' g n cap : Nat} {w : World} {r r' : Rec} {t : List Rec} {u u' : Value} {s : List Value} (h : OwnR base w (.slice (some ⟨g, 0, none⟩) n cap) (r :: t) (u :: s)) (hu : w.ownsRow base' 9 1 u' r'.ss.length (Go.Proofs.YtidccfflpcgkiaaGreatDoor.ss.sc r'.ss)) :
    w.there g 0 9 ∧ LiesR (w.setCells g 0 (rcl9 r' u')) (.slice (some ⟨g, 0, none⟩) n cap) (r' :: t) := by
  obtain ⟨cs, hg, hz⟩ := h.blk
  have hth : w.there g 0 9 := there_of (cur := cs.toList) (t := 24) (by simpa using hg) 0 9 (by simp; simp at hz; omega)
  have hn : n = t.length + 1 := by obtain ⟨oa, c, e⟩ := own_slice h.row; cases e; rfl
  have hc := h.row.cells (g := g) rfl
  refine ⟨hth, _, cap, by rw [hn]; rfl, fun i hi => ?_⟩
  have hsz : g < (w.setCells g 0 (rcl9 r' u')).heap.size := by rw [size_sets]; exact (Array.getElem?_eq_some_iff.1 hg).1
  cases i with
  | zero =>
    refine ⟨g, 0, u', rfl, hsz, ?_, ss.lies_of_own (own_sets hu hg 0)⟩
    exact World.rangeAt_setCells_same w g 0 (rcl9 r' u') hth
  | succ i =>
    have hi1 : i + 1 < (r :: t).length := by simpa using hi
    have hi2 : i + 1 < (u :: s).length := by have := h.len; omega
    have hti : (r' :: t)[i + 1] = (r :: t)[i + 1] := rfl
    refine ⟨g, 0, (u :: s)[i + 1], rfl, hsz, ?_, ?_⟩
    · refine World.rangeAt_setCells_apart (fun j x hx => ?_) _ _ _ (Or.inr (Or.inr ?_))
      · rw [hti] at hx
        have := hc _ _ (rcc_get (r :: t) (u :: s) h.len (i + 1) hi1 j x hx)
        rw [Addr.add_mid] at this
        rw [← this, Nat.zero_add, Nat.zero_add]
      · show 0 + 9 ≤ 0 + (i + 1) * 9
        omega
    · rw [hti]
      exact ss.lies_of_own (own_sets (h.each (i + 1) hi2) hg 0)
end Go.Proofs.YtidccfflpcgkiaaGreatDoor.rc
