import Derived.Test.YtcogblelfeifbaaGreatDoorRcRefB
namespace Go.Proofs.YtcogblelfeifbaaGreatDoor.rc
open Go.ChangeShapes Go.WideShapes Go.ChangeAt Go.RowKit Go.Proofs.YtcogblelfeifbaaGreatDoor.common Go.Proofs.YtcogblelfeifbaaGreatDoor.dk Go.Proofs.YtcogblelfeifbaaGreatDoor.ss

theorem doc_rec (r : Rec) (h0 : 0 < r.k) (h1 : r.k < 12) : docL r = recL r := by
  rcases kindsI r.k h0 h1 with h | h | h | h | h | h | h | h | h | h | h <;>
    (unfold docL recL prts idL midL endL
     rw [h]
     simp [show nm 1 1 = true by decide, show nm 1 2 = true by decide, show nm 1 4 = false by decide, show nm 1 8 = false by decide, show nm 1 32 = false by decide, show nm 1 64 = false by decide, show nm 1 128 = true by decide]
     try simp (config := { decide := true }))

/-- what the document answers -/
def REncOut (r : Rec) (w : World) (x : Ending) (w' : World) : Prop :=
  ∃ v', x = .returned (.tuple #[v', .int .i64 (chN r)]) ∧ (∃ n, w'.ownsRow n 5 1 v' (if mayB r then recL r else []).length ((if mayB r then recL r else []).map B)) ∧ Below w.heap.size w w'

set_option maxRecDepth 100000 in
set_option maxHeartbeats 3200000 in
theorem refEncode_any (r : Rec) (v : Value) (w : World) (hv : Lies w v r.ss) (hz : r.Small) (hl : r.Low) (ht : HTab w) :
    Calls Tryz.prog 16 #[.agg (rcs r v)] w (REncOut r w) := by
  obtain ⟨W0, hW0⟩ : ∃ W0, W0 = w.alloc (.cells (rcs r v) 24) := ⟨_, rfl⟩
  have hb0 : Below w.heap.size w W0 := by rw [hW0]; exact (Below.refl _ _).alloc (Nat.le_refl _) _
  have HM := hide (refCheck_any r v W0 (hv.below hb0) hz ⟨hl.id, hl.cd⟩ (ht.below hb0))
  have HB0 := hide hb0
  have HR : Hid (∀ X, Below W0.heap.size W0 X → X.rangeAt w.heap.size 0 [.int .i64 r.k, .string r.id, .string r.us, .string r.cl, .string r.rd, .string r.ch, .string r.cd, v, .int .i64 r.at_]) := fun X hX => by
    refine range_of ((hX.block _ ?_).trans (?_ : W0.heap[w.heap.size]? = some (.cells (rcs r v) 24 (0, 0))))
    · rw [hW0]; simp
    · rw [hW0]; exact heap_alloc_new w _
  have HR0 := hide (HR.out W0 (Below.refl _ _))
  rw [hW0] at HR0
  have HW0 := hide hW0
  have HV : Hid (∀ X, Below w.heap.size w X → Lies X v r.ss ∧ HTab X) := fun X hX => ⟨hv.below hX, ht.below hX⟩
  clear hv ht hb0 hW0
  unfold REncOut
  cases hm : mayB r with
  | false =>
    have hc : chN r = 1 := by unfold chN; rw [hm]; rfl
    rw [hc] at HM
    rw [hc]
    simp only [Bool.false_eq_true, if_false]
    clear hm hc
    go_enter Tryz.func16, Tryz.ntmps16
    go_wp2_with (refine wpList_load_mid rfl 24 (.tmp 1) rfl w.heap.size 0 rfl _ _ HR0.out Tryz.underlying24 rfl sizeRec ?_)
    rw [← HW0.out]
    refine HM.out.mono ?_
    rintro x w2 ⟨rfl, b2⟩
    have HB := hide (keepW HB0.out b2)
    clear b2
    go_wp2_with fail
    go_ret2
    exact ⟨_, rfl, ⟨0, World.ownsRow_nil _ _ _ _⟩, HB.out⟩
  | true =>
    have hc : chN r = 0 := by unfold chN; rw [hm]; rfl
    rw [hc] at HM
    rw [hc]
    obtain ⟨k0, k1, hF⟩ := fine_of hm hl
    have HD := hide (doc_rec r k0 k1)
    simp only [if_true]
    have HBO : Hid (∀ X, Below w.heap.size w X → Calls Tryz.prog 38 #[.agg (rcs r v)] X fun e w' => ∃ v', e = .returned v' ∧ w'.ownsRow (X.heap.size + 1) 5 1 v' (recL r).length ((recL r).map B) ∧ Below X.heap.size X w') := fun X hX => by
      have h := bytesOf_any r v X (HV.out X hX).1 k0 k1 hl hF (HV.out X hX).2
      rw [HD.out] at h
      exact h
    clear hm hc k0 k1 hF
    go_enter Tryz.func16, Tryz.ntmps16
    go_wp2_with (refine wpList_load_mid rfl 24 (.tmp 1) rfl w.heap.size 0 rfl _ _ HR0.out Tryz.underlying24 rfl sizeRec ?_)
    rw [← HW0.out]
    refine HM.out.mono ?_
    rintro x w2 ⟨rfl, b2⟩
    have HB := hide (keepW HB0.out b2)
    have HR2 := hide (HR.out w2 b2)
    have HBY := hide (HBO.out w2 HB.out)
    clear b2
    go_wp2_with (refine wpList_load_mid rfl 24 (.tmp 1) rfl w.heap.size 0 rfl _ _ HR2.out Tryz.underlying24 rfl sizeRec ?_)
    refine HBY.out.mono ?_
    rintro x w3 ⟨v3, rfl, hown, b3⟩
    have HO := hide hown
    have HB3 := hide (keepW HB.out b3)
    clear hown b3
    go_wp2_with fail
    go_ret2
    exact ⟨_, rfl, ⟨_, HO.out⟩, HB3.out⟩
end Go.Proofs.YtcogblelfeifbaaGreatDoor.rc
