import Derived.Test.YtkamnkldgeaaaaaDoorDkMore
namespace Go.Proofs.YtkamnkldgeaaaaaDoor.dk
open Go.ChangeShapes Go.WideShapes Go.ChangeAt Go.RowKit Go.Proofs.YtkamnkldgeaaaaaDoor.common

/-- a new disk -/
def Opened (w : World) (x : St) (r' : Ending) (w' : World) : Prop := ∃ g F, r' = .returned (ptr g) ∧ Dk w' g F x ∧ (∀ k ∈ F, w.heap.size ≤ k) ∧ Below w.heap.size w w'

set_option maxRecDepth 100000 in
set_option maxHeartbeats 1600000 in
theorem open_any (w : World) (v : Value) (l : List UInt8) (room : Int) (h : Rd w v l) (hl : l.length ≤ 281474976710656) :
    Calls Tryd.prog 5 #[v, .int .i64 room] w fun r' w' => Opened w ⟨l, l.length, roomOf room, [], false⟩ r' w' := by
  have HO := hide (own_any w v l h hl)
  obtain ⟨oa, c, rfl⟩ := h.len
  clear h
  have hro : (roomOf room : Int) = min (max room 0) 1073741824 := by
    unfold roomOf
    split
    · omega
    · split <;> omega
  have HFIN : Hid (∀ w1, Nw w1 w.heap.size l → Below w.heap.size w w1 → Opened w ⟨l, l.length, roomOf room, [], false⟩ (.returned (ptr w1.heap.size)) (w1.alloc (.cells #[.slice (some ⟨w.heap.size, 0, none⟩) l.length l.length, .int .i64 (l.length : Int), .int .i64 (roomOf room : Int), .slice none 0 0, .bool false] 55))) := fun w1 hn hb => by
    have B2 : Below w1.heap.size w1 (w1.alloc (.cells #[.slice (some ⟨w.heap.size, 0, none⟩) l.length l.length, .int .i64 (l.length : Int), .int .i64 (roomOf room : Int), .slice none 0 0, .bool false] 55)) := (Below.refl _ _).alloc (Nat.le_refl _) _
    obtain ⟨gb, hgb, hln⟩ := (hn.below B2).ln (by unfold maxLen; omega)
    refine ⟨w1.heap.size, fp w1.heap.size gb none, rfl, ⟨gb, none, _, _, rfl, heap_alloc_new _ _, hln, ln_nil _ _ _⟩, fun k hk => ?_, keepD hb B2⟩
    rcases fp_cases hk with rfl | h1 | h1
    · exact hb.size
    · rcases hgb with e | e
      · rw [e] at h1; cases h1
      · rw [e] at h1; cases h1; exact Nat.le_refl _
    · cases h1
  generalize (roomOf room : Int) = rr at *
  by_cases h0 : 0 ≤ room
  · by_cases h1 : room ≤ 1073741824
    · obtain rfl : rr = room := by omega
      clear hro
      go_enter Tryd.func5, Tryd.ntmps5
      go_wp2_with fail
      refine HO.out.mono ?_
      rintro r' w1 ⟨rfl, n1, b1⟩
      have HZ := hide (HFIN.out w1 n1 b1)
      clear n1 b1 HFIN HO
      go_wp2
      go_ret
      exact HZ.out
    · obtain rfl : rr = 1073741824 := by omega
      clear hro
      go_enter Tryd.func5, Tryd.ntmps5
      go_wp2_with fail
      refine HO.out.mono ?_
      rintro r' w1 ⟨rfl, n1, b1⟩
      have HZ := hide (HFIN.out w1 n1 b1)
      clear n1 b1 HFIN HO
      go_wp2
      go_ret
      exact HZ.out
  · obtain rfl : rr = 0 := by omega
    clear hro
    go_enter Tryd.func5, Tryd.ntmps5
    go_wp2_with fail
    refine HO.out.mono ?_
    rintro r' w1 ⟨rfl, n1, b1⟩
    have HZ := hide (HFIN.out w1 n1 b1)
    clear n1 b1 HFIN HO
    go_wp2
    go_ret
    exact HZ.out
end Go.Proofs.YtkamnkldgeaaaaaDoor.dk
