import Derived.Test.YtcogblelfeifbaaGreatDoorWitZip
import Derived.Test.YtcogblelfeifbaaGreatDoorRcRefE
import Derived.Test.YtcogblelfeifbaaGreatDoorRdSame
namespace Go.Proofs.YtcogblelfeifbaaGreatDoor.rc
open Go.ChangeShapes Go.WideShapes Go.ChangeAt Go.RowKit Go.Proofs.YtcogblelfeifbaaGreatDoor.common Go.Proofs.YtcogblelfeifbaaGreatDoor.ss
attribute [local go_sem ↓] Go.wp_at_zero Go.wp_at_succ

theorem ans_len {r : Rec} (hl : r.Low) : (if mayB r then recL r else []).length ≤ 30000000 := by
  cases hm : mayB r with
  | false => simp
  | true =>
    obtain ⟨_, _, hF⟩ := fine_of hm hl
    exact recL_len hl hF.len

set_option maxRecDepth 100000 in
set_option maxHeartbeats 12800000 in
theorem lawEncode (r : Rec) (v : Value) (w : World) (e : Nat → Addr) (hv : Lies w v r.ss) (hz : r.Small) (hb : r.Low) (hn : (r.ss.length + 4) * 16 ≤ 140737488355328) (he : Env (e 1) (e 2) (errw.E e 0) w) (hE : errw.Errs w e) (ht : HTab w) :
    Calls Tryz.prog 4 #[.agg (rcs r v)] w fun x w' => x = .returned (.bool true) ∧ Below w.heap.size w w' := by
  have HENV : Hid (∀ X, Below w.heap.size w X → Env (e 1) (e 2) (errw.E e 0) X ∧ errw.Errs X e ∧ HTab X) := fun X hX => ⟨he.below hX, hE.below hX, ht.below hX⟩
  have HV := hide hv
  have HZ := hide hz
  have HBB := hide hb
  obtain ⟨ov, cv, rfl⟩ := Lies.len hv
  have hb0 : Below w.heap.size w (w.alloc (.cells (rcs r (.slice ov r.ss.length cv)) 24)) := (Below.refl _ _).alloc (Nat.le_refl _) _
  have HTW := hide (twinR_any r (.slice ov r.ss.length cv) (w.alloc (.cells (rcs r (.slice ov r.ss.length cv)) 24)) (HV.out.below hb0) (by omega))
  have HB0 := hide hb0
  have HR0 := hide (range_alloc w r (.slice ov r.ss.length cv) 24)
  have hn1 : r.ss.length ≤ 4611686018427387000 := by omega
  clear hv hz hb he hE ht hb0
  go_enter Tryz.func4, Tryz.ntmps4
  go_wp2_with fail
  refine HTW.out.mono ?_
  rintro x w1 ⟨v1, rfl, own1, b1⟩
  obtain ⟨o1, c1, rfl⟩ := own_slice own1
  have B1 : Below w.heap.size w w1 := keepW HB0.out b1
  obtain ⟨X1, hX1⟩ : ∃ X1, X1 = w1.alloc (.cells (rcs r (.slice o1 r.ss.length c1)) 24) := ⟨_, rfl⟩
  have bx : Below w1.heap.size w1 X1 := by rw [hX1]; exact (Below.refl _ _).alloc (Nat.le_refl _) _
  have hwz : w.heap.size < w1.heap.size := by have := b1.size; simp at this; omega
  have HBX1 : Hid (Below w.heap.size w X1) := keepW B1 bx
  have hR1 : X1.rangeAt w.heap.size 0 (rcl r (.slice ov r.ss.length cv)) := dk.range_block (dk.range_block HR0.out (b1.block _ (by simp))) (bx.block _ hwz)
  have c7 : X1.cell? ⟨w.heap.size, 7, none⟩ = some (.slice ov r.ss.length cv) := by
    have := hR1 7 _ rfl
    rwa [Nat.zero_add] at this
  have hT1 : X1.heap[w1.heap.size]? = some (.cells (rcs r (.slice o1 r.ss.length c1)) 24 (0, 0)) := by rw [hX1]; exact heap_alloc_new w1 _
  have HLN := hide (lent_any (.slice ov r.ss.length cv) r.ss X1 (HV.out.below HBX1.out) hn)
  have HT1 := hide hT1
  have HR1 := hide hR1
  have HWZ : Hid (w.heap.size < X1.heap.size ∧ w1.heap.size < X1.heap.size) := ⟨by have := bx.size; omega, (Array.getElem?_eq_some_iff.1 hT1).1⟩
  have HNE : Hid (w.heap.size ≠ w1.heap.size) := by show _ ≠ _; omega
  have HWL : Hid (w.heap.size ≤ w1.heap.size) := Nat.le_of_lt hwz
  rw [hX1] at c7
  have HX1 := hide hX1
  clear own1 b1 B1 bx hR1 hT1 hX1 hwz HTW
  go_wp2_with fail
  rw [← HX1.out]
  refine HLN.out.mono ?_
  rintro x w2 ⟨va, rfl, own2, b2⟩
  have hlen : (r.ss ++ marks).length = r.ss.length + 4 := by simp
  rcases row_of_own own2 with ⟨_, h0⟩ | ⟨g, cap, rfl, hg, hgl, hrow, hcap⟩
  · exact absurd h0 (by simp)
  rw [hlen] at hcap own2
  rw [hlen]
  have hT2 := (b2.block _ HWZ.out.2).trans HT1.out
  have c8 : w2.cell? ⟨w.heap.size, 7, none⟩ = some (.slice ov r.ss.length cv) := by
    have := (dk.range_block HR1.out (b2.block _ HWZ.out.1)) 7 _ rfl
    rwa [Nat.zero_add] at this
  have c9 : w2.cell? ⟨w1.heap.size, 7, none⟩ = some (.slice o1 r.ss.length c1) := dk.cell_of hT2 7
  have c9f : w2.frozen? ⟨w1.heap.size, 7, none⟩ = false := dk.free_of hT2 7
  have n0 : (0 : Int) ≤ (r.ss.length : Int) := Int.natCast_nonneg _
  have n1 : (r.ss.length : Int) ≤ (cap : Int) := by omega
  obtain ⟨X2, hX2⟩ : ∃ X2, X2 = w2.setCell ⟨w1.heap.size, 7, none⟩ (.slice (some ⟨g, 0, none⟩) r.ss.length cap) := ⟨_, rfl⟩
  have hgT : g ≠ w1.heap.size := by have := HWZ.out.2; omega
  have hLE : Lent w r (.slice ov r.ss.length cv) (.slice (some ⟨g, 0, none⟩) r.ss.length cap) (.slice (some ⟨g, 0, none⟩) (r.ss.length + 4) cap) w1.heap.size X1.heap.size X2 := by
    have hlow : Below w.heap.size w X2 := by rw [hX2]; exact (keepW HBX1.out b2).setCell (p := ⟨w1.heap.size, 7, none⟩) HWL.out _
    have hgX : X2.heap[g]? = w2.heap[g]? := by rw [hX2]; exact dk.set_other _ _ _ _ (show g ≠ w1.heap.size from hgT)
    have hown : X2.ownsRow X1.heap.size 9 1 (.slice (some ⟨g, 0, none⟩) (r.ss.length + 4) cap) (r.ss ++ marks).length (sc (r.ss ++ marks)) := by
      rw [hlen]
      refine own_at own2 (fun k hk => ?_)
      rw [hX2]
      exact dk.set_other _ _ _ _ (show k ≠ w1.heap.size by have := HWZ.out.2; omega)
    refine ⟨hlow, ?_, ?_, ⟨?_, ?_⟩, HV.out.below hlow, ?_, hown⟩
    · refine dk.range_block (dk.range_block HR1.out (b2.block _ HWZ.out.1)) ?_
      rw [hX2]; exact dk.set_other _ _ _ _ (show w.heap.size ≠ w1.heap.size from HNE.out)
    · refine dk.range_of (t := 24) ?_
      rw [hX2]
      simp [World.setCell, Array.getElem?_modify, hT2]
    · rw [hX2, dk.size_set]; exact Nat.lt_of_lt_of_le HWZ.out.1 b2.size
    · rw [hX2, dk.size_set]; exact Nat.lt_of_lt_of_le HWZ.out.2 b2.size
    · rcases row_of_own hown with ⟨h, _⟩ | ⟨g', cap', h, _, hg', hr', _⟩
      · cases h
      · rw [hlen] at h
        cases h
        exact hr'.head hg' cap
  have HLE := hide hLE
  have HCK := hide (encode_any r (.slice (some ⟨g, 0, none⟩) r.ss.length cap) (e 1) (e 2) e X2 hLE.head HZ.out HBB.out (HENV.out X2 hLE.low).1)
  unfold EncOut at HCK
  obtain ⟨R, hR⟩ : ∃ R, R = (if mayB r then Value.nilIface else errw.E e 0) := ⟨_, rfl⟩
  obtain ⟨A, hA⟩ : ∃ A, A = (if mayB r then recL r else []) := ⟨_, rfl⟩
  have hAl : A.length ≤ 30000000 := by rw [hA]; exact ans_len HBB.out
  rw [← hR, ← hA] at HCK
  have HRR := hide hR
  have HAA := hide hA
  have HTW2 := hide hLE.twin
  rw [hX2] at HTW2
  have HX2 := hide hX2
  clear own2 b2 hrow hg hgl hT2 hLE hR hX2 hcap c7 hA
  go_wp2_with (refine wpList_load_mid rfl 24 (.tmp 3) rfl w1.heap.size 0 rfl _ _ HTW2.out Tryz.underlying24 rfl sizeRec ?_)
  rw [← HX2.out]
  refine HCK.out.mono ?_
  rintro x y1 ⟨vp, rfl, ⟨np, ownp⟩, b1⟩
  obtain ⟨op, cp, rfl⟩ := own_slice ownp
  have HOP := hide ownp
  have HL1 := hide (HLE.out.below b1)
  have HRC := hide (refEncode_any r (.slice ov r.ss.length cv) y1 HL1.out.own HZ.out HBB.out (HENV.out y1 HL1.out.low).2.2)
  unfold REncOut at HRC
  have HBX := hide HL1.out.box
  obtain ⟨N, hN⟩ : ∃ N, N = chN r := ⟨_, rfl⟩
  rw [← hN, ← HAA.out] at HRC
  have HNN := hide hN
  clear HCK b1 hN HLE HTW2 c8 c9 c9f ownp
  go_wp2_with (refine wpList_load_mid rfl 24 (.tmp 1) rfl w.heap.size 0 rfl _ _ HBX.out Tryz.underlying24 rfl sizeRec ?_)
  refine HRC.out.mono ?_
  rintro x y2 ⟨vq, rfl, ⟨nq, ownq⟩, b2⟩
  obtain ⟨oq, cq, rfl⟩ := own_slice ownq
  have HSB := hide (dk.sameBytes_eq y2 _ _ A (dk.rd_own (dk.own_below HOP.out b2)) (dk.rd_own ownq) (by omega))
  have HL2 := hide (HL1.out.below b2)
  clear HRC b2 HL1 HBX ownq HOP
  go_wp2_with fail
  refine HSB.out.mono ?_
  rintro x y2b ⟨rfl, b2b⟩
  have HL2b := hide (HL2.out.below b2b)
  have HSR := hide (sameRec_any r (.slice ov r.ss.length cv) (.slice (some ⟨g, 0, none⟩) r.ss.length cap) y2b HL2b.out.own HL2b.out.head (by omega))
  have HB2 := hide HL2b.out.box
  have HT2 := hide HL2b.out.twin
  clear b2b HL2 HSB
  go_wp2_with (first
    | (refine wpList_load_mid rfl 24 (.tmp 1) rfl w.heap.size 0 rfl _ _ HB2.out Tryz.underlying24 rfl sizeRec ?_)
    | (refine wpList_load_mid rfl 24 (.tmp 3) rfl w1.heap.size 0 rfl _ _ HT2.out Tryz.underlying24 rfl sizeRec ?_))
  refine HSR.out.mono ?_
  rintro x y3 ⟨rfl, b3⟩
  have HL3 := hide (HL2b.out.below b3)
  have HNU : Hid (Calls Tryz.prog 13 #[R] y3 fun x w' => x = .returned (.int .i64 N) ∧ w' = y3) := by
    show Calls _ _ _ _ _
    rw [HRR.out, HNN.out]
    unfold chN
    cases mayB r with
    | true => exact errw.num_nil y3
    | false => exact errw.num_0 y3 e (HENV.out y3 HL3.out.low).2.1
  have HRT := hide (returned_any (.slice (some ⟨g, 0, none⟩) (r.ss.length + 4) cap) (.slice ov r.ss.length cv) r.ss y3 X1.heap.size HL3.out.all HL3.out.own hn1)
  have d7 : y3.cell? ⟨w.heap.size, 7, none⟩ = some (.slice ov r.ss.length cv) := by
    have := HL3.out.box 7 _ rfl
    rwa [Nat.zero_add] at this
  clear HSR b3 HL2b HB2 HT2
  go_wp2_with fail
  refine HNU.out.mono ?_
  rintro x y4 ⟨rfl, rfl⟩
  go_wp2_with (go_at_call 14; refine HRT.out.mono ?_; rintro x y5 ⟨rfl, b5⟩)
  go_ret
  exact ⟨rfl, keepW HL3.out.low b5⟩
end Go.Proofs.YtcogblelfeifbaaGreatDoor.rc
