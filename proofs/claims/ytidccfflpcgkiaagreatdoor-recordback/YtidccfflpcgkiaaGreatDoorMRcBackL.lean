import Derived.Test.YtidccfflpcgkiaaGreatDoorMRcLoK
import Derived.Test.YtidccfflpcgkiaaGreatDoorMRcUn
import Derived.Test.YtidccfflpcgkiaaGreatDoorMRcRows
namespace Go.Proofs.YtidccfflpcgkiaaGreatDoor.rc
open Go.ChangeShapes Go.WideShapes Go.ChangeAt Go.RowKit Go.Proofs.YtidccfflpcgkiaaGreatDoor.common Go.Proofs.YtidccfflpcgkiaaGreatDoor.dk
attribute [local go_sem ↓] Go.wp_at_zero Go.wp_at_succ

/-- the first byte of a record is its kind -/
theorem head_cell {w : World} {g : Nat} {q : Rec} (hm : mayB q = true) (h : w.rangeAt g 0 ((recL q).map B)) : w.cell? ⟨g, 0, none⟩ = some (.int .u8 q.k) := by
  obtain ⟨t, ht⟩ := rec_head q
  have hz := may_sz hm
  have k0 := hz.k0
  have k1 := hz.k1
  have h1 := h 0 (B (UInt8.ofNat q.k.toNat)) (by rw [ht]; rfl)
  have h2 : (UInt8.ofNat q.k.toNat).toNat = q.k.toNat := by rw [UInt8.toNat_ofNat']; omega
  have h3 : B (UInt8.ofNat q.k.toNat) = .int .u8 q.k := by
    show Value.int .u8 (((UInt8.ofNat q.k.toNat).toNat : Nat) : Int) = _
    rw [h2]
    congr 1
    omega
  rw [h3] at h1
  exact h1

set_option maxRecDepth 100000 in
set_option maxHeartbeats 12800000 in
theorem lawBack (r : Rec) (v : Value) (w : World) (e : Nat → Addr) (hv : Go.Proofs.YtidccfflpcgkiaaGreatDoor.ss.Lies w v r.ss) (hz : TidIn r) (he : Env (e 1) (e 2) (errw.E e 0) w) (hE : w.cell? ⟨1, 0, none⟩ = some (errw.E e 1)) (hp : pk.Env w) :
    Calls Tryz.prog 3 #[.agg (rcs r v)] w fun x w' => x = .returned (.bool true) ∧ Below w.heap.size w w' := by
  have HENV : Hid (∀ X, Below w.heap.size w X → Env (e 1) (e 2) (errw.E e 0) X ∧ X.cell? ⟨1, 0, none⟩ = some (errw.E e 1)) := fun X hX => ⟨he.below hX, (hX.cell (p := ⟨1, 0, none⟩) (World.block_lt_of_cell? w _ hE)).trans hE⟩
  obtain ⟨W0, hW0⟩ : ∃ W0, W0 = w.alloc (.cells (rcs r v) 24) := ⟨_, rfl⟩
  have b0 : Below w.heap.size w W0 := by rw [hW0]; exact (Below.refl _ _).alloc (Nat.le_refl _) _
  have HR0 : Hid (World.rangeAt (w.alloc (.cells (rcs r v) 24)) w.heap.size 0 (rcs r v).toList) := range_of (t := 24) (heap_alloc_new w _)
  obtain ⟨q, hq, hT⟩ := tidy_any r v W0 (hv.below b0) hz (hp.below b0)
  unfold TidOut at hT
  have HTD := hide hT
  have HM := hide hq
  have HZ := hide (may_sz hq)
  have HB0 := hide b0
  have HW0 := hide hW0
  clear hv hz he hE hp hT hq b0 hW0
  go_enter Tryz.func3, Tryz.ntmps3
  go_wp2_with (refine wpList_load_mid rfl 24 (.tmp 1) rfl w.heap.size 0 rfl _ _ HR0.out Tryz.underlying24 rfl sizeRec ?_)
  rw [← HW0.out]
  refine HTD.out.mono ?_
  rintro x w1 ⟨u, rfl, own1, b1⟩
  obtain ⟨ou, cu, rfl⟩ := own_slice own1
  obtain ⟨X1, hX1⟩ : ∃ X1, X1 = w1.alloc (.cells (rcs q (.slice ou q.ss.length cu)) 24) := ⟨_, rfl⟩
  have bX1 : Below w1.heap.size w1 X1 := by rw [hX1]; exact (Below.refl _ _).alloc (Nat.le_refl _) _
  have HB1 := hide (keepW (keepW HB0.out b1) bX1)
  have HQ1 : Hid (X1.heap[w1.heap.size]? = some (.cells (rcs q (.slice ou q.ss.length cu)) 24 (0, 0))) := by show _ = _; rw [hX1]; exact heap_alloc_new w1 _
  have HL1 := hide ((ss.lies_of_own own1).below bX1)
  have HRa : Hid (World.rangeAt (w1.alloc (.cells (rcs q (.slice ou q.ss.length cu)) 24)) w1.heap.size 0 (rcs q (.slice ou q.ss.length cu)).toList) := range_of (t := 24) (heap_alloc_new w1 _)
  have HCK := hide (check_any q _ (e 1) (e 2) (errw.E e 0) X1 HL1.out HZ.out.small (HENV.out X1 HB1.out).1)
  rw [HM.out] at HCK
  simp only [if_true] at HCK
  have HX1 := hide hX1
  clear own1 b1 bX1 hX1 HTD HR0
  go_wp2_with (refine wpList_load_mid rfl 24 (.tmp 3) rfl w1.heap.size 0 rfl _ _ HRa.out Tryz.underlying24 rfl sizeRec ?_)
  rw [← HX1.out]
  refine HCK.out.mono ?_
  rintro x w2 ⟨rfl, b2⟩
  have HQ2 := hide ((b2.block _ (Array.getElem?_eq_some_iff.1 HQ1.out).1).trans HQ1.out)
  have HRb : Hid (w2.rangeAt w1.heap.size 0 (rcs q (.slice ou q.ss.length cu)).toList) := range_of (t := 24) HQ2.out
  have HB2 := hide (keepW HB1.out b2)
  have HL2 := hide (HL1.out.below b2)
  have HEN := hide (encode_any q _ (e 1) (e 2) e w2 HL2.out HZ.out.small HZ.out.low (HENV.out w2 HB2.out).1)
  unfold EncOut at HEN
  rw [HM.out] at HEN
  simp only [if_true] at HEN
  clear b2 HCK HRa HQ1 HL1
  go_wp2_with (refine wpList_load_mid rfl 24 (.tmp 3) rfl w1.heap.size 0 rfl _ _ HRb.out Tryz.underlying24 rfl sizeRec ?_)
  refine HEN.out.mono ?_
  rintro x w3 ⟨vp, rfl, ⟨n3, hn3, own3⟩, b3⟩
  have hlen := rec_len HM.out
  have hlo := lo_own own3 (by omega)
  obtain ⟨g, cp, rfl, _, hg, hcp, hr⟩ := row_bytes own3 (by omega)
  have HQ3 := hide ((b3.block _ (Array.getElem?_eq_some_iff.1 HQ2.out).1).trans HQ2.out)
  have HB3 := hide (keepW HB2.out b3)
  have HL3 := hide (HL2.out.below b3)
  have HDE := hide (decode_any (recL q) _ (e 1) (e 2) e w3 hlo (by omega) (HENV.out w3 HB3.out).1 (HENV.out w3 HB3.out).2)
  unfold DecOut at HDE
  have HG := hide hg
  have HHC := hide (head_cell HM.out hr)
  have HD : Hid (∀ o, DecR (recL q) o → o = some q) := fun o h => h.on q HM.out HZ.out.low rfl
  obtain ⟨L, hL⟩ : ∃ L, L = (recL q).length := ⟨_, rfl⟩
  rw [← hL] at hlen HDE ⊢
  have l1 : (1 : Int) < (L : Int) := by omega
  have l2 : (L : Int) ≤ 1354 := by omega
  have l3 : (0 : Int) < (L : Int) := by omega
  clear own3 b3 hn3 hlo hcp hr hg hL hlen HEN HRb HQ2 HL2
  go_wp2_with fail
  refine HDE.out.mono ?_
  rintro x w4 ⟨o, v4, rfl, own4, b4, hd⟩
  have ho := HD.out o hd
  subst ho
  simp only [Option.getD_some, Option.isSome_some, if_true] at own4 ⊢
  obtain ⟨o4, c4, rfl⟩ := own_slice own4
  obtain ⟨X4, hX4⟩ : ∃ X4, X4 = w4.alloc (.cells (rcs q (.slice o4 q.ss.length c4)) 24) := ⟨_, rfl⟩
  have bX4 : Below w4.heap.size w4 X4 := by rw [hX4]; exact (Below.refl _ _).alloc (Nat.le_refl _) _
  have hq4 : X4.heap[w1.heap.size]? = some (.cells (rcs q (.slice ou q.ss.length cu)) 24 (0, 0)) := ((keepW b4 bX4).block _ (Array.getElem?_eq_some_iff.1 HQ3.out).1).trans HQ3.out
  have HQ4 := hide hq4
  have HRA : Hid (X4.rangeAt w1.heap.size 0 (rcs q (.slice ou q.ss.length cu)).toList) := range_of (t := 24) hq4
  have HRB : Hid (X4.rangeAt w4.heap.size 0 (rcs q (.slice o4 q.ss.length c4)).toList) := by
    show World.rangeAt _ _ _ _
    rw [hX4]; exact range_of (t := 24) (heap_alloc_new w4 _)
  have HB4 := hide (keepW HB3.out (keepW b4 bX4))
  have HSR := hide (sameRec_any q _ _ X4 (HL3.out.below (keepW b4 bX4)) ((ss.lies_of_own own4).below bX4) (by have := HZ.out.len; omega))
  have HHC4 : Hid (X4.cell? ⟨g, 0, none⟩ = some (.int .u8 q.k)) := ((keepW b4 bX4).cell (p := ⟨g, 0, none⟩) HG.out).trans HHC.out
  have HG4 : Hid (g < X4.heap.size) := Nat.lt_of_lt_of_le HG.out (keepW b4 bX4).size
  have HX4 := hide hX4
  rw [hX4] at HRA HRB
  clear own4 b4 hd hX4 bX4 hq4 HDE HQ3 HL3 HHC HG
  go_wp2_with (first
    | (refine wpList_load_mid rfl 24 (.tmp 3) rfl w1.heap.size 0 rfl _ _ HRA.out Tryz.underlying24 rfl sizeRec ?_)
    | (refine wpList_load_mid rfl 24 (.tmp 7) rfl w4.heap.size 0 rfl _ _ HRB.out Tryz.underlying24 rfl sizeRec ?_))
  rw [← HX4.out]
  refine HSR.out.mono ?_
  rintro x w5 ⟨rfl, b5⟩
  have HB5 := hide (keepW HB4.out b5)
  have c1 : w5.cell? ⟨g, 0, none⟩ = some (.int .u8 q.k) := (b5.cell (p := ⟨g, 0, none⟩) HG4.out).trans HHC4.out
  have c2 : w5.cell? ⟨w1.heap.size, 0, none⟩ = some (.int .i64 q.k) := cell_of ((b5.block _ (Array.getElem?_eq_some_iff.1 HQ4.out).1).trans HQ4.out) 0
  have k2 : IntKind.i64.wrap q.k = q.k := by
    have h0 := HZ.out.k0
    have h1 := HZ.out.k1
    unfold IntKind.wrap
    simp [IntKind.bits, IntKind.signed]
    omega
  have d1 : decide ((1 : Int) < (L : Int)) = true := decide_eq_true l1
  have d2 : decide ((L : Int) ≤ 1354) = true := decide_eq_true l2
  clear b5 HSR HRA HRB HHC4 HG4 HQ4
  go_wp2_with fail
  go_quiet (fail)
  go_wp2_with fail
  go_ret
  exact ⟨by simp, HB5.out.trans ((Fr.refl [] w5 |>.drewN _).below (fun k hk => by cases hk) HB5.out.size)⟩
end Go.Proofs.YtidccfflpcgkiaaGreatDoor.rc
