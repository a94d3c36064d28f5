import Derived.Test.YthhkhpgffamdhaaDoorRefRdM
import Derived.Test.YthhkhpgffamdhaaDoorRefNum
import Derived.Test.YthhkhpgffamdhaaDoorSeemW3
namespace Go.Proofs.YthhkhpgffamdhaaDoor.fd
open Go.ChangeShapes Go.WideShapes Go.ChangeAt Go.RowKit Go.Proofs.YthhkhpgffamdhaaDoor.common Go.Proofs.YthhkhpgffamdhaaDoor.bk
attribute [local go_sem ↓] Go.wp_at_zero Go.wp_at_succ

set_option maxRecDepth 100000 in
set_option maxHeartbeats 3200000 in
theorem refReadSet_any (s : ByteArray) (w : World) (hs : s.size ≤ 1048576) :
    Calls Tryd.prog 26 #[.string s] w fun e w' => RdOut s.data.toList (.int .i64 2) (.int .i64 0) e ∧ Below w.heap.size w w' := by
  obtain ⟨W0, hW0⟩ : ∃ W0 : World, W0 = w.alloc (.cells #[.string ⟨#[]⟩, .string ⟨#[]⟩, .int .i64 0] 52) := ⟨_, rfl⟩
  have HBL : Hid (Below w.heap.size w W0) := by rw [hW0]; exact (Below.refl _ _).alloc (Nat.le_refl _) _
  have HLT : Hid (w.heap.size < W0.heap.size) := by show _ < _; rw [hW0]; simp
  have HC0 : Hid (∀ X, Below W0.heap.size W0 X → X.cell? ⟨w.heap.size, 0, none⟩ = some (.string ⟨#[]⟩) ∧ X.cell? ⟨w.heap.size, 1, none⟩ = some (.string ⟨#[]⟩) ∧ X.cell? ⟨w.heap.size, 2, none⟩ = some (.int .i64 0) ∧ (∀ i, X.frozen? ⟨w.heap.size, i, none⟩ = false)) := by
    intro X hX
    refine ⟨?_, ?_, ?_, ?_⟩
    · rw [hX.cell (p := ⟨w.heap.size, 0, none⟩) HLT.out, hW0]; exact range_new w #[.string ⟨#[]⟩, .string ⟨#[]⟩, .int .i64 0] _ 0 _ rfl
    · rw [hX.cell (p := ⟨w.heap.size, 1, none⟩) HLT.out, hW0]; exact range_new w #[.string ⟨#[]⟩, .string ⟨#[]⟩, .int .i64 0] _ 1 _ rfl
    · rw [hX.cell (p := ⟨w.heap.size, 2, none⟩) HLT.out, hW0]; exact range_new w #[.string ⟨#[]⟩, .string ⟨#[]⟩, .int .i64 0] _ 2 _ rfl
    · intro i; rw [hX.frozen (p := ⟨w.heap.size, i, none⟩) HLT.out, hW0]; exact World.frozen?_alloc_at _ _ _ _ rfl
  have HW0 := hide hW0
  clear hW0
  have HLL := hide (len_list s)
  have HRS := hide (fun n v m (h : Good s.data.toList n v m) => (ref_set h).1)
  have HG := hide (ref_good (l := s.data.toList))
  have HBD := hide (ref_bad (l := s.data.toList))
  have hin := refA_inR s.data.toList
  have HRN : Hid (refN s.data.toList = s.data.toList.take (atL s.data.toList)) := rfl
  have HRV : Hid (refV s.data.toList = (s.data.toList.drop (atL s.data.toList + 1)).take (enL s.data.toList - (atL s.data.toList + 1))) := rfl
  have HRA : Hid (refA s.data.toList = if enL s.data.toList + 18 + 32 < s.size then Num.num ((s.data.toList.drop (enL s.data.toList + 18)).take (s.size - 32 - (enL s.data.toList + 18))) else -1) := by show _ = _; rw [← HLL.out]; rfl
  go_enter Tryd.func26, Tryd.ntmps26
  go_wp2_with fail
  rw [← HW0.out]
  refine (find6_any s 61 W0 (by unfold reachBytes; omega)).mono ?_
  rintro x w1 ⟨⟨at_, rfl, hf1⟩, rfl⟩
  go_wp2_with fail
  refine (find6_any s 59 w1 (by unfold reachBytes; omega)).mono ?_
  rintro x w2 ⟨⟨en_, rfl, hf2⟩, rfl⟩
  obtain ⟨ha1, ha2⟩ := fnd_eq HLL.out hf1
  obtain ⟨hb1, hb2⟩ := fnd_eq HLL.out hf2
  have ha3 : at_ = atL s.data.toList := ha1
  have hb3 : en_ = enL s.data.toList := hb1
  rw [← ha3, ← hb3] at HRS
  rw [← ha3] at HRN HRV
  rw [← hb3] at HRV HRA
  clear ha1 hb1 ha3 hb3 hf1 hf2
  obtain ⟨c0, c1, c2, hf⟩ := HC0.out w2 (Below.refl _ _)
  have f0 := hf 0
  have f1 := hf 1
  have f2 := hf 2
  clear hf
  by_cases hge : en_ ≤ at_
  · have hgi : (en_ : Int) ≤ (at_ : Int) := by omega
    have HNO : Hid (∀ n v m, ¬ Good s.data.toList n v m) := fun n v m h => by have := HRS.out n v m h; omega
    clear HRS HG HBD hin HRN HRV HRA
    go_wp2_with fail
    refine bodyPost_ret (v := .tuple #[ckC ⟨#[]⟩ ⟨#[]⟩ 0, .int .i64 2]) (results_ct (b := w.heap.size) (o := 0) (cs := [.string ⟨#[]⟩, .string ⟨#[]⟩, .int .i64 0]) Tryd.results26 _ rfl (three_put w2 w.heap.size _ _ _ _ _ _ c0 c1 c2) Tryd.underlying52 rfl sizeCk rfl) rfl ⟨Or.inr ⟨HNO.out, rfl⟩, ((HBL.out.setCell (p := ⟨w.heap.size, 0, none⟩) (Nat.le_refl _) _).setCell (p := ⟨w.heap.size, 1, none⟩) (Nat.le_refl _) _).setCell (p := ⟨w.heap.size, 2, none⟩) (Nat.le_refl _) _⟩
  · have hgi : ¬ (en_ : Int) ≤ (at_ : Int) := by omega
    have a0 : (0 : Int) ≤ (at_ : Int) := Int.natCast_nonneg _
    have a2 : (at_ : Int) ≤ (s.size : Int) := by omega
    have a3 : (at_ : Int) + 1 ≤ (en_ : Int) := by omega
    have a4 : (en_ : Int) ≤ (s.size : Int) := by omega
    obtain ⟨N1, hN1⟩ : ∃ N1 : ByteArray, s.extract 0 at_ = N1 := ⟨_, rfl⟩
    obtain ⟨V1, hV1⟩ : ∃ V1 : ByteArray, s.extract (at_ + 1) en_ = V1 := ⟨_, rfl⟩
    have HN : Hid ((⟨(refN s.data.toList).toArray⟩ : ByteArray) = N1) := by
      show _ = _
      rw [← hN1, HRN.out]; apply ba_ext; simp
    have HV : Hid ((⟨(refV s.data.toList).toArray⟩ : ByteArray) = V1) := by
      show _ = _
      rw [← hV1, HRV.out]; apply ba_ext; simp
    rw [HN.out, HV.out] at HG HBD
    clear HRS HRN HRV HN HV
    generalize refA s.data.toList = A1 at *
    go_wp2_with fail
    go_region
    have hsz : N1.size + V1.size ≤ 4611686018427387000 := by
      have h1 := congrArg ByteArray.size hN1
      have h2 := congrArg ByteArray.size hV1
      rw [ByteArray.size_extract] at h1 h2
      omega
    clear hN1 hV1 c0 c1 c2 f0 f1 f2
    by_cases hhi : en_ + 18 + 32 < s.size
    · rw [if_pos hhi] at HRA
      obtain ⟨D1, hD1⟩ : ∃ D1 : ByteArray, s.extract (en_ + 18) (s.size - 32) = D1 := ⟨_, rfl⟩
      have HD : Hid (A1 = Num.num D1.data.toList) := by
        show _ = _
        rw [HRA.out, ← hD1]
        congr 1
        simp
      have hD1s : D1.size ≤ 4611686018427387904 := by rw [← hD1, ByteArray.size_extract]; omega
      have e1 : (s.size : Int) - 32 = ((s.size - 32 : Nat) : Int) := by omega
      have l1 : (en_ : Int) + 18 < (s.size : Int) - 32 := by omega
      have l2 : (0 : Int) ≤ (en_ : Int) := Int.natCast_nonneg _
      obtain ⟨x0', x1', x2', _⟩ := box3 w2 (.string N1) (.string V1) (.int .i64 (-1)) 52
      have j2 := x2' _ ((Below.refl _ _).drew)
      have j3 : (w2.alloc (.cells #[.string N1, .string V1, .int .i64 (-1)] 52)).frozen? ⟨w2.heap.size, 2, none⟩ = false := World.frozen?_alloc_at _ _ _ _ rfl
      clear x0' x1' x2'
      go_wp2_with fail
      refine (number_any D1 _ hD1s).mono ?_
      rintro x w3 ⟨rfl, rfl⟩
      rw [← HD.out]
      clear HRA HD hD1 hD1s
      obtain ⟨x0, x1, x2, hbl1⟩ := box3 w2 (.string N1) (.string V1) (.int .i64 A1) 52
      have HBL1 := hide hbl1
      clear hbl1
      have k0 := x0 _ ((Below.refl _ _).drew)
      have k1 := x1 _ ((Below.refl _ _).drew)
      have k2 := x2 _ ((Below.refl _ _).drew)
      go_wp2_with fail
      refine (refSet_any N1 V1 A1 _ hin hsz).mono ?_
      rintro x w5 ⟨rfl, hb5⟩
      have hb5' : Below (w2.alloc (.cells #[.string N1, .string V1, .int .i64 A1] 52)).heap.size (w2.alloc (.cells #[.string N1, .string V1, .int .i64 A1] 52)) w5 := ⟨hb5.1, hb5.2, hb5.3, hb5.4, hb5.5⟩
      have y0 := x0 w5 hb5'
      have y1 := x1 w5 hb5'
      have y2 := x2 w5 hb5'
      have HB5 := hide (keepD HBL1.out hb5')
      clear hb5 hb5' x0 x1 x2 k0 k1 k2
      obtain ⟨c0, c1, c2, hf⟩ := HC0.out w5 HB5.out
      have f0 := hf 0
      have f1 := hf 1
      have f2 := hf 2
      have HBw := hide (HBL.out.trans (HB5.out.mono HBL.out.size))
      clear hf
      cases hck : isCk N1 V1 with
      | false =>
        have HNO := hide (HBD.out (fun h => by rw [hck] at h; cases h.1))
        rw [if_neg (by decide)]
        clear hck HBD HG
        go_wp2_with fail
        refine bodyPost_ret (v := .tuple #[ckC ⟨#[]⟩ ⟨#[]⟩ 0, .int .i64 2]) (results_ct (b := w.heap.size) (o := 0) (cs := [.string ⟨#[]⟩, .string ⟨#[]⟩, .int .i64 0]) Tryd.results26 _ rfl (three_put w5 w.heap.size _ _ _ _ _ _ c0 c1 c2) Tryd.underlying52 rfl sizeCk rfl) rfl ⟨Or.inr ⟨HNO.out, rfl⟩, ((HBw.out.setCell (p := ⟨w.heap.size, 0, none⟩) (Nat.le_refl _) _).setCell (p := ⟨w.heap.size, 1, none⟩) (Nat.le_refl _) _).setCell (p := ⟨w.heap.size, 2, none⟩) (Nat.le_refl _) _⟩
      | true =>
        rw [if_pos rfl]
        by_cases heq : setB N1 V1 A1 = s
        · have HGD := hide (HG.out hck (by rw [heq]))
          rw [heq]
          clear hck HBD HG heq
          go_wp2_with fail
          refine bodyPost_ret (v := .tuple #[ckC N1 V1 A1, .int .i64 0]) (results_ct (b := w.heap.size) (o := 0) (cs := [.string N1, .string V1, .int .i64 A1]) Tryd.results26 _ rfl (three_put w5 w.heap.size _ _ _ _ _ _ c0 c1 c2) Tryd.underlying52 rfl sizeCk rfl) rfl ⟨Or.inl ⟨_, _, _, HGD.out, rfl⟩, ((HBw.out.setCell (p := ⟨w.heap.size, 0, none⟩) (Nat.le_refl _) _).setCell (p := ⟨w.heap.size, 1, none⟩) (Nat.le_refl _) _).setCell (p := ⟨w.heap.size, 2, none⟩) (Nat.le_refl _) _⟩
        · have hn1 := bk.ne_list heq
          have HNO := hide (HBD.out (fun h => heq (ba_ext h.2)))
          clear hck HBD HG
          generalize setB N1 V1 A1 = T at *
          go_wp2_with fail
          refine bodyPost_ret (v := .tuple #[ckC ⟨#[]⟩ ⟨#[]⟩ 0, .int .i64 2]) (results_ct (b := w.heap.size) (o := 0) (cs := [.string ⟨#[]⟩, .string ⟨#[]⟩, .int .i64 0]) Tryd.results26 _ rfl (three_put w5 w.heap.size _ _ _ _ _ _ c0 c1 c2) Tryd.underlying52 rfl sizeCk rfl) rfl ⟨Or.inr ⟨HNO.out, rfl⟩, ((HBw.out.setCell (p := ⟨w.heap.size, 0, none⟩) (Nat.le_refl _) _).setCell (p := ⟨w.heap.size, 1, none⟩) (Nat.le_refl _) _).setCell (p := ⟨w.heap.size, 2, none⟩) (Nat.le_refl _) _⟩
    · have HD : Hid (A1 = -1) := by show _ = _; rw [HRA.out, if_neg hhi]
      have l1 : ¬ (en_ : Int) + 18 < (s.size : Int) - 32 := by omega
      clear HRA
      obtain rfl : A1 = -1 := HD.out
      clear HD
      go_wp2_with fail
      obtain ⟨x0, x1, x2, hbl1⟩ := box3 w2 (.string N1) (.string V1) (.int .i64 (-1)) 52
      have HBL1 := hide hbl1
      clear hbl1
      have k0 := x0 _ ((Below.refl _ _).drew)
      have k1 := x1 _ ((Below.refl _ _).drew)
      have k2 := x2 _ ((Below.refl _ _).drew)
      refine (refSet_any N1 V1 (-1) _ hin hsz).mono ?_
      rintro x w5 ⟨rfl, hb5⟩
      have hb5' : Below (w2.alloc (.cells #[.string N1, .string V1, .int .i64 (-1)] 52)).heap.size (w2.alloc (.cells #[.string N1, .string V1, .int .i64 (-1)] 52)) w5 := ⟨hb5.1, hb5.2, hb5.3, hb5.4, hb5.5⟩
      have y0 := x0 w5 hb5'
      have y1 := x1 w5 hb5'
      have y2 := x2 w5 hb5'
      have HB5 := hide (keepD HBL1.out hb5')
      clear hb5 hb5' x0 x1 x2 k0 k1 k2
      obtain ⟨c0, c1, c2, hf⟩ := HC0.out w5 HB5.out
      have f0 := hf 0
      have f1 := hf 1
      have f2 := hf 2
      have HBw := hide (HBL.out.trans (HB5.out.mono HBL.out.size))
      clear hf
      cases hck : isCk N1 V1 with
      | false =>
        have HNO := hide (HBD.out (fun h => by rw [hck] at h; cases h.1))
        rw [if_neg (by decide)]
        clear hck HBD HG
        go_wp2_with fail
        refine bodyPost_ret (v := .tuple #[ckC ⟨#[]⟩ ⟨#[]⟩ 0, .int .i64 2]) (results_ct (b := w.heap.size) (o := 0) (cs := [.string ⟨#[]⟩, .string ⟨#[]⟩, .int .i64 0]) Tryd.results26 _ rfl (three_put w5 w.heap.size _ _ _ _ _ _ c0 c1 c2) Tryd.underlying52 rfl sizeCk rfl) rfl ⟨Or.inr ⟨HNO.out, rfl⟩, ((HBw.out.setCell (p := ⟨w.heap.size, 0, none⟩) (Nat.le_refl _) _).setCell (p := ⟨w.heap.size, 1, none⟩) (Nat.le_refl _) _).setCell (p := ⟨w.heap.size, 2, none⟩) (Nat.le_refl _) _⟩
      | true =>
        rw [if_pos rfl]
        by_cases heq : setB N1 V1 (-1) = s
        · have HGD := hide (HG.out hck (by rw [heq]))
          rw [heq]
          clear hck HBD HG heq
          go_wp2_with fail
          refine bodyPost_ret (v := .tuple #[ckC N1 V1 (-1), .int .i64 0]) (results_ct (b := w.heap.size) (o := 0) (cs := [.string N1, .string V1, .int .i64 (-1)]) Tryd.results26 _ rfl (three_put w5 w.heap.size _ _ _ _ _ _ c0 c1 c2) Tryd.underlying52 rfl sizeCk rfl) rfl ⟨Or.inl ⟨_, _, _, HGD.out, rfl⟩, ((HBw.out.setCell (p := ⟨w.heap.size, 0, none⟩) (Nat.le_refl _) _).setCell (p := ⟨w.heap.size, 1, none⟩) (Nat.le_refl _) _).setCell (p := ⟨w.heap.size, 2, none⟩) (Nat.le_refl _) _⟩
        · have hn1 := bk.ne_list heq
          have HNO := hide (HBD.out (fun h => heq (ba_ext h.2)))
          clear hck HBD HG
          generalize setB N1 V1 (-1) = T at *
          go_wp2_with fail
          refine bodyPost_ret (v := .tuple #[ckC ⟨#[]⟩ ⟨#[]⟩ 0, .int .i64 2]) (results_ct (b := w.heap.size) (o := 0) (cs := [.string ⟨#[]⟩, .string ⟨#[]⟩, .int .i64 0]) Tryd.results26 _ rfl (three_put w5 w.heap.size _ _ _ _ _ _ c0 c1 c2) Tryd.underlying52 rfl sizeCk rfl) rfl ⟨Or.inr ⟨HNO.out, rfl⟩, ((HBw.out.setCell (p := ⟨w.heap.size, 0, none⟩) (Nat.le_refl _) _).setCell (p := ⟨w.heap.size, 1, none⟩) (Nat.le_refl _) _).setCell (p := ⟨w.heap.size, 2, none⟩) (Nat.le_refl _) _⟩

end Go.Proofs.YthhkhpgffamdhaaDoor.fd
