import Derived.Test.YthobocfpfolhiaaDoorBurstMath
namespace Go.Proofs.YthobocfpfolhiaaDoor.flipw
open Go.ChangeShapes Go.WideShapes Go.ChangeAt Go.RowKit Go.Proofs.YthobocfpfolhiaaDoor.common Go.Proofs.YthobocfpfolhiaaDoor.kitw
open Go.Proofs.YthobocfpfolhiaaDoor.crcw (V Tab crc_any)

theorem cellsFlip : Tryd.prog.cellsOf 34 = 3 := by kernel_rfl

theorem crc_ne {a b : BitVec 32} (h : a ≠ b) : ((a.toNat : Int) != (b.toNat : Int)) = true := by
  rw [bne_iff_ne]
  intro e
  exact h (BitVec.eq_of_toNat_eq (by omega))

set_option maxHeartbeats 400000 in
theorem lawBurst (s : ByteArray) (x : Int) (m : BitVec 32) (w : World) (hs : s.size ≤ reachBytes) (hx0 : -9223372036854775808 ≤ x) (hx1 : x ≤ 9223372036854775807) (ht : Tab w) :
    Calls Tryd.prog 6 #[.agg #[.string s, .int .i64 x, V m]] w fun e w' => e = .returned (.bool true) ∧ Below w.heap.size w w' := by
  have HZ := hide hs
  have HX : Hid (-9223372036854775808 ≤ x ∧ x ≤ 9223372036854775807) := ⟨hx0, hx1⟩
  have HT := hide ht
  clear ht hx0 hx1
  unfold reachBytes at hs
  have hpb := pick_bounds x (8 * (s.size : Int))
  go_enter Tryd.func6, Tryd.ntmps6
  go_wp2_with fail
  refine (pick_any x (8 * (s.size : Int)) _ (by omega) (by omega) HX.out.1 HX.out.2).mono ?_
  rintro e w1 ⟨rfl, rfl⟩
  by_cases h0 : 0 < s.size
  · obtain ⟨a, ha⟩ := Int.eq_ofNat_of_zero_le hpb.1
    rw [ha] at hpb ⊢
    clear ha
    have hal : a < 8 * s.size := by have := hpb.2 (by omega); omega
    have HAL := hide hal
    clear hpb
    go_wp2_with fail
    refine (flipped_some s a m _ HZ.out h0 HAL.out).mono ?_
    rintro e w1 ⟨rfl, hb⟩
    have hbw : Below w.heap.size w w1 := ((Below.refl w.heap.size w).alloc (Nat.le_refl _) _).trans (hb.mono (by simp))
    have HBW := hide hbw
    have HT1 := hide (HT.out.below hbw HT.out.lt)
    have hcell : w1.cell? ⟨w.heap.size, 0, none⟩ = some (.string s) := by
      rw [hb.cell (p := ⟨w.heap.size, 0, none⟩) (by simp)]; simp
    clear hb hbw
    cases hany : anyTo s.size a m 32
    · go_wp2_with fail
      go_ret
      exact ⟨rfl, HBW.out⟩
    · have hne := burst_told s.data.toList a m (by simpa using hany)
      have hnb := crc_ne hne
      have HL : Hid ((⟨(flipTo s.data.toList a m 32).toArray⟩ : ByteArray).size ≤ maxLen) := by
        show (⟨(flipTo s.data.toList a m 32).toArray⟩ : ByteArray).size ≤ maxLen
        have := flipTo_length s.data.toList a m 32
        simp only [ByteArray.size, List.size_toArray, this]
        simp
        unfold maxLen; omega
      have HS : Hid (s.size ≤ maxLen) := by show s.size ≤ maxLen; unfold maxLen; omega
      clear hne hany
      go_wp2_with fail
      refine (crc_any s _ HS.out HT1.out).mono ?_
      rintro e w2 ⟨rfl, rfl⟩
      go_wp2_with fail
      refine (crc_any ⟨(flipTo s.data.toList a m 32).toArray⟩ _ HL.out HT1.out).mono ?_
      rintro e w2 ⟨rfl, rfl⟩
      go_wp2_with fail
      go_ret
      exact ⟨rfl, HBW.out⟩
  · have hs0 : s.size = 0 := by omega
    have HS0 := hide hs0
    have hp0 : pick x (8 * (s.size : Int)) = 0 := by unfold pick; rw [if_pos (by omega)]
    rw [hp0]
    clear hs0 hp0 hpb
    go_wp2_with fail
    refine (flipped_none s m _ HS0.out).mono ?_
    rintro e w1 ⟨rfl, hb⟩
    have hbw : Below w.heap.size w w1 := ((Below.refl w.heap.size w).alloc (Nat.le_refl _) _).trans (hb.mono (by simp))
    have HBW := hide hbw
    clear hb hbw
    go_wp2_with fail
    go_ret
    exact ⟨rfl, HBW.out⟩

end Go.Proofs.YthobocfpfolhiaaDoor.flipw
