import Derived.Test.YtkkgngmhdlmgnaaDoorReadWalk4
namespace Go.Proofs.YtkkgngmhdlmgnaaDoor.jw
open Go.ChangeShapes Go.WideShapes Go.ChangeAt Go.RowKit Go.Proofs.YtkkgngmhdlmgnaaDoor.common
attribute [local go_sem ↓] Go.wp_at_zero Go.wp_at_succ

theorem decode_any (s : ByteArray) (w : World) (hT : Tabs w) :
    Calls Tryd.prog 83 #[.string s] w fun e w' => e = .returned (.tuple #[.int .i32 (Lib.decodeGo s).1, .int .i64 (Lib.decodeGo s).2]) ∧ Below w.heap.size w w' := Any.utf8_DecodeRuneInString jl.lays197 s w hT
theorem decodeGo_drop (s : ByteArray) (a : Nat) (h : a < s.size) : Lib.decodeGo (s.extract a s.size) = Lib.decodeL (s.data.toList.drop a) := by
  have hne : (s.extract a s.size).size ≠ 0 := by rw [ByteArray.size_extract]; omega
  unfold Lib.decodeGo
  rw [if_neg hne, ← Lib.decodeL_drop, List.drop_zero, extract_list]

set_option maxRecDepth 100000 in
set_option maxHeartbeats 3200000 in
theorem char_any (rb : Nat) (s : ByteArray) (a : Nat) (mv : Value) (n : Nat) (ea : Addr) (w : World) (ha : a ≤ s.size) (hs : s.size < 9223372036854775800) (hr : Rd w rb s a mv n) (he : Env w rb ea) :
    Calls Tryd.prog 63 #[ptr rb] w fun e w' => Opt rb s mv n ea w ((Json.char (s.data.toList.drop a)).map fun x => (.int .i32 (x.1 : Int), x.2)) e w' := by
  obtain ⟨o, ho⟩ : ∃ o, Json.char (s.data.toList.drop a) = o := ⟨_, rfl⟩
  rw [ho]
  have HR := hide hr
  have HE := hide he
  by_cases h : a < s.size
  · have hdc := drop_cons s a h
    rw [hdc, Json.char] at ho
    by_cases hc : s[a] = 92
    · rw [if_pos hc] at ho
      have HO := hide ho
      have HC := hide (takeIf_yes rb s a mv n w 92 92 rfl h hc hs hr)
      clear ho hdc hc hr he
      go_enter Tryd.func63, Tryd.ntmps63
      go_wp2_with fail
      refine HC.out.mono ?_
      rintro e w1 ⟨rfl, hk, hr⟩
      have HK := hide hk
      have HR1 := hide hr
      have HE1 := hide (HE.out.kp HR.out hk)
      clear hk hr
      go_wp2_with fail
      refine (escaped_any rb s (a + 1) mv n ea w1 (by omega) hs HR1.out HE1.out).mono ?_
      rintro e w2 (⟨v, r, a1, ho1, ha1, hd1, rfl, hk1, hr1⟩ | ⟨ho1, rfl, hk1⟩)
      · have HO1 := hide ho1
        have HK1 := hide (HK.out.trans hk1)
        have HR2 := hide hr1
        have HD := hide hd1
        clear ho1 hk1 hr1 hd1
        go_wp2
        go_ret
        exact Or.inl ⟨_, _, a1, by rw [← HO.out]; exact HO1.out, ha1, HD.out, rfl, HK1.out, HR2.out⟩
      · have HO1 := hide ho1
        have HK1 := hide (HK.out.trans hk1)
        clear ho1 hk1
        go_wp2
        exact ⟨rfl, Or.inr ⟨by rw [← HO.out]; exact HO1.out, rfl, HK1.out⟩⟩
    · rw [if_neg hc, ← hdc] at ho
      have HC := hide (takeIf_no rb s a mv n w 92 92 rfl h hc hr)
      have hne : s.data.toList.drop a ≠ [] := by rw [hdc]; simp
      have hw1 := Lib.decodeL_width (s.data.toList.drop a)
      have hw2 := Lib.decodeL_le _ hne
      rw [List.length_drop, len_list] at hw2
      have hru := Lib.decodeL_rune (s.data.toList.drop a)
      have hdg := decodeGo_drop s a h
      have HDG := hide (fun W (hT : Tabs W) => decode_any (s.extract a s.size) W hT)
      rw [hdg] at HDG
      obtain ⟨d, hd⟩ : ∃ d, (Lib.decodeL (s.data.toList.drop a)).1 = d := ⟨_, rfl⟩
      obtain ⟨z, hz⟩ : ∃ z, (Lib.decodeL (s.data.toList.drop a)).2 = z := ⟨_, rfl⟩
      have hbad : Json.bad (s.data.toList.drop a) ↔ (d = 65533 ∧ z = 1) := by unfold Json.bad; rw [hd, hz]
      have HOK : Hid (¬ (d < 32 ∨ (d = 65533 ∧ z = 1)) → o = some (d, s.data.toList.drop (a + z))) := by
        intro hn
        rw [← ho, if_neg ?_, hd, hz, List.drop_drop]
        rintro (x | x)
        · exact hn (Or.inl (by rw [← hd]; exact x))
        · exact hn (Or.inr (hbad.1 x))
      have HNO : Hid ((d < 32 ∨ (d = 65533 ∧ z = 1)) → o = none) := by
        intro hn
        rw [← ho, if_pos ?_]
        rcases hn with x | x
        · exact Or.inl (by rw [hd]; exact x)
        · exact Or.inr (hbad.2 x)
      rw [hd, hz] at HDG
      rw [hz] at hw1 hw2
      rw [hd] at hru
      have k0 : (0 : Int) ≤ (a : Int) := by omega
      have kn : (a : Int).toNat = a := by omega
      have k1 : (a : Int) ≤ (s.size : Int) := by omega
      have HZ : Hid (1 ≤ z ∧ z ≤ s.size - a) := ⟨hw1, hw2⟩
      have k2 : (a : Int) + (z : Int) < 9223372036854775800 := by omega
      obtain ⟨D, hD⟩ : ∃ D : Int, (d : Int) = D := ⟨_, rfl⟩
      rw [hD] at HDG
      have HDD := hide hD
      have HRU := hide hru
      clear ho hdc hc hr he hdg hd hz hbad hw1 hw2 hD hru hne
      go_enter Tryd.func63, Tryd.ntmps63
      go_wp2_with fail
      refine HC.out.mono ?_
      rintro e w1 ⟨rfl, hk, hr⟩
      have HK := hide hk
      have HR1 := hide hr
      have HE1 := hide (HE.out.kp HR.out hk)
      have c0 := hr.c0
      have c1 := hr.c1
      clear hk hr
      go_wp2_with fail
      go_region_held3 (fun W => W.cell? ⟨rb, 0, none⟩ = some (.string s) ∧ W.cell? ⟨rb, 1, none⟩ = some (.int .i64 a)) (first | go_keep | exact ⟨(hb2.cell HR1.out.lt).trans c0, (hb2.cell HR1.out.lt).trans c1⟩)
        ((go_at_call 83; refine (HDG.out _ (tabs_below HE1.out.tabs (Below.refl _ _).drew)).mono ?_; rintro x w2 ⟨rfl, hb2⟩))
      have hr2 : Rd w2 rb s a mv n := HR1.out.drew.below hb2
      have HK2 := hide (HK.out.drew.trans (Kp.of hb2))
      have HR2 := hide hr2
      have ce : w2.cell? ⟨1, 0, none⟩ = some (X ea) := (HE.out.kp HR.out HK2.out).txt
      have e1 := hr2.c1
      have f1 := hr2.nf 1
      clear hb2 hr2 c0 c1
      by_cases g1 : d < 32
      · have q1 : D < 32 := by have := HDD.out; omega
        have HN := hide (HNO.out (Or.inl g1))
        clear g1
        go_wp2
        exact ⟨rfl, Or.inr ⟨by rw [HN.out]; rfl, rfl, HK2.out⟩⟩
      · have q1 : ¬ D < 32 := by have := HDD.out; omega
        by_cases g2 : d = 65533
        · have q2 : (D == 65533) = true := beq_iff_eq.2 (by have := HDD.out; omega)
          by_cases g3 : z = 1
          · have q3 : (z : Int) ≤ 1 := by omega
            have HN := hide (HNO.out (Or.inr ⟨g2, g3⟩))
            clear g1 g2 g3
            go_wp2
            exact ⟨rfl, Or.inr ⟨by rw [HN.out]; rfl, rfl, HK2.out⟩⟩
          · have q3 : ¬ (z : Int) ≤ 1 := by have := HZ.out.1; omega
            have HN := hide (HOK.out (by rintro (x | x); · exact g1 x
                                         · exact g3 x.2))
            clear g1 g2 g3
            go_wp2
            go_ret
            exact Or.inl ⟨_, _, a + z, by rw [HN.out, ← HDD.out]; rfl, by have := HZ.out.2; omega, rfl, rfl, HK2.out.trans (Kp.set _ _ _ _), HR2.out.set1 _ _ (by omega)⟩
        · have q2 : (D == 65533) = false := beq_false_of_ne (by have := HDD.out; omega)
          have HN := hide (HOK.out (by rintro (x | x); · exact g1 x
                                       · exact g2 x.1))
          clear g1 g2
          go_wp2
          go_ret
          exact Or.inl ⟨_, _, a + z, by rw [HN.out, ← HDD.out]; rfl, by have := HZ.out.2; omega, rfl, rfl, HK2.out.trans (Kp.set _ _ _ _), HR2.out.set1 _ _ (by omega)⟩
  · obtain rfl : a = s.size := by omega
    rw [drop_end s _ h] at ho
    have HO : Hid (o = none) := ho.symm
    have HC := hide (takeIf_none rb s mv n ea w 92 hr he)
    clear hr he ho
    go_enter Tryd.func63, Tryd.ntmps63
    go_wp2_with fail
    refine HC.out.mono ?_
    rintro e w1 ⟨rfl, hk⟩
    have HK := hide hk
    clear hk
    go_wp2
    exact ⟨rfl, Or.inr ⟨by rw [HO.out]; rfl, rfl, HK.out⟩⟩
end Go.Proofs.YtkkgngmhdlmgnaaDoor.jw
