import Derived.Test.YtkkgngmhdlmgnaaDoorReadWalk7
import Derived.Test.YtkkgngmhdlmgnaaDoorObjWalk3
namespace Go.Proofs.YtkkgngmhdlmgnaaDoor.jw
open Go.ChangeShapes Go.WideShapes Go.ChangeAt Go.RowKit Go.Proofs.YtkkgngmhdlmgnaaDoor.common
attribute [local go_sem ↓] Go.wp_at_zero Go.wp_at_succ

/-- a member as a value -/
abbrev agg (m : Mem) : Value := .agg #[S m.name, .int .i64 m.kind, S m.text, .int .i64 m.num, .bool m.flag]

/-- the five fields of a block stored -/
abbrev fill (w : World) (P : Nat) (m : Mem) : World := ((((w.setCell ⟨P, 0, none⟩ (S m.name)).setCell ⟨P, 1, none⟩ (.int .i64 m.kind)).setCell ⟨P, 2, none⟩ (S m.text)).setCell ⟨P, 3, none⟩ (.int .i64 m.num)).setCell ⟨P, 4, none⟩ (.bool m.flag)
theorem fill_blk {w : World} {P : Nat} {m k : Mem} (h : Blk w P k) : Blk (fill w P m) P m :=
  set_block (set_block (set_block (set_block (set_block h 0 _) 1 _) 2 _) 3 _) 4 _
theorem fill_below {b P : Nat} (w : World) (m : Mem) (h : b ≤ P) : Below b w (fill w P m) :=
  (((((Below.refl b w).setCell (p := ⟨P, 0, none⟩) h _).setCell (p := ⟨P, 1, none⟩) h _).setCell (p := ⟨P, 2, none⟩) h _).setCell (p := ⟨P, 3, none⟩) h _).setCell (p := ⟨P, 4, none⟩) h _
/-- a result's block, at zero -/
abbrev zeroMem : Obj := .cells #[.string ⟨#[]⟩, .int .i64 0, .string ⟨#[]⟩, .int .i64 0, .bool false] 37
structure Zero (w : World) (P : Nat) : Prop where
  c0 : w.cell? ⟨P, 0, none⟩ = some (.string ⟨#[]⟩)
  c1 : w.cell? ⟨P, 1, none⟩ = some (.int .i64 0)
  c2 : w.cell? ⟨P, 2, none⟩ = some (.string ⟨#[]⟩)
  c3 : w.cell? ⟨P, 3, none⟩ = some (.int .i64 0)
  c4 : w.cell? ⟨P, 4, none⟩ = some (.bool false)
  nf : ∀ i, w.frozen? ⟨P, i, none⟩ = false
theorem zero_of {w : World} {P : Nat} (h : w.heap[P]? = some zeroMem) : Zero w P :=
  ⟨by simp [World.cell?, h], by simp [World.cell?, h], by simp [World.cell?, h], by simp [World.cell?, h], by simp [World.cell?, h], fun i => by simp [World.frozen?, h]⟩
theorem zero_kp {w w' : World} {rb : Nat} (hr : rb < w.heap.size) (h : Kp rb (w.alloc zeroMem) w') : w'.heap[w.heap.size]? = some zeroMem := by
  rw [h.block w.heap.size (by simp) (by omega)]; exact heap_alloc_new w _
theorem Kp.alloc0 (rb : Nat) (w : World) (o : Obj) : Kp rb w (w.alloc o) := Kp.of ((Below.refl w.heap.size w).alloc (Nat.le_refl _) o)

set_option maxRecDepth 100000 in
set_option maxHeartbeats 3200000 in
theorem value_any (rb : Nat) (s : ByteArray) (a : Nat) (mv : Value) (n : Nat) (ea : Addr) (w : World) (ha : a ≤ s.size) (hs : s.size ≤ reachBytes) (hr : Rd w rb s a mv n) (he : Env w rb ea) :
    Calls Tryd.prog 50 #[ptr rb] w fun e w' => Opt rb s mv n ea w ((Json.value (s.data.toList.drop a)).map fun x => (agg x.1, x.2)) e w' := by
  have hs63 : s.size < 9223372036854775800 := by unfold reachBytes at hs; omega
  obtain ⟨o, ho⟩ : ∃ o, Json.value (s.data.toList.drop a) = o := ⟨_, rfl⟩
  rw [ho]
  have HR := hide hr
  have HE := hide he
  by_cases h : a < s.size
  · have hdc := drop_cons s a h
    rw [hdc, Json.value, ← hdc] at ho
    have HLT := hide hr.lt
    have hr0 : Rd (w.alloc zeroMem) rb s a mv n := hr.below ((Below.refl w.heap.size w).alloc (Nat.le_refl _) _)
    have HR0 := hide hr0
    have HC := hide (peek_some rb s a mv n (w.alloc zeroMem) h hr0)
    clear hdc hr he hr0
    have hclt := s[a].toNat_lt
    generalize s[a] = c at *
    have hne : ∀ k : UInt8, c ≠ k → ((c.toNat : Int) == (k.toNat : Int)) = false := fun k h => beq_false_of_ne (fun e => h (UInt8.toNat_inj.1 (by omega)))
    by_cases h1 : c = 34
    · rw [if_pos h1] at ho
      have HO := hide ho
      have k1 : ((c.toNat : Int) == 34) = true := by rw [h1]; rfl
      clear ho h1 hne
      go_enter Tryd.func50, Tryd.ntmps50
      go_wp2_with fail
      refine HC.out.mono ?_
      rintro e w1 ⟨rfl, hk1, hr1⟩
      have HZ1 := hide hk1
      have HK1 := hide ((Kp.alloc0 rb w zeroMem).trans hk1)
      have HR1 := hide hr1
      have HE1 := hide (HE.out.kp HR.out HK1.out)
      clear hk1 hr1
      go_wp2_with fail
      refine (quoted_any rb s a mv n ea w1 ha hs HR1.out HE1.out).mono ?_
      rintro e w2 (⟨v, r, a1, ho1, ha1, hd1, rfl, hk2, hr2⟩ | ⟨ho1, rfl, hk2⟩)
      · obtain ⟨⟨t, r'⟩, hq, he2⟩ := Option.map_eq_some_iff.1 ho1
        simp only [Prod.mk.injEq] at he2
        obtain ⟨rfl, rfl⟩ := he2
        have HX : Hid (o = some (Json.textMem t, r')) := by
          show _ = _; rw [← HO.out, hq]
        have HK2 := hide (HK1.out.trans hk2)
        have HR2 := hide hr2
        have HD := hide hd1
        have hz := zero_of (zero_kp HLT.out (HZ1.out.trans hk2))
        have HZB : Hid (Blk w2 w.heap.size (⟨[], 0, [], 0, false⟩ : Mem)) := zero_kp HLT.out (HZ1.out.trans hk2)
        have z0 := hz.c0
        have z1 := hz.c1
        have z2 := hz.c2
        have z3 := hz.c3
        have z4 := hz.c4
        have g0 := hz.nf 0
        have g1 := hz.nf 1
        have g2 := hz.nf 2
        have g3 := hz.nf 3
        have g4 := hz.nf 4
        clear ho1 hq hk2 hr2 hd1 hz
        go_wp2
        have hF := fill_blk (m := (Json.textMem t)) HZB.out
        have HKF := hide (HK2.out.then (fill_below w2 (Json.textMem t) (Nat.le_refl _)))
        have HRF := hide (HR2.out.under (fill_below w2 (Json.textMem t) (Nat.le_refl _)) HLT.out)
        generalize hWF : fill w2 w.heap.size (Json.textMem t) = WF at hF HKF HRF
        show bodyPost _ _ _ _ _ (fill w2 w.heap.size (Json.textMem t))
        rw [hWF]
        have p0 := hF.at.c0
        have p1 := hF.at.c1
        have p2 := hF.at.c2
        have p3 := hF.at.c3
        have p4 := hF.at.c4
        refine ⟨rfl, agg (Json.textMem t), ?_, ?_⟩
        · simp [results, Tryd.results50, go_sem, p0, p1, p2, p3, p4]
        exact Or.inl ⟨_, _, a1, by rw [HX.out]; rfl, ha1, HD.out, rfl, HKF.out, HRF.out⟩
      · have hq := none_of_map ho1
        have HX : Hid (o = none) := by show _ = _; rw [← HO.out, hq]
        have HK2 := hide (HK1.out.trans hk2)
        clear ho1 hq hk2
        go_wp2
        exact ⟨rfl, Or.inr ⟨by rw [HX.out]; rfl, rfl, HK2.out⟩⟩
    · rw [if_neg h1] at ho
      have k1 : ((c.toNat : Int) == 34) = false := hne 34 h1
      by_cases h2 : c = 116
      · rw [if_pos h2] at ho
        have HO := hide ho
        have k2 : ((c.toNat : Int) == 116) = true := by rw [h2]; rfl
        clear ho h1 h2 hne
        go_enter Tryd.func50, Tryd.ntmps50
        go_wp2_with fail
        refine HC.out.mono ?_
        rintro e w1 ⟨rfl, hk1, hr1⟩
        have HZ1 := hide hk1
        have HK1 := hide ((Kp.alloc0 rb w zeroMem).trans hk1)
        have HR1 := hide hr1
        have HE1 := hide (HE.out.kp HR.out HK1.out)
        clear hk1 hr1
        go_wp2_with fail
        refine (word_any rb s ⟨#[116, 114, 117, 101]⟩ a mv n ea w1 ha hs63 HR1.out HE1.out).mono ?_
        rintro e w2 (⟨v, r, a1, ho1, ha1, hd1, rfl, hk2, hr2⟩ | ⟨ho1, rfl, hk2⟩)
        · obtain ⟨r', hq, he2⟩ := Option.map_eq_some_iff.1 ho1
          simp only [Prod.mk.injEq] at he2
          obtain ⟨rfl, rfl⟩ := he2
          have hq' : Json.word [116, 114, 117, 101] (s.data.toList.drop a) = some r' := hq
          have HX : Hid (o = some (Json.flagMem true, r')) := by
            show _ = _; rw [← HO.out, hq']
          have HK2 := hide (HK1.out.trans hk2)
          have HR2 := hide hr2
          have HD := hide hd1
          have hz := zero_of (zero_kp HLT.out (HZ1.out.trans hk2))
          have HZB : Hid (Blk w2 w.heap.size (⟨[], 0, [], 0, false⟩ : Mem)) := zero_kp HLT.out (HZ1.out.trans hk2)
          have z0 := hz.c0
          have z1 := hz.c1
          have z2 := hz.c2
          have z3 := hz.c3
          have z4 := hz.c4
          have g0 := hz.nf 0
          have g1 := hz.nf 1
          have g2 := hz.nf 2
          have g3 := hz.nf 3
          have g4 := hz.nf 4
          clear ho1 hq hq' hk2 hr2 hd1 hz
          go_wp2
          have hF := fill_blk (m := (Json.flagMem true)) HZB.out
          have HKF := hide (HK2.out.then (fill_below w2 (Json.flagMem true) (Nat.le_refl _)))
          have HRF := hide (HR2.out.under (fill_below w2 (Json.flagMem true) (Nat.le_refl _)) HLT.out)
          generalize hWF : fill w2 w.heap.size (Json.flagMem true) = WF at hF HKF HRF
          show bodyPost _ _ _ _ _ (fill w2 w.heap.size (Json.flagMem true))
          rw [hWF]
          have p0 := hF.at.c0
          have p1 := hF.at.c1
          have p2 := hF.at.c2
          have p3 := hF.at.c3
          have p4 := hF.at.c4
          refine ⟨rfl, agg (Json.flagMem true), ?_, ?_⟩
          · simp [results, Tryd.results50, go_sem, p0, p1, p2, p3, p4]
          exact Or.inl ⟨_, _, a1, by rw [HX.out]; rfl, ha1, HD.out, rfl, HKF.out, HRF.out⟩
        · have hq := none_of_map ho1
          have hq' : Json.word [116, 114, 117, 101] (s.data.toList.drop a) = none := hq
          have HX : Hid (o = none) := by show _ = _; rw [← HO.out, hq']
          have HK2 := hide (HK1.out.trans hk2)
          clear ho1 hq hq' hk2
          go_wp2
          exact ⟨rfl, Or.inr ⟨by rw [HX.out]; rfl, rfl, HK2.out⟩⟩
      · rw [if_neg h2] at ho
        have k2 : ((c.toNat : Int) == 116) = false := hne 116 h2
        by_cases h3 : c = 102
        · rw [if_pos h3] at ho
          have HO := hide ho
          have k3 : ((c.toNat : Int) == 102) = true := by rw [h3]; rfl
          clear ho h1 h2 h3 hne
          go_enter Tryd.func50, Tryd.ntmps50
          go_wp2_with fail
          refine HC.out.mono ?_
          rintro e w1 ⟨rfl, hk1, hr1⟩
          have HZ1 := hide hk1
          have HK1 := hide ((Kp.alloc0 rb w zeroMem).trans hk1)
          have HR1 := hide hr1
          have HE1 := hide (HE.out.kp HR.out HK1.out)
          clear hk1 hr1
          go_wp2_with fail
          refine (word_any rb s ⟨#[102, 97, 108, 115, 101]⟩ a mv n ea w1 ha hs63 HR1.out HE1.out).mono ?_
          rintro e w2 (⟨v, r, a1, ho1, ha1, hd1, rfl, hk2, hr2⟩ | ⟨ho1, rfl, hk2⟩)
          · obtain ⟨r', hq, he2⟩ := Option.map_eq_some_iff.1 ho1
            simp only [Prod.mk.injEq] at he2
            obtain ⟨rfl, rfl⟩ := he2
            have hq' : Json.word [102, 97, 108, 115, 101] (s.data.toList.drop a) = some r' := hq
            have HX : Hid (o = some (Json.flagMem false, r')) := by
              show _ = _; rw [← HO.out, hq']
            have HK2 := hide (HK1.out.trans hk2)
            have HR2 := hide hr2
            have HD := hide hd1
            have hz := zero_of (zero_kp HLT.out (HZ1.out.trans hk2))
            have HZB : Hid (Blk w2 w.heap.size (⟨[], 0, [], 0, false⟩ : Mem)) := zero_kp HLT.out (HZ1.out.trans hk2)
            have z0 := hz.c0
            have z1 := hz.c1
            have z2 := hz.c2
            have z3 := hz.c3
            have z4 := hz.c4
            have g0 := hz.nf 0
            have g1 := hz.nf 1
            have g2 := hz.nf 2
            have g3 := hz.nf 3
            have g4 := hz.nf 4
            clear ho1 hq hq' hk2 hr2 hd1 hz
            go_wp2
            have hF := fill_blk (m := (Json.flagMem false)) HZB.out
            have HKF := hide (HK2.out.then (fill_below w2 (Json.flagMem false) (Nat.le_refl _)))
            have HRF := hide (HR2.out.under (fill_below w2 (Json.flagMem false) (Nat.le_refl _)) HLT.out)
            generalize hWF : fill w2 w.heap.size (Json.flagMem false) = WF at hF HKF HRF
            show bodyPost _ _ _ _ _ (fill w2 w.heap.size (Json.flagMem false))
            rw [hWF]
            have p0 := hF.at.c0
            have p1 := hF.at.c1
            have p2 := hF.at.c2
            have p3 := hF.at.c3
            have p4 := hF.at.c4
            refine ⟨rfl, agg (Json.flagMem false), ?_, ?_⟩
            · simp [results, Tryd.results50, go_sem, p0, p1, p2, p3, p4]
            exact Or.inl ⟨_, _, a1, by rw [HX.out]; rfl, ha1, HD.out, rfl, HKF.out, HRF.out⟩
          · have hq := none_of_map ho1
            have hq' : Json.word [102, 97, 108, 115, 101] (s.data.toList.drop a) = none := hq
            have HX : Hid (o = none) := by show _ = _; rw [← HO.out, hq']
            have HK2 := hide (HK1.out.trans hk2)
            clear ho1 hq hq' hk2
            go_wp2
            exact ⟨rfl, Or.inr ⟨by rw [HX.out]; rfl, rfl, HK2.out⟩⟩
        · rw [if_neg h3] at ho
          have k3 : ((c.toNat : Int) == 102) = false := hne 102 h3
          have HO := hide ho
          clear ho h1 h2 h3 hne
          go_enter Tryd.func50, Tryd.ntmps50
          go_wp2_with fail
          refine HC.out.mono ?_
          rintro e w1 ⟨rfl, hk1, hr1⟩
          have HZ1 := hide hk1
          have HK1 := hide ((Kp.alloc0 rb w zeroMem).trans hk1)
          have HR1 := hide hr1
          have HE1 := hide (HE.out.kp HR.out HK1.out)
          clear hk1 hr1
          go_wp2_with fail
          refine (number_any rb s a mv n ea w1 ha hs HR1.out HE1.out).mono ?_
          rintro e w2 (⟨v, r, a1, ho1, ha1, hd1, rfl, hk2, hr2⟩ | ⟨ho1, rfl, hk2⟩)
          · obtain ⟨⟨t, r'⟩, hq, he2⟩ := Option.map_eq_some_iff.1 ho1
            simp only [Prod.mk.injEq] at he2
            obtain ⟨rfl, rfl⟩ := he2
            have HX : Hid (o = some (Json.numMem t, r')) := by
              show _ = _; rw [← HO.out, hq]
            have HK2 := hide (HK1.out.trans hk2)
            have HR2 := hide hr2
            have HD := hide hd1
            have hz := zero_of (zero_kp HLT.out (HZ1.out.trans hk2))
            have HZB : Hid (Blk w2 w.heap.size (⟨[], 0, [], 0, false⟩ : Mem)) := zero_kp HLT.out (HZ1.out.trans hk2)
            have z0 := hz.c0
            have z1 := hz.c1
            have z2 := hz.c2
            have z3 := hz.c3
            have z4 := hz.c4
            have g0 := hz.nf 0
            have g1 := hz.nf 1
            have g2 := hz.nf 2
            have g3 := hz.nf 3
            have g4 := hz.nf 4
            clear ho1 hq hk2 hr2 hd1 hz
            go_wp2
            have hF := fill_blk (m := (Json.numMem t)) HZB.out
            have HKF := hide (HK2.out.then (fill_below w2 (Json.numMem t) (Nat.le_refl _)))
            have HRF := hide (HR2.out.under (fill_below w2 (Json.numMem t) (Nat.le_refl _)) HLT.out)
            generalize hWF : fill w2 w.heap.size (Json.numMem t) = WF at hF HKF HRF
            show bodyPost _ _ _ _ _ (fill w2 w.heap.size (Json.numMem t))
            rw [hWF]
            have p0 := hF.at.c0
            have p1 := hF.at.c1
            have p2 := hF.at.c2
            have p3 := hF.at.c3
            have p4 := hF.at.c4
            refine ⟨rfl, agg (Json.numMem t), ?_, ?_⟩
            · simp [results, Tryd.results50, go_sem, p0, p1, p2, p3, p4]
            exact Or.inl ⟨_, _, a1, by rw [HX.out]; rfl, ha1, HD.out, rfl, HKF.out, HRF.out⟩
          · have hq := none_of_map ho1
            have HX : Hid (o = none) := by show _ = _; rw [← HO.out, hq]
            have HK2 := hide (HK1.out.trans hk2)
            clear ho1 hq hk2
            go_wp2
            exact ⟨rfl, Or.inr ⟨by rw [HX.out]; rfl, rfl, HK2.out⟩⟩
  · obtain rfl : a = s.size := by omega
    rw [drop_end s _ h] at ho
    have HX : Hid (o = none) := ho.symm
    have HC := hide (peek_none rb s mv n ea (w.alloc zeroMem) (hr.below ((Below.refl w.heap.size w).alloc (Nat.le_refl _) _)) (he.kp hr (Kp.alloc0 _ _ _)))
    clear hr he ho
    go_enter Tryd.func50, Tryd.ntmps50
    go_wp2_with fail
    refine HC.out.mono ?_
    rintro e w1 ⟨rfl, hk⟩
    have HK := hide ((Kp.alloc0 rb w zeroMem).trans hk)
    clear hk
    go_wp2
    exact ⟨rfl, Or.inr ⟨by rw [HX.out]; rfl, rfl, HK.out⟩⟩
end Go.Proofs.YtkkgngmhdlmgnaaDoor.jw
