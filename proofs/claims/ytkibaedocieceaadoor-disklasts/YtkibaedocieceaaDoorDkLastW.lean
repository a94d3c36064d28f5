import Derived.Test.YtkibaedocieceaaDoorDkLast3
namespace Go.Proofs.YtkibaedocieceaaDoor.dk
open Go.ChangeShapes Go.WideShapes Go.ChangeAt Go.RowKit Go.Proofs.YtkibaedocieceaaDoor.common

theorem Jt.up {base : Nat} {W0 w : World} {e : Nat → Addr} {p h : Nat} {F H : List Nat} {x : St} {good all : List UInt8} {ar : Int} {j : Nat} (t : Jt base W0 w e p h F H x good all ar j) : Jt base W0 w e p h F H x good all ar (j + 1) := ⟨⟨t.run.disk, t.run.low, t.run.err, t.run.fine, Nat.le_succ_of_le t.run.arms⟩, t.held, t.ap, t.hlow, t.low⟩
theorem oper_room (x : St) (dying on : St → St) (err : Nat) (h1 : ∀ y, (dying y).r = y.r) (h2 : ∀ y, (on y).r = y.r) : (x.oper dying on err).1.r = x.r := by
  unfold St.oper
  split
  · rfl
  · split
    · exact h2 _
    · exact h1 _
    · exact h2 _
theorem step_room (x : St) (s : Sp) : (x.step s).1.r = x.r := by
  unfold St.step
  repeat' split
  · exact oper_room _ _ _ _ (fun y => put_room y _) (fun y => put_room y _)
  · exact oper_room x id St.sync 0 (fun y => rfl) (fun y => rfl)
  · exact oper_room x id id 0 (fun y => rfl) (fun y => rfl)
  · show (x.trunc s.n).1.r = x.r
    unfold St.trunc
    split
    · rfl
    · exact oper_room x id (fun y => y.cut s.n.toNat) 0 (fun y => rfl) (fun y => rfl)
  · rfl
  · show (x.crash s.n).r = x.r
    unfold St.crash
    split <;> rfl
  · rfl
  · rfl
  · rfl
  · rfl

set_option maxRecDepth 100000 in
set_option maxHeartbeats 12800000 in
theorem lawLasts (w : World) (room : Int) (data : ByteArray) (other : Int) (vs : Value) (ss : List Sp) (hs : LiesP w vs ss) (hS : Steps ss) (e : Nat → Addr) (he : errw.Errs w e) :
    Calls Tryd.prog 6 #[scv room data other vs] w fun r' w' => r' = .returned (.bool true) ∧ Below w.heap.size w w' := by
  have HLI := hide hs
  obtain ⟨oa, cap, rfl, _⟩ := hs
  obtain ⟨W0, hW0⟩ : ∃ W0, W0 = w.alloc (.cells #[.int .i64 room, .string data, .int .i64 other, .slice oa ss.length cap] 24) := ⟨_, rfl⟩
  have hB0 : Below w.heap.size w W0 := by rw [hW0]; exact (Below.refl _ _).alloc (Nat.le_refl _) _
  have hX0 : W0.heap[w.heap.size]? = some (.cells #[.int .i64 room, .string data, .int .i64 other, .slice oa ss.length cap] 24) := by rw [hW0]; exact heap_alloc_new _ _
  have hz0 : W0.heap.size = w.heap.size + 1 := by rw [hW0]; simp
  have HB0 := hide hB0
  have HX0 := hide hX0
  have HLP := hide (HLI.out.below hB0)
  have HE0 := hide (er_of (he.below hB0))
  have HSS := hide hS
  have HW0 := hide hW0
  have hlen : ss.length ≤ 8796093022207 := by have := hS.len; omega
  have x0 : W0.cell? ⟨w.heap.size, 0, none⟩ = some (.int .i64 room) := cell_of hX0 0
  clear hX0 hB0 hS he hW0
  go_enter Tryd.func6, Tryd.ntmps6
  go_wp2_with fail
  rw [← HW0.out]
  refine (new_any W0 room).mono ?_
  rintro r' w1 ho
  obtain ⟨pa, Fa, rfl, hRa, hFa, hb1⟩ := opened_run (base := W0.heap.size) ho (Nat.le_refl _) HE0.out (fine_new [] 0 room (Nat.le_refl _) (by decide)) rfl
  have hz1 : W0.heap.size ≤ w1.heap.size := hb1.size
  obtain ⟨h, hh⟩ : ∃ h, h = w1.heap.size := ⟨_, rfl⟩
  have HTS : Hid (Jt W0.heap.size W0 (w1.alloc (.cells #[.slice none 0 0, .slice none 0 0, .int .i64 0] 56)) e pa h Fa [h] ⟨[], 0, roomOf room, [], false⟩ [] [] 0 0) := by
    have B2 : Below w1.heap.size w1 (w1.alloc (.cells #[.slice none 0 0, .slice none 0 0, .int .i64 0] 56)) := (Below.refl _ _).alloc (Nat.le_refl _) _
    refine ⟨hRa.keep B2, ⟨.slice none 0 0, .slice none 0 0, by rw [hh]; exact heap_alloc_new _ _, ⟨rfl, Or.inl ⟨rfl, rfl⟩⟩, ⟨rfl, Or.inl ⟨rfl, rfl⟩⟩, fun g hg => (by cases hg), rfl⟩, fun q hq hm => ?_, fun q hq => ?_, keepD hb1 B2⟩
    · have := hRa.disk.lt q hq
      rw [List.mem_singleton.1 hm] at this
      omega
    · rw [List.mem_singleton.1 hq]; omega
  clear hRa hFa hb1 ho x0
  go_wp2_with fail
  rw [← hh]
  go_loopw [5] (fun i wr => ∃ (k : Nat) (Fa H : List Nat) (x : St), k ≤ ss.length ∧ i = .int .i64 k ∧ Hid (Jt W0.heap.size W0 wr e pa h Fa H x (x.b.take x.s) x.b (x.a.length : Int) k) ∧ Hid (x.Ok 1073741824 ∧ x.r = roomOf room)) (fun i _ => ss.length - (intOf i).toNat)
  case atStart => exact ⟨0, Fa, [h], _, Nat.zero_le _, rfl, HTS, ⟨⟨Nat.le_refl _, roomOf_le room, Nat.zero_le _⟩, rfl⟩⟩
  case round =>
    clear HTS hh hz1
    obtain ⟨k, Fa, H, x, hk, rfl, HT, HOK⟩ := hrel
    have hxx := (HT.out.low.block _ (by omega)).trans HX0.out
    have x3 : wr.cell? ⟨w.heap.size, 3, none⟩ = some (.slice oa ss.length cap) := cell_of hxx 3
    have hwr : W0.heap.size ≤ wr.heap.size := HT.out.low.size
    by_cases hlt : k < ss.length
    · have HPk := hide (HLP.out.below HT.out.low)
      obtain ⟨oa', cap', hv', hst⟩ := HPk.out
      cases hv'
      obtain ⟨bs, os, rfl, hbs, hrs⟩ := hst k hlt
      have HRS := hide hrs
      have HSN := hide (HSS.out.num ss[k] (List.getElem_mem hlt))
      have HST := hide (HSS.out.text ss[k] (List.getElem_mem hlt))
      have hj : (k + 1) * 16 ≤ 140737488355328 := by have := HSS.out.len; omega
      have hj2 : (k + 1 + 1) * 16 ≤ 140737488355328 := by have := HSS.out.len; omega
      clear hst hrs HPk
      generalize ss[k] = s at *
      have z0 : (0 : Int) ≤ (k : Int) := Int.natCast_nonneg _
      have z1 : (k : Int) < (ss.length : Int) := by omega
      obtain ⟨X1, hX1⟩ : ∃ X1, X1 = wr.alloc (stc s) := ⟨_, rfl⟩
      have B1 : Below wr.heap.size wr X1 := by rw [hX1]; exact (Below.refl _ _).alloc (Nat.le_refl _) _
      have HS1 : Hid (X1.heap[wr.heap.size]? = some (stc s)) := by rw [hX1]; exact heap_alloc_new _ _
      have hzX : wr.heap.size < X1.heap.size := (Array.getElem?_eq_some_iff.1 HS1.out).1
      have HT1 := hide (HT.out.keep B1 hwr)
      have hbX : W0.heap.size ≤ X1.heap.size := Nat.le_trans hwr B1.size
      have hx1 := (HT1.out.low.block _ (by omega)).trans HX0.out
      have y0 : ∀ Z, Below X1.heap.size X1 Z → Z.cell? ⟨w.heap.size, 0, none⟩ = some (.int .i64 room) := fun Z hZ => cell_of ((hZ.block _ (by omega)).trans hx1) 0
      have HX1 := hide hX1
      clear B1 hX1 HT
      by_cases k4 : s.k = 4
      · have e4 : (s.k == 4) = true := by rw [k4]; rfl
        clear k4
        go_wp2_with (refine wpList_load_mid rfl 34 (.tmp 28) rfl bs (os + k * 5) rfl _ _ HRS.out Tryd.underlying34 rfl sizeStep ?_)
        rw [← HX1.out]
        go_roundw
        case rel => exact ⟨k + 1, Fa, H, x, by omega, by go_num, HT1.out.up, HOK⟩
        case measure => simp [intOf]; omega
      have e4 : (s.k == 4) = false := beq_false_of_ne k4
      go_wp2_with (refine wpList_load_mid rfl 34 (.tmp 28) rfl bs (os + k * 5) rfl _ _ HRS.out Tryd.underlying34 rfl sizeStep ?_)
      rw [← HX1.out]
      refine (dead_any X1 pa Fa x HT1.out.run.disk).mono ?_
      rintro r' w' ⟨rfl, h'⟩
      obtain rfl := h'.symm
      have c0 : ∀ Z, Below X1.heap.size X1 Z → Z.cell? ⟨wr.heap.size, 0, none⟩ = some (.int .i64 s.k) := fun Z hZ => cell_of ((hZ.block _ hzX).trans HS1.out) 0
      have c4 : ∀ Z, Below X1.heap.size X1 Z → Z.cell? ⟨wr.heap.size, 4, none⟩ = some (.string s.t) := fun Z hZ => cell_of ((hZ.block _ hzX).trans HS1.out) 4
      have HRM : Hid (∀ Z, Below X1.heap.size X1 Z → Calls Tryd.prog 24 #[.int .i64 room] Z fun r' w' => r' = .returned (.int .i64 (roomOf room : Int)) ∧ Below Z.heap.size Z w') := fun Z _ => (roomy_any Z room).mono (fun r' w' hh => ⟨hh.1, by rw [hh.2]; exact Below.refl _ _⟩)
      obtain ⟨uG, uA, u1, u2, u3, u4, hH⟩ := HT1.out.held.ex
      have hhX := (Array.getElem?_eq_some_iff.1 u1).1
      obtain ⟨oA, cA, hvA, _⟩ := own_form u3
      subst hvA
      have c1 : ∀ Z, Below X1.heap.size X1 Z → Z.cell? ⟨h, 1, none⟩ = some (.slice oA x.b.length cA) := fun Z hZ => cell_of ((hZ.block _ hhX).trans u1) 1
      have hbl : x.b.length ≤ 1073741824 := HOK.out.1.most
      have htl : s.t.size ≤ 140737488351232 := HST.out
      have hrl : roomOf room ≤ 1073741824 := roomOf_le room
      clear u2 u3 u4 hH
      by_cases k1 : s.k = 1
      · have e1 : (s.k == 1) = true := by rw [k1]; rfl
        have HFU : Hid ((decide (s.k = 1) && !x.fits s.t.data.toList) = decide ((roomOf room : Int) < (x.b.length : Int) + (s.t.size : Int))) := by
          show _ = _
          have h2 : s.t.data.toList.length = s.t.size := by rw [Array.length_toList]; rfl
          rw [decide_eq_true k1, Bool.true_and]
          unfold St.fits
          rw [h2, HOK.out.2]
          by_cases hc : x.b.length + s.t.size ≤ roomOf room
          · rw [decide_eq_true hc, decide_eq_false (show ¬ ((roomOf room : Int) < (x.b.length : Int) + (s.t.size : Int)) by omega)]; rfl
          · rw [decide_eq_false hc, decide_eq_true (show ((roomOf room : Int) < (x.b.length : Int) + (s.t.size : Int)) by omega)]; rfl
        clear k1
        go_wp2_with fail
        go_region_held3 (fun Z => Below X1.heap.size X1 Z)
          (first
            | exact Below.refl _ _
            | assumption
            | exact keepD (by assumption) (by assumption)
            | exact Below.drew (by assumption)
            | exact (Below.refl _ _).drew)
          ((go_at_call 24; refine (HRM.out _ (by assumption)).mono ?_; rintro x' w5 ⟨rfl, b5⟩))
        have HB5 : Hid (Below X1.heap.size X1 w5) := by assumption
        have HT5 := hide (HT1.out.keep HB5.out hbX)
        have hS5 := (HB5.out.block _ hzX).trans HS1.out
        have hb5 : W0.heap.size ≤ w5.heap.size := Nat.le_trans hbX HB5.out.size
        have p0 : w5.cell? ⟨wr.heap.size, 0, none⟩ = some (.int .i64 s.k) := cell_of hS5 0
        have p1 : w5.cell? ⟨wr.heap.size, 0 + 1, none⟩ = some (.int .i64 s.o) := cell_of hS5 1
        have p2 : w5.cell? ⟨wr.heap.size, 0 + 2, none⟩ = some (.int .i64 s.n) := cell_of hS5 2
        have p3 : w5.cell? ⟨wr.heap.size, 0 + 3, none⟩ = some (.int .i64 s.m) := cell_of hS5 3
        have p4 : w5.cell? ⟨wr.heap.size, 0 + 4, none⟩ = some (.string s.t) := cell_of hS5 4
        have HLS := hide (lasts_any W0.heap.size W0 w5 e pa h Fa H x k HT5.out hb5 hj hj2 s HST.out HSN.out.1 HSN.out.2.1 HSN.out.2.2 HOK.out.1.most k4)
        rw [HFU.out] at HLS
        clear hS5 HT5 HT1 c0 c1 c4 y0 HS1 HB5 b5 HRM u1 hhX
        go_wp2_with fail
        refine HLS.out.mono ?_
        rintro r' w6 ⟨rfl, F6, H6, hT6⟩
        have HOK6 : Hid ((x.step s).1.Ok 1073741824 ∧ (x.step s).1.r = roomOf room) := ⟨HOK.out.1.step (Nat.le_refl _) s, (step_room x s).trans HOK.out.2⟩
        obtain ⟨y, hy⟩ : ∃ y, y = (x.step s).1 := ⟨_, rfl⟩
        rw [← hy] at hT6 HOK6
        clear hy HLS HOK p0 p1 p2 p3 p4
        have HT6 := hide hT6
        have hz6 : W0.heap.size ≤ w6.heap.size := hT6.low.size
        clear hT6
        go_wp2_with fail
        refine (lookS_any w6).mono ?_
        rintro r' w7 ⟨rfl, b7⟩
        have HT7 := hide (HT6.out.keep b7 hz6)
        have hz7 : W0.heap.size ≤ w7.heap.size := Nat.le_trans hz6 b7.size
        clear b7 HT6
        go_wp2_with fail
        refine (HT7.out.run.look hj2).mono ?_
        rintro r' w8 ⟨v8, F8, rfl, hA8, hR8, hf8, hs8⟩
        have hT8 := HT7.out.disk hz7 hR8 hf8 hs8
        have HRN := hide hA8.rd
        obtain ⟨o8, c8, hv8, hc8⟩ : ∃ o c, v8 = .slice o y.b.length c ∧ y.b.length ≤ c := by
          rcases hA8 with ⟨e1, e2⟩ | ⟨g, e1, _⟩
          · exact ⟨none, 0, by rw [e1, e2]; rfl, by rw [e2]; exact Nat.le_refl _⟩
          · exact ⟨_, _, e1, Nat.le_refl _⟩
        subst hv8
        have hz8 : W0.heap.size ≤ w8.heap.size := hT8.low.size
        obtain ⟨X, hX⟩ : ∃ X, X = w8.alloc (.cells #[.slice o8 y.b.length c8, .int .i64 (y.s : Int), .int .i64 0] 31) := ⟨_, rfl⟩
        have BX : Below w8.heap.size w8 X := by rw [hX]; exact (Below.refl _ _).alloc (Nat.le_refl _) _
        have HGX : Hid (X.heap[w8.heap.size]? = some (.cells #[.slice o8 y.b.length c8, .int .i64 (y.s : Int), .int .i64 0] 31)) := by rw [hX]; exact heap_alloc_new _ _
        have HTX := hide (hT8.keep BX hz8)
        have HRNX := hide (HRN.out.below BX)
        have HX := hide hX
        have hzX8 : w8.heap.size < X.heap.size := (Array.getElem?_eq_some_iff.1 HGX.out).1
        clear hA8 hR8 hf8 hs8 hT8 BX hX HRN HT7
        obtain ⟨uG, uA, u1, u2, u3, u4, hH⟩ := HTX.out.held.ex
        have hhX := (Array.getElem?_eq_some_iff.1 u1).1
        obtain ⟨oG, cG, hvG, _⟩ := own_form u2
        subst hvG
        obtain ⟨oA, cA, hvA, _⟩ := own_form u3
        subst hvA
        have hym : y.s ≤ y.b.length := HTX.out.run.fine.ok.syn
        have hgl : (y.b.take y.s).length = y.s := by rw [List.length_take]; omega
        have HRG : Hid (Rd X (.slice oG y.s cG) (y.b.take y.s)) := by have h9 := rd_own u2; rw [hgl] at h9; exact h9
        have HRA := hide (rd_own u3)
        have HU1 := hide u1
        have k0 : ∀ Z, Below X.heap.size X Z → Z.cell? ⟨w8.heap.size, 0, none⟩ = some (.slice o8 y.b.length c8) := fun Z hZ => cell_of ((hZ.block _ hzX8).trans HGX.out) 0
        have k1' : ∀ Z, Below X.heap.size X Z → Z.cell? ⟨h, 0, none⟩ = some (.slice oG y.s cG) := fun Z hZ => by
          have h9 := cell_of ((hZ.block _ hhX).trans HU1.out) 0
          rw [hgl] at h9
          exact h9
        have k2 : ∀ Z, Below X.heap.size X Z → Z.cell? ⟨h, 1, none⟩ = some (.slice oA y.b.length cA) := fun Z hZ => cell_of ((hZ.block _ hhX).trans HU1.out) 1
        have hxm : y.b.length ≤ 4611686018427387904 := by have := HTX.out.run.fine.ok.most; omega
        have HGL := hide hgl
        clear hgl u1 u2 u3 u4 hH
        have HSA : Hid (∀ Z, Below X.heap.size X Z → Calls Tryd.prog 26 #[.slice o8 y.b.length c8, .slice oG y.s cG] Z fun r' w' => r' = .returned (.bool true) ∧ Below Z.heap.size Z w') := fun Z hZ => starts_eq Z _ _ _ _ _ (HRNX.out.below hZ) (HRG.out.below hZ) hc8 (by rw [HGL.out]; exact hym) (by rw [HGL.out]) hxm
        have HSB : Hid (∀ Z, Below X.heap.size X Z → Calls Tryd.prog 14 #[.slice o8 y.b.length c8, .slice oA y.b.length cA] Z fun r' w' => r' = .returned (.bool true) ∧ Below Z.heap.size Z w') := fun Z hZ => sameBytes_eq Z _ _ y.b (HRNX.out.below hZ) (HRA.out.below hZ) hxm
        go_wp2_with fail
        rw [← HX.out]
        go_region_held3 (fun Z => Below X.heap.size X Z)
          (first
            | exact Below.refl _ _
            | assumption
            | exact keepD (by assumption) (by assumption)
            | exact Below.drew (by assumption)
            | exact (Below.refl _ _).drew)
          (first
            | (go_at_call 26; with_reducible refine (HSA.out _ (by assumption)).mono ?_; rintro x' w9 ⟨rfl, b9⟩)
            | (go_at_call 14; with_reducible refine (HSB.out _ (by assumption)).mono ?_; rintro x' w10 ⟨rfl, b10⟩))
        have HBA : Hid (Below X.heap.size X w10) := by assumption
        have HTA := hide (HTX.out.keep HBA.out (Nat.le_trans hz8 (by omega)))
        clear b9 b10 HSA HSB k0 k1' k2 HTX HRNX HRG HRA HGX HU1 HBA
        go_wp2_with fail
        go_roundw
        case rel => exact ⟨k + 1, F8, H6, y, by omega, by go_num, HTA, HOK6⟩
        case measure => simp [intOf]; omega
      · have e1 : (s.k == 1) = false := beq_false_of_ne k1
        have HFU : Hid ((decide (s.k = 1) && !x.fits s.t.data.toList) = false) := by show _ = _; rw [decide_eq_false k1]; rfl
        have c0q : X1.cell? ⟨wr.heap.size, 0, none⟩ = some (.int .i64 s.k) := c0 X1 (Below.refl _ _)
        go_wp2_with fail
        go_quiet (fail)
        obtain ⟨w5, hw5⟩ : ∃ w5, w5 = X1.drewN nq := ⟨_, rfl⟩
        have HB5 : Hid (Below X1.heap.size X1 w5) := by rw [hw5]; exact bdN (Below.refl _ _) _
        rw [← hw5]
        clear hw5
        have HT5 := hide (HT1.out.keep HB5.out hbX)
        have hS5 := (HB5.out.block _ hzX).trans HS1.out
        have hb5 : W0.heap.size ≤ w5.heap.size := Nat.le_trans hbX HB5.out.size
        have p0 : w5.cell? ⟨wr.heap.size, 0, none⟩ = some (.int .i64 s.k) := cell_of hS5 0
        have p1 : w5.cell? ⟨wr.heap.size, 0 + 1, none⟩ = some (.int .i64 s.o) := cell_of hS5 1
        have p2 : w5.cell? ⟨wr.heap.size, 0 + 2, none⟩ = some (.int .i64 s.n) := cell_of hS5 2
        have p3 : w5.cell? ⟨wr.heap.size, 0 + 3, none⟩ = some (.int .i64 s.m) := cell_of hS5 3
        have p4 : w5.cell? ⟨wr.heap.size, 0 + 4, none⟩ = some (.string s.t) := cell_of hS5 4
        have HLS := hide (lasts_any W0.heap.size W0 w5 e pa h Fa H x k HT5.out hb5 hj hj2 s HST.out HSN.out.1 HSN.out.2.1 HSN.out.2.2 HOK.out.1.most k4)
        rw [HFU.out] at HLS
        clear hS5 HT5 HT1 c0 c0q c1 c4 y0 HS1 HB5 HRM u1 hhX
        go_wp2_with fail
        refine HLS.out.mono ?_
        rintro r' w6 ⟨rfl, F6, H6, hT6⟩
        have HOK6 : Hid ((x.step s).1.Ok 1073741824 ∧ (x.step s).1.r = roomOf room) := ⟨HOK.out.1.step (Nat.le_refl _) s, (step_room x s).trans HOK.out.2⟩
        obtain ⟨y, hy⟩ : ∃ y, y = (x.step s).1 := ⟨_, rfl⟩
        rw [← hy] at hT6 HOK6
        clear hy HLS HOK p0 p1 p2 p3 p4
        have HT6 := hide hT6
        have hz6 : W0.heap.size ≤ w6.heap.size := hT6.low.size
        clear hT6
        go_wp2_with fail
        refine (lookS_any w6).mono ?_
        rintro r' w7 ⟨rfl, b7⟩
        have HT7 := hide (HT6.out.keep b7 hz6)
        have hz7 : W0.heap.size ≤ w7.heap.size := Nat.le_trans hz6 b7.size
        clear b7 HT6
        go_wp2_with fail
        refine (HT7.out.run.look hj2).mono ?_
        rintro r' w8 ⟨v8, F8, rfl, hA8, hR8, hf8, hs8⟩
        have hT8 := HT7.out.disk hz7 hR8 hf8 hs8
        have HRN := hide hA8.rd
        obtain ⟨o8, c8, hv8, hc8⟩ : ∃ o c, v8 = .slice o y.b.length c ∧ y.b.length ≤ c := by
          rcases hA8 with ⟨e1, e2⟩ | ⟨g, e1, _⟩
          · exact ⟨none, 0, by rw [e1, e2]; rfl, by rw [e2]; exact Nat.le_refl _⟩
          · exact ⟨_, _, e1, Nat.le_refl _⟩
        subst hv8
        have hz8 : W0.heap.size ≤ w8.heap.size := hT8.low.size
        obtain ⟨X, hX⟩ : ∃ X, X = w8.alloc (.cells #[.slice o8 y.b.length c8, .int .i64 (y.s : Int), .int .i64 0] 31) := ⟨_, rfl⟩
        have BX : Below w8.heap.size w8 X := by rw [hX]; exact (Below.refl _ _).alloc (Nat.le_refl _) _
        have HGX : Hid (X.heap[w8.heap.size]? = some (.cells #[.slice o8 y.b.length c8, .int .i64 (y.s : Int), .int .i64 0] 31)) := by rw [hX]; exact heap_alloc_new _ _
        have HTX := hide (hT8.keep BX hz8)
        have HRNX := hide (HRN.out.below BX)
        have HX := hide hX
        have hzX8 : w8.heap.size < X.heap.size := (Array.getElem?_eq_some_iff.1 HGX.out).1
        clear hA8 hR8 hf8 hs8 hT8 BX hX HRN HT7
        obtain ⟨uG, uA, u1, u2, u3, u4, hH⟩ := HTX.out.held.ex
        have hhX := (Array.getElem?_eq_some_iff.1 u1).1
        obtain ⟨oG, cG, hvG, _⟩ := own_form u2
        subst hvG
        obtain ⟨oA, cA, hvA, _⟩ := own_form u3
        subst hvA
        have hym : y.s ≤ y.b.length := HTX.out.run.fine.ok.syn
        have hgl : (y.b.take y.s).length = y.s := by rw [List.length_take]; omega
        have HRG : Hid (Rd X (.slice oG y.s cG) (y.b.take y.s)) := by have h9 := rd_own u2; rw [hgl] at h9; exact h9
        have HRA := hide (rd_own u3)
        have HU1 := hide u1
        have k0 : ∀ Z, Below X.heap.size X Z → Z.cell? ⟨w8.heap.size, 0, none⟩ = some (.slice o8 y.b.length c8) := fun Z hZ => cell_of ((hZ.block _ hzX8).trans HGX.out) 0
        have k1' : ∀ Z, Below X.heap.size X Z → Z.cell? ⟨h, 0, none⟩ = some (.slice oG y.s cG) := fun Z hZ => by
          have h9 := cell_of ((hZ.block _ hhX).trans HU1.out) 0
          rw [hgl] at h9
          exact h9
        have k2 : ∀ Z, Below X.heap.size X Z → Z.cell? ⟨h, 1, none⟩ = some (.slice oA y.b.length cA) := fun Z hZ => cell_of ((hZ.block _ hhX).trans HU1.out) 1
        have hxm : y.b.length ≤ 4611686018427387904 := by have := HTX.out.run.fine.ok.most; omega
        have HGL := hide hgl
        clear hgl u1 u2 u3 u4 hH
        have HSA : Hid (∀ Z, Below X.heap.size X Z → Calls Tryd.prog 26 #[.slice o8 y.b.length c8, .slice oG y.s cG] Z fun r' w' => r' = .returned (.bool true) ∧ Below Z.heap.size Z w') := fun Z hZ => starts_eq Z _ _ _ _ _ (HRNX.out.below hZ) (HRG.out.below hZ) hc8 (by rw [HGL.out]; exact hym) (by rw [HGL.out]) hxm
        have HSB : Hid (∀ Z, Below X.heap.size X Z → Calls Tryd.prog 14 #[.slice o8 y.b.length c8, .slice oA y.b.length cA] Z fun r' w' => r' = .returned (.bool true) ∧ Below Z.heap.size Z w') := fun Z hZ => sameBytes_eq Z _ _ y.b (HRNX.out.below hZ) (HRA.out.below hZ) hxm
        go_wp2_with fail
        rw [← HX.out]
        go_region_held3 (fun Z => Below X.heap.size X Z)
          (first
            | exact Below.refl _ _
            | assumption
            | exact keepD (by assumption) (by assumption)
            | exact Below.drew (by assumption)
            | exact (Below.refl _ _).drew)
          (first
            | (go_at_call 26; with_reducible refine (HSA.out _ (by assumption)).mono ?_; rintro x' w9 ⟨rfl, b9⟩)
            | (go_at_call 14; with_reducible refine (HSB.out _ (by assumption)).mono ?_; rintro x' w10 ⟨rfl, b10⟩))
        have HBA : Hid (Below X.heap.size X w10) := by assumption
        have HTA := hide (HTX.out.keep HBA.out (Nat.le_trans hz8 (by omega)))
        clear b9 b10 HSA HSB k0 k1' k2 HTX HRNX HRG HRA HGX HU1 HBA
        go_wp2_with fail
        go_roundw
        case rel => exact ⟨k + 1, F8, H6, y, by omega, by go_num, HTA, HOK6⟩
        case measure => simp [intOf]; omega
    · obtain rfl : k = ss.length := by omega
      go_wp2
      go_ret
      exact ⟨rfl, HB0.out.trans (HT.out.low.mono HB0.out.size)⟩
end Go.Proofs.YtkibaedocieceaaDoor.dk
