import Derived.Test.YtjfpjgialdkhkaaDoorDmMoves
import Derived.Deep.RegionHeld3
namespace Go.Proofs.YtjfpjgialdkhkaaDoor.dk
open Go.ChangeShapes Go.WideShapes Go.ChangeAt Go.RowKit Go.Proofs.YtjfpjgialdkhkaaDoor.common

theorem oper_rm {x : St} {dying on : St → St} {err : Nat} (h1 : ∀ y, (dying y).r = y.r) (h2 : ∀ y, (on y).r = y.r) : (x.oper dying on err).1.r = x.r := by
  unfold St.oper
  split
  · rfl
  · split
    · exact h2 _
    · show ((dying _).fail _).r = _
      exact h1 _
    · exact h2 _
theorem put_rm (x : St) (p : List UInt8) : (x.put p).r = x.r := by unfold St.put; split <;> rfl
theorem step_rm (x : St) (s : Sp) : (x.step s).1.r = x.r := by
  unfold St.step
  repeat' split
  · exact oper_rm (fun y => put_rm y _) (fun y => put_rm y _)
  · exact oper_rm (fun y => rfl) (fun y => rfl)
  · exact oper_rm (fun y => rfl) (fun y => rfl)
  · show (x.trunc s.n).1.r = x.r
    unfold St.trunc
    split
    · rfl
    · exact oper_rm (fun y => rfl) (fun y => rfl)
  · rfl
  · show (x.crash s.n).r = x.r
    unfold St.crash
    split <;> rfl
  · rfl
  · rfl
  · rfl
  · rfl
abbrev scvM (room : Int) (data : ByteArray) (other : Int) (vs : Value) : Value := .agg #[.int .i64 room, .string data, .int .i64 other, vs]

set_option maxRecDepth 100000 in
set_option maxHeartbeats 12800000 in
theorem lawMoves (w : World) (room : Int) (data : ByteArray) (other : Int) (vs : Value) (ss : List Sp) (hs : LiesP w vs ss) (hS : dk.Steps ss) (hdt : data.size ≤ reachBytes) (e : Nat → Addr) (he : errw.Errs w e) :
    Calls Tryd.prog 3 #[scvM room data other vs] w fun r' w' => r' = .returned (.bool true) ∧ Below w.heap.size w w' := by
  have HLI := hide hs
  obtain ⟨oa, cap, rfl, _⟩ := hs
  obtain ⟨W0, hW0⟩ : ∃ W0, W0 = w.alloc (.cells #[.int .i64 room, .string data, .int .i64 other, .slice oa ss.length cap] 24) := ⟨_, rfl⟩
  have hB0 : Below w.heap.size w W0 := by rw [hW0]; exact (Below.refl _ _).alloc (Nat.le_refl _) _
  have hX0 : W0.heap[w.heap.size]? = some (.cells #[.int .i64 room, .string data, .int .i64 other, .slice oa ss.length cap] 24) := by rw [hW0]; exact heap_alloc_new _ _
  have hz0 : w.heap.size < W0.heap.size := by rw [hW0]; simp
  have HB0 := hide hB0
  have HX0 := hide hX0
  have HLP := hide (HLI.out.below hB0)
  have HE0 := hide (er_of (he.below hB0))
  have HSS := hide hS
  have HW0 := hide hW0
  have hlen : ss.length ≤ 8796093022207 := by have := hS.len; omega
  obtain ⟨D, hD⟩ : ∃ D, D = data.data.toList := ⟨_, rfl⟩
  have hDl : D.length = data.size := by rw [hD, Array.length_toList]; rfl
  have hdl : D.length ≤ 140737488351232 := by rw [hDl]; exact hdt
  have HDT := hide hdt
  have HD := hide hD
  have HDL := hide hDl
  have v1 : ∀ X, Below W0.heap.size W0 X → X.cell? ⟨w.heap.size, 1, none⟩ = some (.string data) := fun X hX => cell_of ((hX.block _ (by omega)).trans HX0.out) 1
  have v2 : ∀ X, Below W0.heap.size W0 X → X.cell? ⟨w.heap.size, 2, none⟩ = some (.int .i64 other) := fun X hX => cell_of ((hX.block _ (by omega)).trans HX0.out) 2
  clear hX0 hB0 hS he hW0 hdt hD hDl
  go_enter Tryd.func3, Tryd.ntmps3
  go_wp2_with fail
  rw [← HW0.out]
  go_region_held3 (fun X => Below W0.heap.size W0 X)
    (first
      | exact Below.refl _ _
      | assumption
      | exact keepD (by assumption) (by assumption)
      | exact Below.drew (by assumption)
      | exact (Below.refl _ _).drew)
    (first
      | (go_at_call 7; refine (kitw.bytes_any data _ HDT.out).mono ?_; rintro x' w8 ⟨v8, rfl, o8, n8, b8⟩)
      | (go_at_call 6; refine (open_any _ _ D other (rd_own (by rw [HDL.out, HD.out]; assumption)) (by omega)).mono ?_; rintro x' w9 ⟨p, F, rfl, d9, f9, b9⟩))
  have hB9 : Below W0.heap.size W0 w9 := by assumption
  have hw8 : W0.heap.size ≤ w8.heap.size := b8.size
  have HB9 := hide hB9
  have HR9 : Hid (Run W0.heap.size w9 e p F ⟨D, D.length, roomOf other, [], false⟩ 0) := ⟨d9, fun q hq => Nat.le_trans hw8 (f9 q hq), HE0.out.below hB9, fine_new _ _ other (Nat.le_refl _) (by omega), Nat.le_refl _⟩
  obtain ⟨o88, c88, rfl⟩ : ∃ o c, v8 = .slice o data.size c := by
    obtain ⟨o, c, e8, _⟩ := own_form o8
    exact ⟨o, c, e8⟩
  clear o8 n8 b8 d9 f9 b9 hB9 hw8
  go_wp2_with fail
  refine (lookS_any w9).mono ?_
  rintro r' w10 ⟨rfl, b10⟩
  have HR10 := hide (HR9.out.keep b10)
  have HB10 := hide (keepD HB9.out b10)
  clear b10 HR9 HB9
  go_wp2_with fail
  refine (HR10.out.look (by decide)).mono ?_
  rintro r' w11 ⟨vl, F2, rfl, hA, hR, hf, hsb⟩
  obtain ⟨ol, cl, hvl, _⟩ := ans_cap hA
  subst hvl
  have hA' : Rd w11 (.slice ol D.length cl) D := hA.rd
  obtain ⟨X, hX⟩ : ∃ X, X = w11.alloc (said ol D.length cl (D.length : Int) 0) := ⟨_, rfl⟩
  have BX : Below w11.heap.size w11 X := by rw [hX]; exact (Below.refl _ _).alloc (Nat.le_refl _) _
  have hGX : X.heap[w11.heap.size]? = some (said ol D.length cl (D.length : Int) 0) := by rw [hX]; exact heap_alloc_new _ _
  have hzX : w11.heap.size < X.heap.size := (Array.getElem?_eq_some_iff.1 hGX).1
  have hBX : Below W0.heap.size W0 X := (HB10.out.trans (hf.below HR10.out.low HR10.out.err.size)).trans (BX.mono hR.err.size)
  have HRX := hide (hR.keep BX)
  have HBX := hide hBX
  have HLX := hide (hA'.below BX)
  have z0 : ∀ Z, Below X.heap.size X Z → Z.cell? ⟨w11.heap.size, 0, none⟩ = some (.slice ol D.length cl) := fun Z hZ => cell_of ((hZ.block _ hzX).trans hGX) 0
  have z1 : ∀ Z, Below X.heap.size X Z → Z.cell? ⟨w11.heap.size, 1, none⟩ = some (.int .i64 (D.length : Int)) := fun Z hZ => cell_of ((hZ.block _ hzX).trans hGX) 1
  have z2 : ∀ Z, Below X.heap.size X Z → Z.cell? ⟨w.heap.size, 1, none⟩ = some (.string data) := fun Z hZ => v1 Z (HBX.out.trans (hZ.mono HBX.out.size))
  have HDD : Hid (∀ Z, Below X.heap.size X Z → Calls Tryd.prog 10 #[ptr p] Z fun r' w' => r' = .returned (.bool false) ∧ w' = Z) := fun Z hZ => dead_any Z p F2 _ (HRX.out.disk.below hZ)
  have HBY : Hid (∀ Z, Calls Tryd.prog 7 #[.string data] Z fun e w' => ∃ o c, e = .returned (.slice o D.length c) ∧ Rd w' (.slice o D.length c) D ∧ Below Z.heap.size Z w') := fun Z => (kitw.bytes_any data Z HDT.out).mono fun r' w' hh => by
    obtain ⟨v, e1, e2, _, e4⟩ := hh
    have h5 : Rd w' v D := rd_own (by rw [HDL.out, HD.out]; exact e2)
    obtain ⟨o, c, h6⟩ := h5.len
    subst h6
    exact ⟨o, c, e1, h5, e4⟩
  have hne : ((D.length : Int) != (data.size : Int)) = false := by rw [HDL.out]; simp
  have hneq : (data.size : Int) = (D.length : Int) := by rw [HDL.out]
  have HX := hide hX
  have HDLN := hide hdl
  clear hA hA' hR hf hsb BX hX hGX hBX HR10 HB10
  go_wp2_with fail
  rw [← HX.out]
  go_region_held3 (fun Z => Below X.heap.size X Z)
    (first
      | exact Below.refl _ _
      | assumption
      | exact keepD (by assumption) (by assumption)
      | exact Below.drew (by assumption)
      | exact (Below.refl _ _).drew)
    (first
      | (go_at_call 10; refine (HDD.out _ (by first | assumption | exact Below.refl _ _ | exact (Below.refl _ _).drew)).mono ?_; rintro x' w20 ⟨rfl, rfl⟩)
      | (go_at_call 7; refine (HBY.out _).mono ?_; rintro x' w21 ⟨o21, c21, rfl, r21, b21⟩)
      | (go_at_call 11; refine (sameBytes_eq _ _ _ D (HLX.out.below (by first | assumption | exact Below.refl _ _)) (by assumption) (by omega)).mono ?_; rintro x' w22 ⟨rfl, b22⟩))
  have hB22 : Below X.heap.size X w22 := by assumption
  have HQ : Hid (Run W0.heap.size w22 e p F2 ⟨D, D.length, roomOf other, [], false⟩ 0 ∧ Below W0.heap.size W0 w22) := ⟨HRX.out.keep hB22, HBX.out.trans (hB22.mono HBX.out.size)⟩
  clear hB22 z0 z1 z2 HDD HBY HLX HRX HBX b21 b22 r21
  go_wp2_with fail
  go_loopw [5, 6] (fun a i wr => ∃ (k : Nat) (F : List Nat) (x : St), k ≤ ss.length ∧ i = .int .i64 k ∧ a = .int .i64 (x.a.length : Int) ∧ Hid (Run W0.heap.size wr e p F x k ∧ Below W0.heap.size W0 wr ∧ x.r = roomOf other)) (fun _ i _ => ss.length - (intOf i).toNat)
  case atStart => exact ⟨0, F2, _, Nat.zero_le _, rfl, rfl, HQ.out.1, HQ.out.2, rfl⟩
  case round =>
    clear HQ
    obtain ⟨k, F, x, hk, rfl, rfl, HT⟩ := hrel
    have v3 : ∀ Z, Below W0.heap.size W0 Z → Z.cell? ⟨w.heap.size, 3, none⟩ = some (.slice oa ss.length cap) := fun Z hZ => cell_of ((hZ.block _ hz0).trans HX0.out) 3
    have x3 := v3 wr HT.out.2.1
    by_cases hlt : k < ss.length
    · obtain ⟨oa', cap', hv', hst⟩ := HLP.out
      cases hv'
      obtain ⟨bs, os, rfl, hbs, hrs⟩ := hst k hlt
      have HSN := hide (HSS.out.num ss[k] (List.getElem_mem hlt))
      have HST := hide (HSS.out.text ss[k] (List.getElem_mem hlt))
      have hj : (k + 1) * 16 ≤ 140737488355328 := by have := HSS.out.len; omega
      have hj2 : (k + 1 + 1) * 16 ≤ 140737488355328 := by have := HSS.out.len; omega
      clear hst
      generalize ss[k] = s at *
      have hcl : ∀ Z, Below W0.heap.size W0 Z → Z.rangeAt bs (os + k * 5) (spc s) := fun Z hZ => range_block hrs (hZ.block bs hbs)
      have q0 : ∀ Z, Below W0.heap.size W0 Z → Z.cell? ⟨bs, os + k * 5, none⟩ = some (.int .i64 s.k) := fun Z hZ => hcl Z hZ 0 _ rfl
      have q1 : ∀ Z, Below W0.heap.size W0 Z → Z.cell? ⟨bs, os + k * 5 + 1, none⟩ = some (.int .i64 s.o) := fun Z hZ => hcl Z hZ 1 _ rfl
      have q2 : ∀ Z, Below W0.heap.size W0 Z → Z.cell? ⟨bs, os + k * 5 + 2, none⟩ = some (.int .i64 s.n) := fun Z hZ => hcl Z hZ 2 _ rfl
      have q3 : ∀ Z, Below W0.heap.size W0 Z → Z.cell? ⟨bs, os + k * 5 + 3, none⟩ = some (.int .i64 s.m) := fun Z hZ => hcl Z hZ 3 _ rfl
      have q4 : ∀ Z, Below W0.heap.size W0 Z → Z.cell? ⟨bs, os + k * 5 + 4, none⟩ = some (.string s.t) := fun Z hZ => hcl Z hZ 4 _ rfl
      have k0 : (0 : Int) ≤ (k : Int) := Int.natCast_nonneg _
      have k1 : (k : Int) < (ss.length : Int) := by omega
      have HMV : Hid (∀ Z, Below wr.heap.size wr Z → Calls Tryd.prog 12 #[ptr p, spv s, .int .i64 (roomOf other : Int), .int .i64 (x.a.length : Int)] Z fun r' w' => r' = .returned (.tuple #[.bool true, .int .i64 ((x.step s).1.a.length : Int)]) ∧ Below W0.heap.size W0 w' ∧ ∃ F', Run W0.heap.size w' e p F' (x.step s).1 (k + 1)) := fun Z hZ => by
        have h5 := moves_any (HT.out.1.keep hZ) hj hj2 s HST.out HSN.out.1 HSN.out.2.1 HSN.out.2.2
        rw [HT.out.2.2] at h5
        refine h5.mono fun r' w' hh => ?_
        obtain ⟨e1, F', e2, e3, _⟩ := hh
        exact ⟨e1, (HT.out.2.1.trans (hZ.mono HT.out.1.err.size)).trans (e3.below HT.out.1.low (HT.out.1.keep hZ).err.size), F', e2⟩
      have HSTR : Hid ((x.step s).1.r = roomOf other) := (step_rm x s).trans HT.out.2.2
      obtain ⟨y, hy⟩ : ∃ y, y = (x.step s).1 := ⟨_, rfl⟩
      rw [← hy] at HMV HSTR
      have hBW := HT.out.2.1
      clear hcl hrs hy HT
      go_wp2_with fail
      go_region_held3 (fun Z => Below W0.heap.size W0 Z)
        (first
          | exact Below.refl _ _
          | assumption
          | exact keepD (by assumption) (by assumption)
          | exact Below.drew (by assumption)
          | exact (Below.refl _ _).drew)
        (first
          | (go_at_call 13; refine (roomy_any _ other).mono ?_; rintro x' w30 ⟨rfl, rfl⟩)
          | (go_at_call 12; refine (HMV.out _ (by first | exact Below.refl _ _ | exact (Below.refl _ _).drew | assumption)).mono ?_; rintro x' w31 ⟨rfl, b31, F31, r31⟩))
      have HN : Hid (Run W0.heap.size w31 e p F31 y (k + 1) ∧ Below W0.heap.size W0 w31 ∧ y.r = roomOf other) := ⟨r31, b31, HSTR.out⟩
      clear r31 b31 q0 q1 q2 q3 q4 HMV HSTR x3
      go_wp2_with fail
      go_roundw
      case rel => exact ⟨k + 1, F31, y, by omega, by go_num, rfl, HN⟩
      case measure => simp [intOf]; omega
    · obtain rfl : k = ss.length := by omega
      have k1 : ¬ ((ss.length : Nat) : Int) < ((ss.length : Nat) : Int) := by omega
      have HZ : Hid (Below w.heap.size w wr) := HB0.out.trans (HT.out.2.1.mono HB0.out.size)
      go_wp2_with fail
      go_ret
      exact ⟨rfl, HZ.out⟩
end Go.Proofs.YtjfpjgialdkhkaaDoor.dk
