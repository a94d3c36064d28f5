import Derived.Test.YthpickmiohakbaaDoorStretchWalks
import Derived.Test.YthpickmiohakbaaDoorKitWalks
import Derived.Deep.DeepCutAuto
import Derived.Deep.RegionHeld3
namespace Go.Proofs.YthpickmiohakbaaDoor.foldw
open Go.ChangeShapes Go.WideShapes Go.ChangeAt Go.RowKit Go.Proofs.YthpickmiohakbaaDoor.common Go.Proofs.YthpickmiohakbaaDoor.shaw
open Go.Proofs.YthpickmiohakbaaDoor.errw (Errs E)
attribute [local go_sem ↓] Go.wp_at_zero Go.wp_at_succ

theorem cellsStretching : Tryd.prog.cellsOf 39 = 3 := by kernel_rfl

/-- what is left when the first texts have been xored off -/
def leftOf (p s : List UInt8) (m : Nat) : Nat → List UInt8
  | 0 => foldOf p s m
  | k + 1 => xorL (leftOf p s m k) (linkOf p s k)
theorem leftOf_len (p s : List UInt8) (m k : Nat) : (leftOf p s m k).length = 32 := by
  induction k with
  | zero => exact foldOf_len p s m
  | succ k ih => exact xorL_len _ _ 32 ih (linkOf_len p s k)
theorem xorL_getD (a b : List UInt8) (n j : Nat) (ha : a.length = n) (hb : b.length = n) (hj : j < n) : (xorL a b).getD j 0 = a.getD j 0 ^^^ b.getD j 0 := by
  rw [← xorTo_all a b (by omega), xorTo_getD _ _ _ _ (by omega), if_pos (by omega)]
theorem leftOf_getD (p s : List UInt8) (m k j : Nat) (hj : j < 32) : (leftOf p s m (k + 1)).getD j 0 = (foldOf p s m).getD j 0 ^^^ (foldOf p s k).getD j 0 := by
  induction k with
  | zero => exact xorL_getD _ _ 32 j (foldOf_len p s m) (linkOf_len p s 0) hj
  | succ k ih =>
    have h1 := xorL_getD (leftOf p s m (k + 1)) (linkOf p s (k + 1)) 32 j (leftOf_len p s m _) (linkOf_len p s _) hj
    have h2 := xorL_getD (foldOf p s k) (linkOf p s (k + 1)) 32 j (foldOf_len p s k) (linkOf_len p s _) hj
    show (xorL (leftOf p s m (k + 1)) (linkOf p s (k + 1))).getD j 0 = (foldOf p s m).getD j 0 ^^^ (xorL (foldOf p s k) (linkOf p s (k + 1))).getD j 0
    rw [h1, h2, ih, UInt8.xor_assoc]
theorem leftOf_none (p s : List UInt8) (m j : Nat) (hj : j < 32) : (leftOf p s m (m + 1)).getD j 0 = 0 := by
  rw [leftOf_getD p s m m j hj, UInt8.xor_self]

theorem range_of_own {w : World} {base : Nat} {e : TypeId} {v : Value} {l : List UInt8} (h : w.ownsRow base e 1 v l.length (l.map B)) (hl : 0 < l.length) : ∃ g cap, v = .slice (some ⟨g, 0, none⟩) l.length cap ∧ base ≤ g ∧ w.rangeAt g 0 (l.map B) ∧ w.there g 0 l.length ∧ l.length ≤ cap := by
  rcases h.2 with ⟨_, h0⟩ | ⟨g, cap, cur, rfl, hg, hh, hn, _, hsz, htk⟩
  · omega
  · have hr : w.rangeAt g 0 (l.map B) := by
      intro j u hu
      have hj : j < l.length := by simpa using (List.getElem?_eq_some_iff.1 hu).1
      have : (cur.toList.take (l.length * 1))[j]? = (l.map B)[j]? := by rw [htk]
      rw [List.getElem?_take_of_lt (by omega), hu] at this
      simp only [World.cell?, hh]
      simpa using this
    refine ⟨g, cap, rfl, hg, hr, ?_, hn⟩
    intro j hj
    refine ⟨?_, by simp [World.frozen?, hh]⟩
    rw [range_cell hr j (by simpa using hj)]; rfl

set_option maxRecDepth 100000 in
set_option maxHeartbeats 800000 in
theorem fold_bad (a b : ByteArray) (n : Int) (w : World) (hn : ¬ (1 ≤ n ∧ n ≤ 1000)) (e : Nat → Addr) (he : Errs w e) :
    Calls Tryd.prog 6 #[.agg #[.string a, .string b, .int .i64 n]] w fun e w' => e = .returned (.bool true) ∧ Below w.heap.size w w' := by
  have HE := hide he
  have HN := hide hn
  have HW : Hid (Below w.heap.size w (w.alloc (.cells #[.string a, .string b, .int .i64 n] 39))) := (Below.refl _ _).alloc (Nat.le_refl _) _
  have c1 : (w.alloc (.cells #[.string a, .string b, .int .i64 n] 39)).cell? ⟨w.heap.size, 2, none⟩ = some (.int .i64 n) := by simp
  have HL1 : Hid (w.heap.size < (w.alloc (.cells #[.string a, .string b, .int .i64 n] 39)).heap.size) := by show _ < _; simp
  clear he hn
  go_enter Tryd.func6, Tryd.ntmps6
  go_wp2_with fail
  refine (stretch_bad a b n _ HN.out e (HE.out.below HW.out)).mono ?_
  rintro x w1 ⟨rfl, hb1⟩
  have c2 := (hb1.cell (p := ⟨w.heap.size, 2, none⟩) HL1.out).trans c1
  have K1 := hide (HW.out.trans (hb1.mono HW.out.size))
  clear hb1 c1
  by_cases h1 : n < 1
  · go_wp2_with fail
    refine (errw.num_0 _ e (HE.out.below K1.out)).mono ?_
    rintro x w3 ⟨rfl, rfl⟩
    go_wp2
    go_ret
    exact ⟨by simp, K1.out⟩
  · have h2 : 1000 < n := by have := HN.out; omega
    go_wp2_with fail
    refine (errw.num_0 _ e (HE.out.below K1.out)).mono ?_
    rintro x w3 ⟨rfl, rfl⟩
    go_wp2
    go_ret
    exact ⟨by simp, K1.out⟩

set_option maxRecDepth 100000 in
set_option maxHeartbeats 1600000 in
theorem fold_good (a b : ByteArray) (m : Nat) (w : World) (hm : m ≤ 999) (ha : a.size ≤ 281474976710656) (hb : b.size ≤ 140737488351232) (hr : RW w) (hf : FW w) :
    Calls Tryd.prog 6 #[.agg #[.string a, .string b, .int .i64 ((m : Int) + 1)]] w fun e w' => e = .returned (.bool true) ∧ Below w.heap.size w w' := by
  have HA := hide ha
  have HB := hide hb
  have HRF := hide (And.intro hr hf)
  have HW : Hid (Below w.heap.size w (w.alloc (.cells #[.string a, .string b, .int .i64 ((m : Int) + 1)] 39))) := (Below.refl _ _).alloc (Nat.le_refl _) _
  have a1 : (w.alloc (.cells #[.string a, .string b, .int .i64 ((m : Int) + 1)] 39)).cell? ⟨w.heap.size, 0, none⟩ = some (.string a) := by simp
  have b1 : (w.alloc (.cells #[.string a, .string b, .int .i64 ((m : Int) + 1)] 39)).cell? ⟨w.heap.size, 1, none⟩ = some (.string b) := by simp
  have c1 : (w.alloc (.cells #[.string a, .string b, .int .i64 ((m : Int) + 1)] 39)).cell? ⟨w.heap.size, 2, none⟩ = some (.int .i64 ((m : Int) + 1)) := by simp
  have HL1 : Hid (w.heap.size < (w.alloc (.cells #[.string a, .string b, .int .i64 ((m : Int) + 1)] 39)).heap.size) := by show _ < _; simp
  have hneg : ¬ (9223372036854775807 < b.size + 4) := by omega
  have hS4 : (b ++ (⟨#[0, 0, 0, 1]⟩ : ByteArray)).size ≤ 281474976710656 := by rw [ByteArray.size_append]; show b.size + 4 ≤ _; omega
  have hSL : (b ++ (⟨#[0, 0, 0, 1]⟩ : ByteArray)).data.toList = b.data.toList ++ [0, 0, 0, 1] := by simp
  obtain ⟨S4, hZ⟩ : ∃ Z, b ++ (⟨#[0, 0, 0, 1]⟩ : ByteArray) = Z := ⟨_, rfl⟩
  rw [hZ] at hS4 hSL
  have HS4 := hide hS4
  have HSL := hide hSL
  clear hS4 hSL ha hb hr hf
  go_enter Tryd.func6, Tryd.ntmps6
  go_wp2_with fail
  refine (stretch_good a b m _ hm HA.out HB.out (HRF.out.1.below HW.out HRF.out.1.lt) (HRF.out.2.below HW.out HRF.out.2.lt)).mono ?_
  rintro x w1 ⟨rfl, hb1⟩
  have a2 := (hb1.cell (p := ⟨w.heap.size, 0, none⟩) HL1.out).trans a1
  have b2 := (hb1.cell (p := ⟨w.heap.size, 1, none⟩) HL1.out).trans b1
  have c2 := (hb1.cell (p := ⟨w.heap.size, 2, none⟩) HL1.out).trans c1
  have K1 := hide (HW.out.trans (hb1.mono HW.out.size))
  have HL2 : Hid (w.heap.size < w1.heap.size) := Nat.lt_of_lt_of_le HL1.out hb1.size
  clear hb1 a1 b1 c1 HW HL1
  have hGl : (⟨(foldOf a.data.toList b.data.toList m).toArray⟩ : ByteArray).data.toList = foldOf a.data.toList b.data.toList m := rfl
  have hGs : (⟨(foldOf a.data.toList b.data.toList m).toArray⟩ : ByteArray).size = 32 := by rw [szL, foldOf_len]
  have HGL := hide hGl
  clear hGl
  generalize (⟨(foldOf a.data.toList b.data.toList m).toArray⟩ : ByteArray) = G at *
  have HGS := hide hGs
  go_wp2_with fail
  refine (kitw.bytes_any G w1 (by rw [hGs]; decide)).mono ?_
  rintro x w2 ⟨v, rfl, hown, hnil, hb2⟩
  clear hnil
  have hGl32 : G.data.toList.length = 32 := by rw [lenL, hGs]
  obtain ⟨g, cap, rfl, hg, rG, tG, hcap⟩ := range_of_own (l := G.data.toList) (by rw [lenL]; exact hown) (by rw [hGl32]; decide)
  rw [hGl32] at tG hcap ⊢
  rw [HGL.out] at rG
  have a3 := (hb2.cell (p := ⟨w.heap.size, 0, none⟩) HL2.out).trans a2
  have b3 := (hb2.cell (p := ⟨w.heap.size, 1, none⟩) HL2.out).trans b2
  have c3 := (hb2.cell (p := ⟨w.heap.size, 2, none⟩) HL2.out).trans c2
  have K2 := hide (K1.out.trans (hb2.mono K1.out.size))
  have HL3 : Hid (w.heap.size < w2.heap.size) := Nat.lt_of_lt_of_le HL2.out hb2.size
  have HG : Hid (w.heap.size < g) := Nat.lt_of_lt_of_le HL2.out hg
  have RG := hide rG
  have TG := hide tG
  clear hb2 a2 b2 c2 K1 HL2 rG tG hown hg hGl32 hGs
  go_wp2_with fail
  refine (mac_any a S4 w2 HA.out HS4.out (HRF.out.1.below K2.out HRF.out.1.lt) (HRF.out.2.below K2.out HRF.out.2.lt)).mono ?_
  rintro x w3 ⟨rfl, hb3⟩
  have HL0 : Hid (macOf a.data.toList S4.data.toList = linkOf a.data.toList b.data.toList 0) := by
    show _ = _
    rw [HSL.out]; rfl
  rw [HL0.out]
  have hgl : g < w2.heap.size := there_lt TG.out (by decide)
  have RG3 := hide (range_below RG.out hb3 hgl)
  have TG3 := hide (there_below TG.out hb3 hgl)
  have a4 := (hb3.cell (p := ⟨w.heap.size, 0, none⟩) HL3.out).trans a3
  have c4 := (hb3.cell (p := ⟨w.heap.size, 2, none⟩) HL3.out).trans c3
  have A4 := hide a4
  have C4 := hide c4
  have K3 := hide (K2.out.trans (hb3.mono K2.out.size))
  clear hb3 a3 b3 c3 hneg hZ RG TG K2 HL3 hgl a4 c4
  have hLl : (⟨(linkOf a.data.toList b.data.toList 0).toArray⟩ : ByteArray).data.toList = linkOf a.data.toList b.data.toList 0 := rfl
  have HLL := hide hLl
  generalize (⟨(linkOf a.data.toList b.data.toList 0).toArray⟩ : ByteArray) = L0 at *
  clear hLl
  go_wp2_with fail
  go_loopw [6, 7] (fun u i wr => ∃ k : Nat, k ≤ m + 1 ∧ i = .int .i64 k ∧ (∃ L : ByteArray, u = .string L ∧ L.data.toList = linkOf a.data.toList b.data.toList k) ∧ wr.rangeAt g 0 ((leftOf a.data.toList b.data.toList m k).map B) ∧ wr.there g 0 32 ∧ wr.cell? ⟨w.heap.size, 0, none⟩ = some (.string a) ∧ wr.cell? ⟨w.heap.size, 2, none⟩ = some (.int .i64 ((m : Int) + 1)) ∧ RowKit.Below w.heap.size w wr) (fun _ i _ => m + 1 - (intOf i).toNat)
  case atStart => exact ⟨0, Nat.zero_le _, rfl, ⟨L0, rfl, HLL.out⟩, RG3.out, TG3.out, A4.out, C4.out, K3.out⟩
  case round =>
    obtain ⟨k, hk, rfl, ⟨L, rfl, hL⟩, rA, tA, qa, qc, hB⟩ := hrel
    have HLk := hide hL
    have RA := hide rA
    have TA := hide tA
    have QA := hide qa
    have KB := hide hB
    clear hL rA tA qa hB
    by_cases hlt : k < m + 1
    · have hki : (k : Int) < (m : Int) + 1 := by omega
      have hLs : L.size = 32 := by rw [← lenL, HLk.out, linkOf_len]
      have QC := hide qc
      have HFE : Hid (leftOf a.data.toList b.data.toList m (k + 1) = xorL (leftOf a.data.toList b.data.toList m k) L.data.toList) := by show _ = _; rw [HLk.out]; rfl
      have HFL := hide (leftOf_len a.data.toList b.data.toList m k)
      generalize hF : leftOf a.data.toList b.data.toList m k = F at *
      clear hF
      go_wp2_with fail
      clear qc
      go_loopw [8] (fun i wr => ∃ j : Nat, j ≤ 32 ∧ i = .int .i64 j ∧ wr.rangeAt g 0 ((xorTo F L.data.toList j).map B) ∧ wr.there g 0 32 ∧ wr.cell? ⟨w.heap.size, 0, none⟩ = some (.string a) ∧ wr.cell? ⟨w.heap.size, 2, none⟩ = some (.int .i64 ((m : Int) + 1)) ∧ RowKit.Below w.heap.size w wr) (fun i _ => 32 - (intOf i).toNat)
      case atStart => exact ⟨0, Nat.zero_le _, rfl, by rw [xorTo_zero]; exact RA.out, TA.out, QA.out, QC.out, KB.out⟩
      case round =>
        obtain ⟨j, hj, rfl, rA, tA, qa, qc, hB⟩ := hrel
        by_cases hj32 : j < 32
        · have hjl : j < F.length := by rw [HFL.out]; exact hj32
          have hjN : j < L.size := by omega
          have c0 := byte_cell rA j (by rw [xorTo_len]; exact hjl)
          rw [xorTo_getD _ _ _ _ hjl, if_neg (by omega)] at c0
          have f0 : wr.frozen? ⟨g, j, none⟩ = false := by simpa using (tA j hj32).2
          have hNj : L.data.toList.getD j 0 = L[j] := by
            have hh : j < L.data.toList.length := by rw [lenL]; exact hjN
            rw [List.getD_eq_getElem?_getD, List.getElem?_eq_getElem hh]; rfl
          have hx := xor8 (F.getD j 0) L[j]
          have HS1 : Hid ((xorTo F L.data.toList (j + 1)).map B = ((xorTo F L.data.toList j).map B).set j (B (F.getD j 0 ^^^ L[j]))) := by
            show _ = _
            rw [← xorTo_set F L.data.toList j hjl, hNj, List.map_set]
          have R1 : Hid ((wr.setCell ⟨g, j, none⟩ (B (F.getD j 0 ^^^ L[j]))).rangeAt g 0 ((xorTo F L.data.toList (j + 1)).map B)) := by
            show World.rangeAt _ _ _ _
            rw [HS1.out]
            have := range_set rA j (by rw [List.length_map, xorTo_len]; exact hjl) (B (F.getD j 0 ^^^ L[j]))
            rw [Nat.zero_add] at this
            exact this
          have hne : ∀ o, (⟨g, j, none⟩ : Addr) ≠ ⟨w.heap.size, o, none⟩ := fun o h => by have h1 := (Addr.mk.inj h).1; have := HG.out; omega
          have QA1 : Hid ((wr.setCell ⟨g, j, none⟩ (B (F.getD j 0 ^^^ L[j]))).cell? ⟨w.heap.size, 0, none⟩ = some (.string a)) := (World.cell?_setCell_other _ _ _ _ (hne 0)).trans qa
          have QC1 : Hid ((wr.setCell ⟨g, j, none⟩ (B (F.getD j 0 ^^^ L[j]))).cell? ⟨w.heap.size, 2, none⟩ = some (.int .i64 ((m : Int) + 1))) := (World.cell?_setCell_other _ _ _ _ (hne 2)).trans qc
          have TA1 := hide tA
          have HB5 := hide hB
          have l0 : (0 : Int) ≤ (j : Int) := Int.natCast_nonneg _
          have l1 : (j : Int) < 32 := by omega
          clear rA tA qa qc hB hNj HS1 hne
          generalize F.getD j 0 ^^^ L[j] = y at *
          generalize F.getD j 0 = x at *
          go_wp2_with fail
          go_region
          go_wp2
          go_roundw
          case rel =>
            have R1' := R1.out
            refine ⟨j + 1, by omega, by go_num, range_drew R1', there_drew (there_set TA1.out _ _), QA1.out, QC1.out, (HB5.out.setCell (by have := HG.out; show _ ≤ g; omega) _).drew⟩
          case measure => simp [intOf]; omega
        · obtain rfl : j = 32 := by omega
          have HX : Hid (xorTo F L.data.toList 32 = leftOf a.data.toList b.data.toList m (k + 1)) := by
            show _ = _
            have := xorTo_all F L.data.toList (by rw [lenL, HFL.out]; exact hLs)
            rw [HFL.out] at this
            rw [this, HFE.out]
          rw [HX.out] at rA
          have RA5 := hide rA
          have TA5 := hide tA
          have QC5 := hide qc
          have KB5 := hide hB
          have HLz : Hid (L.size ≤ 281474976710656) := by show _ ≤ _; omega
          have hwl : w.heap.size < wr.heap.size := World.block_lt_of_cell? wr _ qa
          have HWL := hide hwl
          have QA5 := hide qa
          clear rA tA qc hB hwl
          go_wp2_with fail
          refine (mac_any a L wr HA.out HLz.out (HRF.out.1.below KB5.out HRF.out.1.lt) (HRF.out.2.below KB5.out HRF.out.2.lt)).mono ?_
          rintro x w6 ⟨rfl, hb6⟩
          have HN : Hid (macOf a.data.toList L.data.toList = linkOf a.data.toList b.data.toList (k + 1)) := by
            show _ = _
            rw [HLk.out]; rfl
          rw [HN.out]
          have hgl : g < wr.heap.size := there_lt TA5.out (by decide)
          have RA6 := hide (range_below RA5.out hb6 hgl)
          have TA6 := hide (there_below TA5.out hb6 hgl)
          have QA6 := hide ((hb6.cell (p := ⟨w.heap.size, 0, none⟩) HWL.out).trans QA5.out)
          have QC6 := hide ((hb6.cell (p := ⟨w.heap.size, 2, none⟩) HWL.out).trans QC5.out)
          have KB6 := hide (KB5.out.trans (hb6.mono KB5.out.size))
          clear hb6 hgl qa
          go_wp2_with fail
          go_roundw
          case rel => exact ⟨k + 1, by omega, by go_num, ⟨_, rfl, rfl⟩, RA6.out, TA6.out, QA6.out, QC6.out, KB6.out⟩
          case measure => simp [intOf]; omega
    · obtain rfl : k = m + 1 := by omega
      have hki : ¬ ((m + 1 : Nat) : Int) < (m : Int) + 1 := by omega
      go_wp2_with fail
      clear qc
      go_loopw [9] (fun i wr => ∃ j : Nat, j ≤ 32 ∧ i = .int .i64 j ∧ wr.rangeAt g 0 ((leftOf a.data.toList b.data.toList m (m + 1)).map B) ∧ RowKit.Below w.heap.size w wr) (fun i _ => 32 - (intOf i).toNat)
      case atStart => exact ⟨0, Nat.zero_le _, rfl, RA.out, KB.out⟩
      case round =>
        obtain ⟨j, hj, rfl, rA, hB⟩ := hrel
        have RA7 := hide rA
        have KB7 := hide hB
        by_cases hj32 : j < 32
        · have c0 := byte_cell rA j (by rw [leftOf_len]; exact hj32)
          rw [leftOf_none _ _ _ _ hj32] at c0
          have c0' : wr.cell? ⟨g, j, none⟩ = some (.int .u8 0) := c0
          have l0 : (0 : Int) ≤ (j : Int) := Int.natCast_nonneg _
          have l1 : (j : Int) < 32 := by omega
          clear rA hB c0
          go_wp2_with fail
          go_roundw
          case rel => exact ⟨j + 1, by omega, by go_num, RA7.out, KB7.out⟩
          case measure => simp [intOf]; omega
        · obtain rfl : j = 32 := by omega
          clear rA hB
          go_wp2
          go_ret
          exact ⟨rfl, KB7.out⟩

theorem lawFold (a b : ByteArray) (n : Int) (w : World) (ha : a.size ≤ reachBytes) (hb : b.size ≤ reachBytes) (hr : RW w) (hf : FW w) (e : Nat → Addr) (he : Errs w e) :
    Calls Tryd.prog 6 #[.agg #[.string a, .string b, .int .i64 n]] w fun e w' => e = .returned (.bool true) ∧ Below w.heap.size w w' := by
  unfold reachBytes at ha hb
  by_cases hn : 1 ≤ n ∧ n ≤ 1000
  · obtain ⟨m, rfl, hm⟩ : ∃ m : Nat, n = (m : Int) + 1 ∧ m ≤ 999 := ⟨(n - 1).toNat, by omega, by omega⟩
    exact fold_good a b m w hm (by omega) (by omega) hr hf
  · exact fold_bad a b n w hn e he

end Go.Proofs.YthpickmiohakbaaDoor.foldw
