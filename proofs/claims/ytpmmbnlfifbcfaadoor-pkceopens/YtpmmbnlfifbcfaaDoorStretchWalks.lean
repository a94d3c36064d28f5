import Derived.Test.YtpmmbnlfifbcfaaDoorMacWalks
import Derived.Test.YtpmmbnlfifbcfaaDoorErrWalks
namespace Go.Proofs.YtpmmbnlfifbcfaaDoor.shaw
open Go.ChangeShapes Go.WideShapes Go.ChangeAt Go.RowKit Go.Proofs.YtpmmbnlfifbcfaaDoor.common
open Go.Proofs.YtpmmbnlfifbcfaaDoor.errw (Errs E)
attribute [local go_sem ↓] Go.wp_at_zero Go.wp_at_succ

/-- the texts of all rounds -/
def linkOf (p s : List UInt8) : Nat → List UInt8
  | 0 => macOf p (s ++ [0, 0, 0, 1])
  | k + 1 => macOf p (linkOf p s k)
theorem linkOf_len (p s : List UInt8) (k : Nat) : (linkOf p s k).length = 32 := by cases k <;> exact macOf_len _ _
def xorL (a b : List UInt8) : List UInt8 := List.zipWith (· ^^^ ·) a b
theorem xorL_len (a b : List UInt8) (n : Nat) (ha : a.length = n) (hb : b.length = n) : (xorL a b).length = n := by unfold xorL; rw [List.length_zipWith, ha, hb, Nat.min_self]
/-- the texts of the rounds, xored -/
def foldOf (p s : List UInt8) : Nat → List UInt8
  | 0 => linkOf p s 0
  | k + 1 => xorL (foldOf p s k) (linkOf p s (k + 1))
theorem foldOf_len (p s : List UInt8) (k : Nat) : (foldOf p s k).length = 32 := by
  induction k with
  | zero => exact linkOf_len p s 0
  | succ k ih => exact xorL_len _ _ 32 ih (linkOf_len p s (k + 1))

/-- a text that is being xored: its first i bytes are done -/
def xorTo (a b : List UInt8) (i : Nat) : List UInt8 := (List.range a.length).map fun j => if j < i then a.getD j 0 ^^^ b.getD j 0 else a.getD j 0
theorem xorTo_len (a b : List UInt8) (i : Nat) : (xorTo a b i).length = a.length := by unfold xorTo; rw [List.length_map, List.length_range]
theorem xorTo_getD (a b : List UInt8) (i j : Nat) (hj : j < a.length) : (xorTo a b i).getD j 0 = if j < i then a.getD j 0 ^^^ b.getD j 0 else a.getD j 0 := by
  unfold xorTo
  rw [List.getD_eq_getElem?_getD, List.getElem?_map, List.getElem?_range hj]
  rfl
theorem list_eqD {a b : List UInt8} (hl : a.length = b.length) (h : ∀ i, i < a.length → a.getD i 0 = b.getD i 0) : a = b := by
  apply List.ext_getElem hl
  intro i h1 h2
  have := h i h1
  rw [List.getD_eq_getElem?_getD, List.getD_eq_getElem?_getD, List.getElem?_eq_getElem h1, List.getElem?_eq_getElem h2] at this
  simpa using this
theorem xorTo_zero (a b : List UInt8) : xorTo a b 0 = a := list_eqD (xorTo_len a b 0) fun i hi => by
  rw [xorTo_len] at hi; rw [xorTo_getD _ _ _ _ hi, if_neg (by omega)]
theorem xorTo_all (a b : List UInt8) (hb : b.length = a.length) : xorTo a b a.length = xorL a b := list_eqD (by rw [xorTo_len, xorL_len a b a.length rfl hb]) fun i hi => by
  rw [xorTo_len] at hi
  rw [xorTo_getD _ _ _ _ hi, if_pos hi]
  unfold xorL
  have hbi : i < b.length := by omega
  rw [List.getD_eq_getElem?_getD, List.getD_eq_getElem?_getD, List.getD_eq_getElem?_getD, List.getElem?_zipWith, List.getElem?_eq_getElem hi, List.getElem?_eq_getElem hbi]
  rfl
theorem xorTo_set (a b : List UInt8) (i : Nat) (hi : i < a.length) : (xorTo a b i).set i (a.getD i 0 ^^^ b.getD i 0) = xorTo a b (i + 1) := list_eqD (by rw [List.length_set, xorTo_len, xorTo_len]) fun j hj => by
  rw [List.length_set, xorTo_len] at hj
  rw [xorTo_getD _ _ _ _ hj, List.getD_eq_getElem?_getD, List.getElem?_set]
  by_cases h : i = j
  · subst h
    rw [if_pos rfl, if_pos (by rw [xorTo_len]; exact hi), if_pos (by omega)]
    rfl
  · rw [if_neg h, ← List.getD_eq_getElem?_getD, xorTo_getD _ _ _ _ hj]
    by_cases h2 : j < i
    · rw [if_pos h2, if_pos (by omega)]
    · rw [if_neg h2, if_neg (by omega)]

def zero32 : Array Value := #[.int .u8 0, .int .u8 0, .int .u8 0, .int .u8 0, .int .u8 0, .int .u8 0, .int .u8 0, .int .u8 0, .int .u8 0, .int .u8 0, .int .u8 0, .int .u8 0, .int .u8 0, .int .u8 0, .int .u8 0, .int .u8 0, .int .u8 0, .int .u8 0, .int .u8 0, .int .u8 0, .int .u8 0, .int .u8 0, .int .u8 0, .int .u8 0, .int .u8 0, .int .u8 0, .int .u8 0, .int .u8 0, .int .u8 0, .int .u8 0, .int .u8 0, .int .u8 0]
theorem zero32_run (w : World) : (zeroValue 53).run Tryd.prog w = .ok (.agg zero32) w := by kernel_rfl
theorem size32 : (Tryd.prog.info? 53).map (·.size) = some 32 := by kernel_rfl

theorem conv32 {w : World} {g : Nat} {l : List UInt8} (h : w.rangeAt g 0 (l.map B)) (hl : l.length = 32) : (convert 54 9 (.slice (some ⟨g, 0, none⟩) 32 32)).run Tryd.prog w = .ok (.string ⟨l.toArray⟩) w := by
  have := run_convert_bytes_back (P := Tryd.prog) w 54 9 5 ⟨g, 0, none⟩ 32 l Tryd.underlying54 Tryd.underlying5 Tryd.underlying9 (by
    intro j hj
    rw [Addr.add_mid, Nat.zero_add, byte_cell h j hj]
    simp [hj])
  rw [hl] at this
  exact this
theorem copy32 (W : World) (L : ByteArray) (hL : L.size = 32) : ∃ W' : World,
    (Builtin.copy_ #[54, 9] 3 #[.slice (some ⟨W.heap.size, 0, none⟩) 32 32, .string L]).run Tryd.prog (W.alloc (.cells zero32 53)) = .ok (goInt 32) W' ∧
      W'.rangeAt W.heap.size 0 (L.data.toList.map B) ∧ W'.there W.heap.size 0 32 ∧ RowKit.Below W.heap.size W W' := by
  have ht : (W.alloc (.cells zero32 53)).there W.heap.size 0 32 := there_new_at W _ _ _ 32 rfl rfl
  have hb : RowKit.Below W.heap.size W (W.alloc (.cells zero32 53)) := (Below.refl _ _).alloc (Nat.le_refl _) _
  have hll : L.data.toList.length = 32 := by rw [lenL, hL]
  have hk : (L.data.toList.take 32).map B = L.data.toList.map B := by rw [List.take_of_length_le (by omega)]
  have c := run_copy_min (P := Tryd.prog) (W.alloc (.cells zero32 53)) 54 9 3 5 W.heap.size 0 32 32 32 L Tryd.underlying54 sizeOf8 (by rw [hL]; rfl) (fun j hj => (ht j hj).1) (fun j hj => (ht j hj).2)
  rw [hk] at c
  refine ⟨_, c, World.rangeAt_setCells_same _ _ _ _ (by rw [List.length_map, hll]; exact ht), World.there_setCells ht _ _ _, common.below_setCells hb (Nat.le_refl _) _ _⟩

set_option maxRecDepth 100000 in
set_option maxHeartbeats 1600000 in
theorem stretch_bad (p s : ByteArray) (n : Int) (w : World) (hn : ¬ (1 ≤ n ∧ n ≤ 1000)) (e : Nat → Addr) (he : Errs w e) :
    Calls Tryd.prog 11 #[.string p, .string s, .int .i64 n] w fun x w' => x = .returned (.tuple #[.string ⟨#[]⟩, E e 0]) ∧ Below w.heap.size w w' := by
  have ce : w.cell? ⟨0, 0, none⟩ = some (E e 0) := he.cell 0 (by decide)
  clear he
  by_cases h1 : n < 1
  · go_enter Tryd.func11, Tryd.ntmps11
    go_wp2_with fail
    go_region
    go_wp2
    go_ret2
    exact ⟨rfl, (Below.refl _ _).drew⟩
  · have h2 : 1000 < n := by omega
    go_enter Tryd.func11, Tryd.ntmps11
    go_wp2_with fail
    go_region
    go_wp2
    go_ret2
    exact ⟨rfl, (Below.refl _ _).drew⟩

set_option maxRecDepth 100000 in
set_option maxHeartbeats 3200000 in
theorem stretch_good (p s : ByteArray) (m : Nat) (w : World) (hm : m ≤ 999) (hp : p.size ≤ 281474976710656) (hs : s.size ≤ 140737488351232) (hr : RW w) (hf : FW w) :
    Calls Tryd.prog 11 #[.string p, .string s, .int .i64 ((m : Int) + 1)] w fun x w' => x = .returned (.tuple #[.string ⟨(foldOf p.data.toList s.data.toList m).toArray⟩, .nilIface]) ∧ Below w.heap.size w w' := by
  have HR := hide hr
  have HF := hide hf
  have HP := hide hp
  have hz := zeroKeyed
  have hz32 := zero32_run
  have hneg : ¬ (9223372036854775807 < s.size + 4) := by omega
  have hS4 : (s ++ (⟨#[0, 0, 0, 1]⟩ : ByteArray)).size ≤ 281474976710656 := by rw [ByteArray.size_append]; show s.size + 4 ≤ _; omega
  have hSL : (s ++ (⟨#[0, 0, 0, 1]⟩ : ByteArray)).data.toList = s.data.toList ++ [0, 0, 0, 1] := by simp
  obtain ⟨S4, hZ⟩ : ∃ Z, s ++ (⟨#[0, 0, 0, 1]⟩ : ByteArray) = Z := ⟨_, rfl⟩
  rw [hZ] at hS4 hSL
  have HS4 := hide hS4
  have HSL := hide hSL
  clear hS4 hSL
  clear hr hf hp
  go_enter Tryd.func11, Tryd.ntmps11
  go_wp2_with fail
  refine (takeKey_any p w (by have := HP.out; omega) HR.out HF.out).mono ?_
  rintro x w1 ⟨cs, rfl, hkv, hb1⟩
  have hll := hkv.length
  have hI1 : (Tryd.prog.info? 50).map (·.size) = some cs.length := by rw [hll]; exact sizeKeyed
  have hI2 : (Tryd.prog.info? 50).map (·.size) = some cs.toArray.size := by rw [List.size_toArray]; exact hI1
  have hls : cs.toArray.size = 146 := by rw [List.size_toArray, hll]
  have HI1 := hide hI1
  have HI2 := hide hI2
  have HKV := hide hkv
  have HT1 : Hid ((w1.alloc (.cells zeroKey 50)).there w1.heap.size 0 cs.toArray.size) := by rw [hls]; exact there_new_at w1 _ _ _ 146 rfl rfl
  have hRS : ((w1.alloc (.cells zeroKey 50)).setCells w1.heap.size 0 cs.toArray.toList).rangeAt w1.heap.size 0 cs := by
    have := World.rangeAt_setCells_same (w1.alloc (.cells zeroKey 50)) w1.heap.size 0 cs (by rw [hll, ← hls]; exact HT1.out)
    simpa using this
  have HRS := hide hRS
  have HBS : Hid (RowKit.Below w1.heap.size w1 ((w1.alloc (.cells zeroKey 50)).setCells w1.heap.size 0 cs.toArray.toList)) := common.below_setCells ((Below.refl _ _).alloc (Nat.le_refl _) _) (Nat.le_refl _) _ _
  have HB1 := hide hb1
  clear hkv hb1 hll hI1 hI2 hls hRS
  go_wp2_with (first | (refine wpList_store_mid rfl 50 (.tmp 8) (.tmp 20) rfl w1.heap.size 0 cs.toArray rfl rfl HT1.out HI2.out HKV.out.one ?_) | (refine wpList_load_mid rfl 50 (.tmp 8) rfl w1.heap.size 0 rfl cs _ HRS.out Tryd.underlying50 rfl HI1.out ?_))
  have hWs : (w1.alloc (.cells zeroKey 50)).setCells w1.heap.size 0 cs.toArray.toList = (w1.alloc (.cells zeroKey 50)).setCells w1.heap.size 0 cs := by simp
  rw [hWs] at HRS HBS
  clear hWs HT1 hneg hZ
  generalize (w1.alloc (.cells zeroKey 50)).setCells w1.heap.size 0 cs = W1 at *
  have HBW : Hid (RowKit.Below w.heap.size w W1) := HB1.out.trans (HBS.out.mono HB1.out.size)
  have HGK : Hid (w1.heap.size < W1.heap.size) := range_lt HRS.out (by rw [HKV.out.length]; decide)
  have HGW : Hid (w.heap.size ≤ w1.heap.size) := HB1.out.size
  clear HBS HB1
  generalize w1.heap.size = gK at *
  refine (sign_any cs _ _ S4 W1 (by rw [blk_len]; have := HS4.out; omega) (by rw [blk_len]; decide) HKV.out (HR.out.below HBW.out HR.out.lt)).mono ?_
  rintro x w2 ⟨rfl, hb2⟩
  have HL0 : Hid (Sha.digest (blk (shortKey p.data.toList) 0x5c ++ Sha.digest (blk (shortKey p.data.toList) 0x36 ++ S4.data.toList)) = linkOf p.data.toList s.data.toList 0) := by
    show _ = _
    rw [HSL.out]; rfl
  rw [HL0.out]
  have HB2 : Hid (RowKit.Below w.heap.size w w2) := HBW.out.trans (hb2.mono HBW.out.size)
  have HRK2 := hide (range_below HRS.out hb2 HGK.out)
  have HG2 : Hid (gK < w2.heap.size) := Nat.lt_of_lt_of_le HGK.out hb2.size
  clear hb2 HBW HRS HGK HL0
  have hLl : (⟨(linkOf p.data.toList s.data.toList 0).toArray⟩ : ByteArray).data.toList = linkOf p.data.toList s.data.toList 0 := rfl
  generalize (⟨(linkOf p.data.toList s.data.toList 0).toArray⟩ : ByteArray) = L0 at *
  obtain ⟨W3, hcp, r3, t3, b3⟩ := copy32 w2 L0 (by rw [← lenL, hLl, linkOf_len])
  rw [hLl] at r3
  have HLL := hide hLl
  have R3 := hide r3
  have T3 := hide t3
  have HB3 : Hid (RowKit.Below w.heap.size w W3) := HB2.out.trans (b3.mono HB2.out.size)
  have HRK3 := hide (range_below HRK2.out b3 HG2.out)
  have HGA : Hid (w.heap.size ≤ w2.heap.size ∧ gK < w2.heap.size) := ⟨HB2.out.size, HG2.out⟩
  clear hLl r3 t3 b3 HB2 HRK2 HG2
  go_wp2_with fail
  clear hcp
  generalize w2.heap.size = gA at *
  go_loopw [9, 30] (fun v i wr => ∃ k : Nat, k ≤ m ∧ i = .int .i64 k ∧ (∃ L : ByteArray, v = .string L ∧ L.data.toList = linkOf p.data.toList s.data.toList k) ∧ wr.rangeAt gA 0 ((foldOf p.data.toList s.data.toList k).map B) ∧ wr.there gA 0 32 ∧ wr.rangeAt gK 0 cs ∧ RowKit.Below w.heap.size w wr) (fun _ i _ => m - (intOf i).toNat)
  case atStart => exact ⟨0, Nat.zero_le _, rfl, ⟨L0, rfl, HLL.out⟩, R3.out, T3.out, HRK3.out, HB3.out⟩
  case round =>
    obtain ⟨k, hk, rfl, ⟨L, rfl, hL⟩, rA, tA, rK, hB⟩ := hrel
    have HL := hide hL
    have RA := hide rA
    have TA := hide tA
    have RK := hide rK
    have HB := hide hB
    clear hL rA tA rK hB
    by_cases hlt : k < m
    · have hki : (k : Int) < (m : Int) := by omega
      have HLs : Hid (L.size = 32) := by show _ = _; rw [← lenL, HL.out, linkOf_len]
      go_wp2_with (refine wpList_load_mid rfl 50 (.tmp 8) rfl gK 0 rfl cs _ RK.out Tryd.underlying50 rfl HI1.out ?_)
      refine (sign_any cs _ _ L wr (by rw [blk_len]; have := HLs.out; omega) (by rw [blk_len]; decide) HKV.out (HR.out.below HB.out HR.out.lt)).mono ?_
      rintro x w4 ⟨rfl, hb4⟩
      have HN : Hid (Sha.digest (blk (shortKey p.data.toList) 0x5c ++ Sha.digest (blk (shortKey p.data.toList) 0x36 ++ L.data.toList)) = linkOf p.data.toList s.data.toList (k + 1)) := by
        show _ = _
        rw [HL.out]; rfl
      rw [HN.out]
      have gAl : gA < wr.heap.size := there_lt TA.out (by decide)
      have gKl : gK < wr.heap.size := range_lt RK.out (by rw [HKV.out.length]; decide)
      have HB4 : Hid (RowKit.Below w.heap.size w w4) := HB.out.trans (hb4.mono HB.out.size)
      have RA4 := hide (range_below RA.out hb4 gAl)
      have TA4 := hide (there_below TA.out hb4 gAl)
      have RK4 := hide (range_below RK.out hb4 gKl)
      clear hb4 gAl gKl HN RA TA RK HB HLs HL
      have hLl : (⟨(linkOf p.data.toList s.data.toList (k + 1)).toArray⟩ : ByteArray).data.toList = linkOf p.data.toList s.data.toList (k + 1) := rfl
      have hLs : (⟨(linkOf p.data.toList s.data.toList (k + 1)).toArray⟩ : ByteArray).size = 32 := by rw [szL, linkOf_len]
      generalize (⟨(linkOf p.data.toList s.data.toList (k + 1)).toArray⟩ : ByteArray) = N at *
      have HFE : Hid (foldOf p.data.toList s.data.toList (k + 1) = xorL (foldOf p.data.toList s.data.toList k) N.data.toList) := by show _ = _; rw [hLl]; rfl
      have HFL := hide (foldOf_len p.data.toList s.data.toList k)
      have HNL := hide hLl
      clear hLl
      generalize hF : foldOf p.data.toList s.data.toList k = F at *
      clear hF
      go_wp2_with fail
      go_loopw [35] (fun i wr => ∃ j : Nat, j ≤ 32 ∧ i = .int .i64 j ∧ wr.rangeAt gA 0 ((xorTo F N.data.toList j).map B) ∧ wr.there gA 0 32 ∧ wr.rangeAt gK 0 cs ∧ RowKit.Below w.heap.size w wr) (fun i _ => 32 - (intOf i).toNat)
      case atStart => exact ⟨0, Nat.zero_le _, rfl, by rw [xorTo_zero]; exact RA4.out, TA4.out, RK4.out, HB4.out⟩
      case round =>
        obtain ⟨j, hj, rfl, rA, tA, rK, hB⟩ := hrel
        by_cases hj32 : j < 32
        · have hjl : j < F.length := by rw [HFL.out]; exact hj32
          have hjN : j < N.size := by omega
          have c0 := byte_cell rA j (by rw [xorTo_len]; exact hjl)
          rw [xorTo_getD _ _ _ _ hjl, if_neg (by omega)] at c0
          have f0 : wr.frozen? ⟨gA, j, none⟩ = false := by simpa using (tA j hj32).2
          have hNj : N.data.toList.getD j 0 = N[j] := by
            have hh : j < N.data.toList.length := by rw [lenL]; exact hjN
            rw [List.getD_eq_getElem?_getD, List.getElem?_eq_getElem hh]; rfl
          have hx := xor8 (F.getD j 0) N[j]
          have HS1 : Hid ((xorTo F N.data.toList (j + 1)).map B = ((xorTo F N.data.toList j).map B).set j (B (F.getD j 0 ^^^ N[j]))) := by
            show _ = _
            rw [← xorTo_set F N.data.toList j hjl, hNj, List.map_set]
          have R1 : Hid ((wr.setCell ⟨gA, j, none⟩ (B (F.getD j 0 ^^^ N[j]))).rangeAt gA 0 ((xorTo F N.data.toList (j + 1)).map B)) := by
            show World.rangeAt _ _ _ _
            rw [HS1.out]
            have := range_set rA j (by rw [List.length_map, xorTo_len]; exact hjl) (B (F.getD j 0 ^^^ N[j]))
            rw [Nat.zero_add] at this
            exact this
          have RK1 : Hid ((wr.setCell ⟨gA, j, none⟩ (B (F.getD j 0 ^^^ N[j]))).rangeAt gK 0 cs) := range_other rK _ (Or.inl (by have := HGA.out.2; show gA ≠ gK; omega)) _
          have TA1 := hide tA
          have HB5 := hide hB
          have l0 : (0 : Int) ≤ (j : Int) := Int.natCast_nonneg _
          have l1 : (j : Int) < 32 := by omega
          clear rA tA rK hB hNj HS1
          generalize F.getD j 0 ^^^ N[j] = y at *
          generalize F.getD j 0 = x at *
          go_wp2_with fail
          go_region
          go_wp2
          go_roundw
          case rel =>
            have R1' := R1.out
            have RK1' := RK1.out
            refine ⟨j + 1, by omega, by go_num, ?_, there_drew (there_set TA1.out _ _), ?_, (HB5.out.setCell (by have := HGA.out.1; exact this) _).drew⟩
            · exact range_drew R1'
            · exact range_drew RK1'
          case measure => simp [intOf]; omega
        · obtain rfl : j = 32 := by omega
          have HX : Hid (xorTo F N.data.toList 32 = foldOf p.data.toList s.data.toList (k + 1)) := by
            show _ = _
            have := xorTo_all F N.data.toList (by rw [lenL, HFL.out]; exact hLs)
            rw [HFL.out] at this
            rw [this, HFE.out]
          rw [HX.out] at rA
          have RA5 := hide rA
          have TA5 := hide tA
          have RK5 := hide rK
          have HB5 := hide hB
          clear rA tA rK hB
          go_wp2_with fail
          go_roundw
          case rel => exact ⟨k + 1, by omega, by go_num, ⟨N, rfl, HNL.out⟩, RA5.out, TA5.out, RK5.out, HB5.out⟩
          case measure => simp [intOf]; omega
    · obtain rfl : k = m := by omega
      have hki : ¬ (k : Int) < (k : Int) := by omega
      have hconv : (convert 54 9 (.slice (some ⟨gA, 0, none⟩) 32 32)).run Tryd.prog wr = .ok (.string ⟨(foldOf p.data.toList s.data.toList k).toArray⟩) wr := conv32 RA.out (foldOf_len _ _ _)
      go_wp2_with fail
      go_ret2
      exact ⟨rfl, HB.out⟩

end Go.Proofs.YtpmmbnlfifbcfaaDoor.shaw
