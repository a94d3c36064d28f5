import Derived.Test.YtgmgffcfmopgmaaDoorRdKit
import Derived.Test.YtgmgffcfmopgmaaDoorCrcP
import Derived.Test.YtgmgffcfmopgmaaDoorWlMath
import Derived.Deep.RegionHeld3
import Derived.Test.YtgmgffcfmopgmaaDoorRows
import Derived.Laws.StructEq
namespace Go.Proofs.YtgmgffcfmopgmaaDoor.wl
open Go.ChangeShapes Go.WideShapes Go.ChangeAt Go.RowKit Go.Proofs.YtgmgffcfmopgmaaDoor.common Go.Proofs.YtgmgffcfmopgmaaDoor.dk

theorem fits_any (n : Nat) (w : World) (hn : n ≤ 4611686018427387904) : Calls Tryd.prog 64 #[.int .i64 (n : Int)] w fun e w' => e = .returned (.bool (Wl.fit n)) ∧ w' = w := by
  by_cases h1 : 1 ≤ n
  · by_cases h2 : n ≤ 8192
    · have hf : Wl.fit n = true := by simp [Wl.fit, h1, h2]
      have e1 : decide ((n : Int) ≥ 1) = true := by rw [decide_eq_true_eq]; omega
      have e2 : decide ((n : Int) ≤ 8192) = true := by rw [decide_eq_true_eq]; omega
      rw [hf]
      go_enter Tryd.func64, Tryd.ntmps64
      go_wp2
      go_ret
      exact ⟨by simp, rfl⟩
    · have hf : Wl.fit n = false := by simp [Wl.fit]; omega
      rw [hf]
      go_enter Tryd.func64, Tryd.ntmps64
      go_wp2
      go_ret
      exact ⟨by simp; omega, rfl⟩
  · have hf : Wl.fit n = false := by simp [Wl.fit]; omega
    rw [hf]
    go_enter Tryd.func64, Tryd.ntmps64
    go_wp2
    go_ret
    exact ⟨by simp, rfl⟩

theorem set_here {w : World} {g : Nat} {cur : List Value} {t : TypeId} (hc : w.heap[g]? = some (.cells cur.toArray t (0, 0))) (o : Nat) (v : Value) : (w.setCell ⟨g, o, none⟩ v).heap[g]? = some (.cells (cur.set o v).toArray t (0, 0)) := by
  simp [World.setCell, Array.getElem?_modify, hc]

/-- behind k rounds -/
def wn (cur : List Value) (o x k : Nat) : List Value := cur.take (o + 4 - k) ++ (((Wl.num4 x).drop (4 - k)).map B ++ cur.drop (o + 4))

theorem wn_set (cur : List Value) (o x k : Nat) (hk : k < 4) (hc : o + 4 ≤ cur.length) : (wn cur o x k).set (o + (3 - k)) (B ((Wl.num4 x).getD (3 - k) 0)) = wn cur o x (k + 1) := by
  unfold wn
  have e1 : o + (3 - k) < (cur.take (o + 4 - k)).length := by rw [List.length_take]; omega
  rw [List.set_append_left _ _ e1]
  have e2 : o + 4 - k = o + (3 - k) + 1 := by omega
  have e3 : o + 4 - (k + 1) = o + (3 - k) := by omega
  have e4 : (Wl.num4 x).drop (4 - (k + 1)) = [(Wl.num4 x).getD (3 - k) 0] ++ (Wl.num4 x).drop (4 - k) := by
    have : ∀ j : Nat, j < 4 → (Wl.num4 x).drop (4 - (j + 1)) = [(Wl.num4 x).getD (3 - j) 0] ++ (Wl.num4 x).drop (4 - j) := by
      intro j hj
      match j, hj with
      | 0, _ => rfl
      | 1, _ => rfl
      | 2, _ => rfl
      | 3, _ => rfl
    exact this k hk
  rw [e3, e4, e2, List.map_append, List.append_assoc]
  rw [List.take_succ_eq_append_getElem (by omega), List.set_append_right _ _ (by rw [List.length_take]; omega)]
  have e5 : o + (3 - k) - (cur.take (o + (3 - k))).length = 0 := by rw [List.length_take]; omega
  rw [e5]
  simp

theorem num_at (x k : Nat) (hk : k < 4) : Value.int .u8 ((((x / 256 ^ k : Nat) : Int)) % 256) = B ((Wl.num4 x).getD (3 - k) 0) := by
  match k, hk with
  | 0, _ => show Value.int .u8 _ = Value.int .u8 _; congr 1; simp [Wl.num4]
  | 1, _ => show Value.int .u8 _ = Value.int .u8 _; congr 1
  | 2, _ => show Value.int .u8 _ = Value.int .u8 _; congr 1
  | 3, _ => show Value.int .u8 _ = Value.int .u8 _; congr 1

set_option maxRecDepth 100000 in
set_option maxHeartbeats 800000 in
theorem writeNumber_any (w : World) (g o c x : Nat) (hx : x < 4294967296) (cur : List Value) (t : TypeId) (hc : w.heap[g]? = some (.cells cur.toArray t (0, 0))) (ho : o + 4 ≤ cur.length) :
    Calls Tryd.prog 78 #[.slice (some ⟨g, o, none⟩) 4 c, .int .u32 (x : Int)] w fun e w' => e = .returned (.tuple #[]) ∧ w'.heap[g]? = some (.cells (wn cur o x 4).toArray t (0, 0)) ∧ Fr [g] w w' := by
  go_enter Tryd.func78, Tryd.ntmps78
  go_wp2
  go_loopw [7] (fun i wr => ∃ k : Nat, k ≤ 4 ∧ i = .int .i64 k ∧ wr.heap[g]? = some (.cells (wn cur o x k).toArray t (0, 0)) ∧ Fr [g] w wr) (fun i _ => 4 - (intOf i).toNat)
  case atStart => exact ⟨0, Nat.zero_le _, rfl, by rw [hc]; simp [wn, Wl.num4], Fr.refl _ _⟩
  case round =>
    obtain ⟨k, hk, rfl, hh, hf⟩ := hrel
    by_cases hlt : k < 4
    · have hl : (wn cur o x k).length = cur.length := by simp [wn, Wl.num4]; omega
      have fr : ∀ j, wr.frozen? ⟨g, j, none⟩ = false := fun j => free_of hh j
      have ce : ∀ j, j < 4 → ∃ y, wr.cell? ⟨g, o + j, none⟩ = some y := fun j hj => by
        have : o + j < (wn cur o x k).length := by omega
        exact ⟨(wn cur o x k)[o + j], by simp [World.cell?, hh, this]⟩
      obtain ⟨y0, c0⟩ := ce 0 (by omega)
      obtain ⟨y1, c1⟩ := ce 1 (by omega)
      obtain ⟨y2, c2⟩ := ce 2 (by omega)
      obtain ⟨y3, c3⟩ := ce 3 (by omega)
      rw [Nat.add_zero] at c0
      have f0 := fr o
      have f1 := fr (o + 1)
      have f2 := fr (o + 2)
      have f3 := fr (o + 3)
      have HN := hide (num_at x k hlt)
      have HS := hide (wn_set cur o x k hlt ho)
      have HH := hide hh
      have HF := hide hf
      clear hh hf hc fr ce hl
      obtain rfl | rfl | rfl | rfl : k = 0 ∨ k = 1 ∨ k = 2 ∨ k = 3 := by omega
      · go_wp2
        go_roundw
        case rel =>
          refine ⟨1, by decide, by go_num, ?_, HF.out.set _ _ (Or.inl (by simp))⟩
          rw [set_here HH.out, ← HS.out, ← HN.out]
          first | rfl | (congr 4; go_num)
        case measure => simp [intOf]
      · go_wp2
        go_roundw
        case rel =>
          refine ⟨2, by decide, by go_num, ?_, HF.out.set _ _ (Or.inl (by simp))⟩
          rw [set_here HH.out, ← HS.out, ← HN.out]
          first | rfl | (congr 4; go_num)
        case measure => simp [intOf]
      · go_wp2
        go_roundw
        case rel =>
          refine ⟨3, by decide, by go_num, ?_, HF.out.set _ _ (Or.inl (by simp))⟩
          rw [set_here HH.out, ← HS.out, ← HN.out]
          first | rfl | (congr 4; go_num)
        case measure => simp [intOf]
      · go_wp2
        go_roundw
        case rel =>
          refine ⟨4, by decide, by go_num, ?_, HF.out.set _ _ (Or.inl (by simp))⟩
          rw [set_here HH.out, ← HS.out, ← HN.out]
          first | rfl | (congr 4; go_num)
        case measure => simp [intOf]
    · obtain rfl : k = 4 := by omega
      have HH := hide hh
      have HF := hide hf
      clear hh hf hc
      go_wp2
      go_end0
      exact ⟨rfl, HH.out, HF.out⟩

end Go.Proofs.YtgmgffcfmopgmaaDoor.wl

namespace Go.Proofs.YtgmgffcfmopgmaaDoor.crcw
open Go.ChangeShapes Go.WideShapes Go.ChangeAt Go.RowKit

theorem gTab : Tryd.prog.globalNamed "usher/sums.crcSteps" = some 13 := by kernel_rfl
theorem gTabType : (Tryd.prog.globals[13]?).map (·.type) = some 118 := by kernel_rfl
theorem cellsT : Tryd.prog.cellsOf 118 = 16 := by kernel_rfl
theorem cellsE : Tryd.prog.cellsOf 110 = 1 := by kernel_rfl

theorem tab {W : World} {rest : List (String × DataW Unit)} (h : laidMet Tryd.prog (("usher/sums.crcSteps", Rows.laid_usher_sums_crcSteps) :: rest) W) : Tab W := by
  have t : Lib.TabIs Tryd.prog W "usher/sums.crcSteps" .u32 [0, 498536548, 997073096, 651767980, 1994146192, 1802195444, 1303535960, 1342533948, 3988292384, 4027552580, 3604390888, 3412177804, 2607071920, 2262029012, 2685067896, 3183342108] :=
    Lib.tabIs_of_head (rest := rest) gTab gTabType Tryd.underlying118 Tryd.underlying110 cellsE cellsT h
  intro i hi
  have h1 := t.cell gTab i (by simpa using hi)
  rw [h1]
  have e : ∀ k : Fin 16, ([0, 498536548, 997073096, 651767980, 1994146192, 1802195444, 1303535960, 1342533948, 3988292384, 4027552580, 3604390888, 3412177804, 2607071920, 2262029012, 2685067896, 3183342108] : List Int).getD k.val 0 = ((Crc.table.getD k.val 0#32).toNat : Int) := by decide
  rw [e ⟨i, hi⟩]

/-- the table's block is there -/
theorem Tab.lt {w : World} (h : Tab w) : 13 < w.heap.size := by
  have := h 0 (by decide)
  apply Decidable.byContradiction
  intro hn
  simp [World.cell?, Array.getElem?_eq_none (show w.heap.size ≤ 13 by omega)] at this

theorem Tab.below {w w' : World} {B : Nat} (h : Tab w) (hb : Below B w w') (hB : 13 < B) : Tab w' := fun i hi => by
  rw [← h i hi]
  exact hb.cell hB

theorem Tab.alloc {w : World} (h : Tab w) (o : Obj) : Tab (w.alloc o) := h.below ((Below.refl w.heap.size w).alloc (Nat.le_refl _) o) h.lt

end Go.Proofs.YtgmgffcfmopgmaaDoor.crcw

namespace Go.Proofs.YtgmgffcfmopgmaaDoor.wl
open Go.ChangeShapes Go.WideShapes Go.ChangeAt Go.RowKit Go.Proofs.YtgmgffcfmopgmaaDoor.common Go.Proofs.YtgmgffcfmopgmaaDoor.dk

theorem sizeHead : (Tryd.prog.info? 98).map (·.size) = some 8 := by kernel_rfl
def zz : List Value := [.int .u8 0, .int .u8 0, .int .u8 0, .int .u8 0, .int .u8 0, .int .u8 0, .int .u8 0, .int .u8 0]
theorem wn_len (cur : List Value) (o x : Nat) (h : o + 4 ≤ cur.length) : (wn cur o x 4).length = cur.length := by simp [wn, Wl.num4]; omega
theorem wn_hd (p : List UInt8) : wn (wn zz 0 p.length 4) 4 (Wl.csum p) 4 = (Wl.hd p).map B := rfl
theorem csum_more (p : List UInt8) : (Crc.more (Crc.more 0#32 (Wl.num4 p.length)) p).toNat = Wl.csum p := by
  unfold Wl.csum; rw [Crc.more_append]
theorem b_one (l : List UInt8) : ∀ v ∈ l.map B, v.oneCell' = true := by
  intro v hv
  obtain ⟨x, _, rfl⟩ := List.mem_map.1 hv
  rfl
theorem hd_size (p : List UInt8) : ((Wl.hd p).map B).toArray.size = 8 := by simp [Wl.hd_len]

set_option maxRecDepth 100000 in
set_option maxHeartbeats 1600000 in
theorem headOf_any (w : World) (v : Value) (p : List UInt8) (h : Rd w v p) (hp : p.length ≤ 8192) (ht : crcw.Tab w) :
    Calls Tryd.prog 65 #[v] w fun e w' => e = .returned (.agg ((Wl.hd p).map B).toArray) ∧ Below w.heap.size w w' := by
  have HR := hide h
  obtain ⟨oa, cap, rfl, _⟩ := h
  have hcv : (p.length : Int) % 4294967296 = (p.length : Int) := by omega
  have HP := hide hp
  have HT := hide ht
  clear hp ht
  go_enter Tryd.func65, Tryd.ntmps65
  go_wp2_with fail
  obtain ⟨W, hW⟩ : ∃ W, W = (w.alloc (.cells #[.int .u8 0, .int .u8 0, .int .u8 0, .int .u8 0, .int .u8 0, .int .u8 0, .int .u8 0, .int .u8 0] 98)).alloc (.cells #[.int .u8 0, .int .u8 0, .int .u8 0, .int .u8 0, .int .u8 0, .int .u8 0, .int .u8 0, .int .u8 0] 98) := ⟨_, rfl⟩
  have hb0 : Below w.heap.size w W := by rw [hW]; exact ((Below.refl _ w).alloc (Nat.le_refl _) _).alloc (by simp) _
  have hg1 : W.heap[w.heap.size + 1]? = some (.cells zz.toArray 98 (0, 0)) := by
    rw [hW]
    have := heap_alloc_new (w.alloc (.cells zz.toArray 98)) (.cells zz.toArray 98)
    rwa [show (w.alloc (.cells zz.toArray 98)).heap.size = w.heap.size + 1 from Array.size_push ..] at this
  have hg0 : W.heap[w.heap.size]? = some (.cells zz.toArray 98 (0, 0)) := by
    rw [hW]
    exact (heap_alloc_old _ _ (by show w.heap.size < (w.heap.push _).size; rw [Array.size_push]; omega)).trans (heap_alloc_new _ _)
  have hsz : W.heap.size = w.heap.size + 2 := by rw [hW]; simp
  rw [← hW]
  clear hW
  refine (writeNumber_any W (w.heap.size + 1) 0 8 p.length (by have := HP.out; omega) zz 98 hg1 (by decide)).mono ?_
  rintro r w1 ⟨rfl, h1, hf1⟩
  have hb1 : Below w.heap.size w w1 := hb0.trans (hf1.below (fun k hk => by simp at hk; omega) (by omega))
  have hz0 : w1.heap[w.heap.size]? = some (.cells zz.toArray 98 (0, 0)) := (hf1.block _ (by omega) (by simp)).trans hg0
  have hs1 : w.heap.size + 2 ≤ w1.heap.size := by have := hf1.size; omega
  have HRN : Hid (Rd w1 (.slice (some ⟨w.heap.size + 1, 0, none⟩) 4 8) (Wl.num4 p.length)) := ⟨_, 8, rfl, fun _ => ⟨_, 0, rfl, by omega, fun j u hu => by
    have hj : j < 4 := by have := (List.getElem?_eq_some_iff.1 hu).1; simpa [Wl.num4] using this
    rw [Nat.zero_add]
    simp only [World.cell?, h1]
    have : (wn zz 0 p.length 4)[j]? = ((Wl.num4 p.length).map B)[j]? := by
      unfold wn
      simp only [Nat.zero_add, Nat.sub_self, List.take_zero, List.nil_append, List.drop_zero]
      rw [List.getElem?_append_left (by simpa [Wl.num4] using hj)]
    simp [this, hu]⟩⟩
  have HC1 : Hid (∀ Y, Below w1.heap.size w1 Y → (convert 22 9 (.slice (some ⟨w.heap.size + 1, 0, none⟩) 4 8)).run Tryd.prog Y = .ok (.string ⟨(Wl.num4 p.length).toArray⟩) Y) := fun Y hY => conv_rd (HRN.out.below hY)
  have HC2 : Hid (∀ Y, Below w1.heap.size w1 Y → (convert 22 9 (.slice oa p.length cap)).run Tryd.prog Y = .ok (.string ⟨p.toArray⟩) Y) := fun Y hY => conv_rd ((HR.out.below hb1).below hY)
  have hc1 := HC1.out
  have hc2 := HC2.out
  have HTW : Hid (∀ Y, Below w1.heap.size w1 Y → crcw.Tab Y) := fun Y hY => (HT.out.below hb1 HT.out.lt).below hY (by have := HT.out.lt; have := hb1.size; omega)
  have HK1 : Hid (∀ Y, Below w1.heap.size w1 Y → Calls Tryd.prog 80 #[.string ⟨(Wl.num4 p.length).toArray⟩] Y fun e w' => e = .returned (crcw.V (Crc.more 0#32 (Wl.num4 p.length))) ∧ w' = Y) := fun Y hY => crcw.crc_any ⟨(Wl.num4 p.length).toArray⟩ Y (by show (4 : Nat) ≤ maxLen; decide) (HTW.out Y hY)
  have HK2 : Hid (∀ Y, Below w1.heap.size w1 Y → Calls Tryd.prog 79 #[crcw.V (Crc.more 0#32 (Wl.num4 p.length)), .string ⟨p.toArray⟩] Y fun e w' => e = .returned (crcw.V (Crc.more (Crc.more 0#32 (Wl.num4 p.length)) p)) ∧ w' = Y) := fun Y hY => crcw.crcMore_any _ ⟨p.toArray⟩ Y (by have := HP.out; show p.length ≤ maxLen; unfold maxLen; omega) (HTW.out Y hY)
  have HH1 := hide h1
  have HZ0 := hide hz0
  have HB1 := hide hb1
  have HS1 := hide hs1
  clear h1 hz0 hb1 hg1 hg0 hb0 hf1 HRN HC1 HC2
  go_wp2_with fail
  go_region_held3 (fun Y => Below w1.heap.size w1 Y)
    (first
      | exact Below.refl _ _
      | assumption
      | exact Below.drew (by assumption)
      | exact (Below.refl _ _).drew)
    (first
      | (go_at_call 80; with_reducible refine (HK1.out _ (by assumption)).mono ?_; rintro x w5 ⟨rfl, rfl⟩)
      | (go_at_call 79; with_reducible refine (HK2.out _ (by assumption)).mono ?_; rintro x w5 ⟨rfl, rfl⟩))
  have ev := csum_more p
  have hcl := Wl.csum_lt p
  simp only [crcw.V, ev]
  clear ev hc1 hc2 HK1 HK2 HTW
  go_wp2_with fail
  refine (writeNumber_any w1.drew (w.heap.size + 1) 4 4 (Wl.csum p) hcl (wn zz 0 p.length 4) 98 HH1.out (by rw [wn_len _ _ _ (by decide)]; decide)).mono ?_
  rintro r w2 ⟨rfl, h2, hf2⟩
  rw [wn_hd] at h2
  have hs1 := HS1.out
  have hz2 : w2.heap[w.heap.size]? = some (.cells zz.toArray 98 (0, 0)) := (hf2.block _ (by show _ < w1.heap.size; omega) (by simp)).trans HZ0.out
  have HB2 : Hid (Below w.heap.size w w2) := (HB1.out.drew).trans (hf2.below (fun k hk => by simp at hk; omega) (by show _ ≤ w1.heap.size; omega))
  have HRG : Hid (w2.rangeAt (w.heap.size + 1) 0 ((Wl.hd p).map B)) := range_of h2
  have HTH : Hid (w2.there w.heap.size 0 ((Wl.hd p).map B).toArray.size) := by
    show w2.there _ _ _
    rw [hd_size]
    exact there_of hz2 0 8 (by decide)
  have HZ2 := hide hz2
  clear h2 hz2 hf2 HH1 HZ0
  go_wp2_with (first
    | (refine wpList_load_mid rfl 98 (.tmp 3) rfl (w.heap.size + 1) 0 rfl _ _ HRG.out Tryd.underlying98 rfl ((sizeHead).trans (by simp [Wl.hd_len])) ?_)
    | (refine wpList_store_mid rfl 98 (.tmp 2) (.tmp 19) rfl w.heap.size 0 ((Wl.hd p).map B).toArray rfl rfl HTH.out ((sizeHead).trans (by rw [hd_size])) (all_oneCell_toArray (b_one _)) ?_))
  have h3 := sets_here HZ2.out ((Wl.hd p).map B) 0 (by rw [List.length_map, Wl.hd_len]; decide)
  rw [List.take_zero, List.nil_append, List.drop_eq_nil_of_le (by rw [List.length_map, Wl.hd_len]; decide), List.append_nil] at h3
  refine bodyPost_ret (results_c rfl _ rfl (range_of h3) Tryd.underlying98 rfl ((sizeHead).trans (by simp [Wl.hd_len]))) rfl ?_
  have hs2 := HB2.out.size
  exact ⟨rfl, HB2.out.trans (((Fr.refl [w.heap.size] w2).sets w.heap.size 0 _ (Or.inl (by simp))).below (fun k hk => by simp at hk; omega) hs2)⟩
end Go.Proofs.YtgmgffcfmopgmaaDoor.wl

namespace Go.Proofs.YtgmgffcfmopgmaaDoor.wl
open Go.ChangeShapes Go.WideShapes Go.ChangeAt Go.RowKit Go.Proofs.YtgmgffcfmopgmaaDoor.common Go.Proofs.YtgmgffcfmopgmaaDoor.dk

theorem i64_or_nat (a b : Nat) (ha : a < 4611686018427387904) (hb : b < 4611686018427387904) : bits .or .i64 (a : Int) (b : Int) = ((a ||| b : Nat) : Int) := by
  have hx : a ||| b < 2 ^ 62 := Nat.or_lt_two_pow (by omega) (by omega)
  show IntKind.i64.wrap ((BitVec.ofInt 64 (a : Int) ||| BitVec.ofInt 64 (b : Int)).toNat : Int) = _
  rw [BitVec.toNat_or, ofInt_u64 a (by omega), ofInt_u64 b (by omega)]
  generalize a ||| b = c at *
  rw [IntKind.wrap_i64]
  omega
theorem or_256 (a : Nat) (c : UInt8) (ha : a < 16777216) : bits .or .i64 ((a : Int) * 256) (c.toNat : Int) = ((a * 256 + c.toNat : Nat) : Int) := by
  have hc := c.toNat_lt
  have e : ((a : Int) * 256) = ((a * 256 : Nat) : Int) := by omega
  rw [e, i64_or_nat _ _ (by omega) (by omega)]
  congr 1
  have := Nat.shiftLeft_add_eq_or_of_lt (a := a) (b := c.toNat) (i := 8) (by omega)
  rw [Nat.shiftLeft_eq] at this
  exact this.symm

set_option maxRecDepth 100000 in
set_option maxHeartbeats 1600000 in
theorem length_any (w : World) (a0 a1 a2 a3 a4 a5 a6 a7 : UInt8) :
    Calls Tryd.prog 70 #[.agg #[B a0, B a1, B a2, B a3, B a4, B a5, B a6, B a7]] w fun e w' => e = .returned (.int .i64 (Wl.val4 [a0, a1, a2, a3] : Int)) ∧ Below w.heap.size w w' := by
  have g0 := a0.toNat_lt
  have g1 := a1.toNat_lt
  have g2 := a2.toNat_lt
  have g3 := a3.toNat_lt
  obtain ⟨n1, h1⟩ : ∃ n, n = a0.toNat := ⟨_, rfl⟩
  obtain ⟨n2, h2⟩ : ∃ n, n = n1 * 256 + a1.toNat := ⟨_, rfl⟩
  obtain ⟨n3, h3⟩ : ∃ n, n = n2 * 256 + a2.toNat := ⟨_, rfl⟩
  obtain ⟨n4, h4⟩ : ∃ n, n = n3 * 256 + a3.toNat := ⟨_, rfl⟩
  have hv : Wl.val4 [a0, a1, a2, a3] = n4 := by
    show a0.toNat * 16777216 + a1.toNat * 65536 + a2.toNat * 256 + a3.toNat = n4
    omega
  rw [hv]
  have o0 : bits .or .i64 0 (a0.toNat : Int) = (n1 : Int) := by
    have := or_256 0 a0 (by decide)
    simp at this
    rw [h1]; exact this
  have o1 : bits .or .i64 ((n1 : Int) * 256) (a1.toNat : Int) = (n2 : Int) := by rw [or_256 n1 a1 (by omega), h2]
  have o2 : bits .or .i64 ((n2 : Int) * 256) (a2.toNat : Int) = (n3 : Int) := by rw [or_256 n2 a2 (by omega), h3]
  have o3 : bits .or .i64 ((n3 : Int) * 256) (a3.toNat : Int) = (n4 : Int) := by rw [or_256 n3 a3 (by omega), h4]
  have b1 : n1 ≤ 255 := by omega
  have b2 : n2 ≤ 65535 := by omega
  have b3 : n3 ≤ 16777215 := by omega
  clear h1 h2 h3 h4 hv
  go_enter Tryd.func70, Tryd.ntmps70
  go_wp2
  obtain ⟨W, hW⟩ : ∃ W, W = w.alloc (.cells #[B a0, B a1, B a2, B a3, B a4, B a5, B a6, B a7] 98) := ⟨_, rfl⟩
  have hh : W.heap[w.heap.size]? = some (.cells #[B a0, B a1, B a2, B a3, B a4, B a5, B a6, B a7] 98) := by rw [hW]; exact heap_alloc_new _ _
  have HB : Hid (Below w.heap.size w W) := by rw [hW]; exact (Below.refl _ _).alloc (Nat.le_refl _) _
  have c0 : W.cell? ⟨w.heap.size, 0, none⟩ = some (B a0) := cell_of hh 0
  have c1 : W.cell? ⟨w.heap.size, 1, none⟩ = some (B a1) := cell_of hh 1
  have c2 : W.cell? ⟨w.heap.size, 2, none⟩ = some (B a2) := cell_of hh 2
  have c3 : W.cell? ⟨w.heap.size, 3, none⟩ = some (B a3) := cell_of hh 3
  rw [← hW]
  clear hW hh
  go_loopw [3, 8] (fun n i wr => wr = W ∧ ((i = .int .i64 0 ∧ n = .int .i64 0) ∨ (i = .int .i64 1 ∧ n = .int .i64 (n1 : Int)) ∨ (i = .int .i64 2 ∧ n = .int .i64 (n2 : Int)) ∨ (i = .int .i64 3 ∧ n = .int .i64 (n3 : Int)) ∨ (i = .int .i64 4 ∧ n = .int .i64 (n4 : Int)))) (fun _ i _ => 4 - (intOf i).toNat)
  case atStart => exact ⟨rfl, Or.inl ⟨rfl, rfl⟩⟩
  case round =>
    obtain ⟨rfl, ⟨rfl, rfl⟩ | ⟨rfl, rfl⟩ | ⟨rfl, rfl⟩ | ⟨rfl, rfl⟩ | ⟨rfl, rfl⟩⟩ := hrel
    · go_wp2
      go_roundw
      case rel => exact ⟨trivial, Or.inr (Or.inl ⟨rfl, rfl⟩)⟩
      case measure => simp [intOf]
    · go_wp2
      go_roundw
      case rel => exact ⟨trivial, Or.inr (Or.inr (Or.inl ⟨rfl, rfl⟩))⟩
      case measure => simp [intOf]
    · go_wp2
      go_roundw
      case rel => exact ⟨trivial, Or.inr (Or.inr (Or.inr (Or.inl ⟨rfl, rfl⟩)))⟩
      case measure => simp [intOf]
    · go_wp2
      go_roundw
      case rel => exact ⟨trivial, Or.inr (Or.inr (Or.inr (Or.inr ⟨rfl, rfl⟩)))⟩
      case measure => simp [intOf]
    · go_wp2
      go_ret
      exact ⟨rfl, HB.out⟩
end Go.Proofs.YtgmgffcfmopgmaaDoor.wl

namespace Go.Proofs.YtgmgffcfmopgmaaDoor.wl
open Go.ChangeShapes Go.WideShapes Go.ChangeAt Go.RowKit Go.Proofs.YtgmgffcfmopgmaaDoor.common Go.Proofs.YtgmgffcfmopgmaaDoor.dk

set_option maxRecDepth 100000 in
set_option maxHeartbeats 1600000 in
theorem eq8 (a0 a1 a2 a3 a4 a5 a6 a7 b0 b1 b2 b3 b4 b5 b6 b7 : Int) (w : World) :
    (Op.equalIn 10000 98 (.agg #[.int .u8 a0, .int .u8 a1, .int .u8 a2, .int .u8 a3, .int .u8 a4, .int .u8 a5, .int .u8 a6, .int .u8 a7]) (.agg #[.int .u8 b0, .int .u8 b1, .int .u8 b2, .int .u8 b3, .int .u8 b4, .int .u8 b5, .int .u8 b6, .int .u8 b7])).run Tryd.prog w =
      .ok (decide ([a0, a1, a2, a3, a4, a5, a6, a7] = [b0, b1, b2, b3, b4, b5, b6, b7])) w := by
  have u := Tryd.underlying5
  have ag := Tryd.isAgg5
  have z := Tryd.sizeOf5
  rw [show (10000 : Nat) = 9999 + 1 from rfl, Op.equalIn]
  simp only [Sem.run_bind, run_underlying Tryd.underlying98, Result.andThen_ok]
  simp only [Std.Legacy.Range.forIn_eq_forIn_range', Std.Legacy.Range.size, Nat.sub_zero, Nat.add_sub_cancel, Nat.div_one, List.range'_succ, List.range'_zero, List.forIn_cons, List.forIn_nil]
  go_simp
  by_cases h0 : a0 = b0
  · by_cases h1 : a1 = b1
    · by_cases h2 : a2 = b2
      · by_cases h3 : a3 = b3
        · by_cases h4 : a4 = b4
          · by_cases h5 : a5 = b5
            · by_cases h6 : a6 = b6
              · by_cases h7 : a7 = b7
                · simp [h0, h1, h2, h3, h4, h5, h6, h7]
                · simp [h0, h1, h2, h3, h4, h5, h6, h7]
              · simp [h0, h1, h2, h3, h4, h5, h6]
            · simp [h0, h1, h2, h3, h4, h5]
          · simp [h0, h1, h2, h3, h4]
        · simp [h0, h1, h2, h3]
      · simp [h0, h1, h2]
    · simp [h0, h1]
  · simp [h0]

theorem eight {x : List UInt8} (h : x.length = 8) : ∃ a0 a1 a2 a3 a4 a5 a6 a7, x = [a0, a1, a2, a3, a4, a5, a6, a7] := by
  match x, h with
  | [a0, a1, a2, a3, a4, a5, a6, a7], _ => exact ⟨a0, a1, a2, a3, a4, a5, a6, a7, rfl⟩
theorem nat_u8 (a b : UInt8) : ((a.toNat : Int) = (b.toNat : Int)) = (a = b) := by
  apply propext
  constructor
  · intro h; exact UInt8.toNat_inj.mp (by omega)
  · rintro rfl; rfl
theorem neq8 (x y : List UInt8) (hx : x.length = 8) (hy : y.length = 8) (w : World) : (binOp .neq 98 (.agg (x.map B).toArray) (.agg (y.map B).toArray)).run Tryd.prog w = .ok (.bool (decide (¬ x = y))) w := by
  obtain ⟨a0, a1, a2, a3, a4, a5, a6, a7, rfl⟩ := eight hx
  obtain ⟨b0, b1, b2, b3, b4, b5, b6, b7, rfl⟩ := eight hy
  rw [run_neq_struct]
  have h : (Op.equalIn 10000 98 (.agg (List.map B [a0, a1, a2, a3, a4, a5, a6, a7]).toArray) (.agg (List.map B [b0, b1, b2, b3, b4, b5, b6, b7]).toArray)).run Tryd.prog w = _ := eq8 a0.toNat a1.toNat a2.toNat a3.toNat a4.toNat a5.toNat a6.toNat a7.toNat b0.toNat b1.toNat b2.toNat b3.toNat b4.toNat b5.toNat b6.toNat b7.toNat w
  rw [h]
  simp only [Result.andThen_ok, List.cons.injEq, nat_u8, and_true]
  simp
theorem eqh (x y : List UInt8) (hx : x.length = 8) (hy : y.length = 8) (w : World) : (Op.equalIn 10000 98 (.agg (x.map B).toArray) (.agg (y.map B).toArray)).run Tryd.prog w = .ok (decide (x = y)) w := by
  obtain ⟨a0, a1, a2, a3, a4, a5, a6, a7, rfl⟩ := eight hx
  obtain ⟨b0, b1, b2, b3, b4, b5, b6, b7, rfl⟩ := eight hy
  have h : (Op.equalIn 10000 98 (.agg (List.map B [a0, a1, a2, a3, a4, a5, a6, a7]).toArray) (.agg (List.map B [b0, b1, b2, b3, b4, b5, b6, b7]).toArray)).run Tryd.prog w = _ := eq8 a0.toNat a1.toNat a2.toNat a3.toNat a4.toNat a5.toNat a6.toNat a7.toNat b0.toNat b1.toNat b2.toNat b3.toNat b4.toNat b5.toNat b6.toNat b7.toNat w
  rw [h]
  simp only [List.cons.injEq, nat_u8, and_true]
end Go.Proofs.YtgmgffcfmopgmaaDoor.wl
