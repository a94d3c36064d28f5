import Derived.Test.YtocpikgcbibcoaaGreatDoorRows
import Derived.Test.YtocpikgcbibcoaaGreatDoorMRadixRead
import Derived.Lib.LaidTab
import Derived.Deep.RegionWith
import Derived.Maps.AppendAt
namespace Go.Proofs.YtocpikgcbibcoaaGreatDoor.radw
open Go.ChangeShapes Go.WideShapes Go.ChangeAt Go.RowKit Go.Proofs.YtocpikgcbibcoaaGreatDoor.common

theorem urlG : Tryz.prog.globalNamed "usher/radix.urlLetters" = some 14 := by kernel_rfl
theorem urlType : (Tryz.prog.globals[14]?).map (·.type) = some 98 := by kernel_rfl
theorem urlCells : Tryz.prog.cellsOf 98 = 64 := by kernel_rfl
theorem urlTab {W : World} {rest : List (String × DataW Unit)} (h : laidMet Tryz.prog (("usher/radix.urlLetters", Rows.laid_usher_radix_urlLetters) :: rest) W) : TabAt 14 Rad.urlT W := by
  have t : Lib.TabIs Tryz.prog W "usher/radix.urlLetters" .u8 [65, 66, 67, 68, 69, 70, 71, 72, 73, 74, 75, 76, 77, 78, 79, 80, 81, 82, 83, 84, 85, 86, 87, 88, 89, 90, 97, 98, 99, 100, 101, 102, 103, 104, 105, 106, 107, 108, 109, 110, 111, 112, 113, 114, 115, 116, 117, 118, 119, 120, 121, 122, 48, 49, 50, 51, 52, 53, 54, 55, 56, 57, 45, 95] :=
    Lib.tabIs_of_head (rest := rest) urlG urlType Tryz.underlying98 Tryz.underlying5 cells8 urlCells h
  intro i hi
  have hi' : i < 64 := hi
  rw [t.cell urlG i (by simpa using hi')]
  have e : ∀ j : Fin 64, ([65, 66, 67, 68, 69, 70, 71, 72, 73, 74, 75, 76, 77, 78, 79, 80, 81, 82, 83, 84, 85, 86, 87, 88, 89, 90, 97, 98, 99, 100, 101, 102, 103, 104, 105, 106, 107, 108, 109, 110, 111, 112, 113, 114, 115, 116, 117, 118, 119, 120, 121, 122, 48, 49, 50, 51, 52, 53, 54, 55, 56, 57, 45, 95] : List Int).getD j.val 0 = ((Rad.urlT.getD j.val 0).toNat : Int) := by decide +kernel
  rw [e ⟨i, hi'⟩]

end Go.Proofs.YtocpikgcbibcoaaGreatDoor.radw

namespace Go.Proofs.YtocpikgcbibcoaaGreatDoor.radw
open Go.ChangeShapes Go.WideShapes Go.ChangeAt Go.RowKit Go.Proofs.YtocpikgcbibcoaaGreatDoor.common
attribute [local go_sem ↓] Go.wp_at_zero Go.wp_at_succ

set_option maxRecDepth 100000 in
set_option maxHeartbeats 1600000 in
theorem urlReading_any (w : World) (ht : TabAt 14 Rad.urlT w) :
    Calls Tryz.prog 65 #[] w fun e w' => e = .returned (.agg ((rdT Rad.urlT 64).map B).toArray) ∧ Below w.heap.size w w' := by
  have HT := hide ht
  have hG := ht.lt (by decide)
  clear ht
  have hz256 := zero256_run
  go_enter Tryz.func65, Tryz.ntmps65
  go_wp2_with fail
  go_loopw [3] (fun i wr => ∃ k : Nat, k ≤ 64 ∧ i = .int .i64 k ∧ wr.there w.heap.size 0 256 ∧ Lay wr (w.heap.size + 1) (rdT Rad.urlT k) ∧ Below w.heap.size w wr) (fun i _ => 64 - (intOf i).toNat)
  case atStart =>
    refine ⟨0, Nat.zero_le _, rfl, ?_, ?_, ?_⟩
    · exact World.there_alloc (there_new w _ _) _
    · rw [rdT_zero]
      exact ⟨there_new_at (w.alloc _) _ _ _ _ (by simp) rfl, range_new_at (w.alloc _) _ _ _ _ (by simp) (by kernel_rfl)⟩
    · exact ((Below.refl _ _).alloc (Nat.le_refl _) _).alloc (by simp) _
  case round =>
    obtain ⟨k, hk, rfl, ht0, hl, hb⟩ := hrel
    by_cases hlt : k < 64
    · have c0 : wr.cell? ⟨14, k, none⟩ = _ := HT.out.below hb hG k hlt
      have hki : (k : Int) < 64 := by omega
      have hx := (Rad.urlT.getD k 0).toNat_lt
      have f0 := hl.frozen (Rad.urlT.getD k 0).toNat (by rw [rdT_len]; exact hx)
      obtain ⟨v0, hv0⟩ : ∃ v, wr.cell? ⟨w.heap.size + 1, (Rad.urlT.getD k 0).toNat, none⟩ = some v := ⟨_, hl.cell _ (by rw [rdT_len]; exact hx)⟩
      have L1 := hl.set (Rad.urlT.getD k 0).toNat (by rw [rdT_len]; exact hx) (UInt8.ofNat (k + 1))
      rw [rdT_set] at L1
      have HL := hide L1
      have H0 := hide ht0
      have HB := hide hb
      have hv : Hid ((((UInt8.ofNat (k + 1)).toNat : Nat) : Int) = (k : Int) + 1) := by show _ = _; rw [Rad.toNat_of (by omega)]; omega
      clear L1 hl ht0 hb
      generalize Rad.urlT.getD k 0 = x at *
      go_wp2
      go_roundw
      case rel =>
        refine ⟨k + 1, by omega, by go_num, there_set H0.out _ _, ?_, HB.out.setCell (Nat.le_succ _) _⟩
        have := HL.out
        unfold B at this
        rw [hv.out] at this
        exact this
      case measure => simp [intOf]; omega
    · obtain rfl : k = 64 := by omega
      have hi : (Tryz.prog.info? 104).map (·.size) = some ((rdT Rad.urlT 64).map B).length := by rw [List.length_map, rdT_len]; exact size256
      have hi2 : (Tryz.prog.info? 104).map (·.size) = some ((rdT Rad.urlT 64).map B).toArray.size := by rw [List.size_toArray]; exact hi
      have h1 : ((rdT Rad.urlT 64).map B).toArray.all (·.oneCell') = true := all_oneCell_toArray (by intro v hv; obtain ⟨x, _, rfl⟩ := List.mem_map.1 hv; rfl)
      have hls : ((rdT Rad.urlT 64).map B).toArray.size = 256 := by rw [List.size_toArray, List.length_map, rdT_len]
      have ht : wr.there w.heap.size 0 ((rdT Rad.urlT 64).map B).toArray.size := by rw [hls]; exact ht0
      have H2 := hide hl.2
      have H3 := hide hb
      have HI := hide hi
      have HI2 := hide hi2
      have HO := hide h1
      have HT := hide ht
      clear hi hi2 h1 ht hl hb ht0 hls
      generalize hL : (rdT Rad.urlT 64).map B = L at *
      have HLL := hide hL
      clear hL
      go_wp2_with (first | (refine wpList_load_mid rfl 104 (.tmp 1) rfl (w.heap.size + 1) 0 rfl L _ H2.out Tryz.underlying104 rfl HI.out ?_) | (refine wpList_store_mid rfl 104 (.tmp 0) (.tmp 14) rfl w.heap.size 0 L.toArray rfl rfl HT.out HI2.out HO.out ?_))
      refine bodyPost_ret (v := .agg L.toArray) (results_cell1 (b := w.heap.size) (o := 0) (cs := L) Tryz.results65 _ rfl ?_ Tryz.underlying104 rfl HI.out) rfl ⟨by rw [HLL.out], ?_⟩
      · have := World.rangeAt_setCells_same wr w.heap.size 0 L (by simpa using HT.out)
        simpa using this
      · exact below_setCells H3.out (Nat.le_refl _) _ _

end Go.Proofs.YtocpikgcbibcoaaGreatDoor.radw

namespace Go.Proofs.YtocpikgcbibcoaaGreatDoor.radw
open Go.ChangeShapes Go.WideShapes Go.ChangeAt Go.RowKit Go.Proofs.YtocpikgcbibcoaaGreatDoor.common
attribute [local go_sem ↓] Go.wp_at_zero Go.wp_at_succ

set_option maxHeartbeats 800000 in
theorem split_any (s : ByteArray) (w : World) (hs : s.size ≤ reachBytes) (W N : Nat) (hW : (s.size : Int) / 3 = (W : Int)) (hN : (8 * (s.size : Int) + 5) / 6 = (N : Int)) :
    Calls Tryz.prog 61 #[.string s] w fun e w' => e = .returned (.slice (some ⟨w.heap.size, 0, none⟩) N N) ∧ Lay w' w.heap.size ((List.range N).map (sixB s.data.toList)) ∧ Below w.heap.size w w' := by
  unfold reachBytes at hs
  have hW1 : 3 * W ≤ s.size := by omega
  have hW2 : s.size < 3 * W + 3 := by omega
  have hN1 : 6 * N ≤ 8 * s.size + 5 := by omega
  have hN2 : 8 * s.size + 5 < 6 * N + 6 := by omega
  obtain ⟨i0, hi, hz0, hz1, hz2⟩ := info_parts info8
  go_enter Tryz.func61, Tryz.ntmps61
  go_wp2_with (refine wpList_make_row _ rfl _ _ 27 rfl 5 i0 (.int .u8 0) Tryz.underlying27 hi hz0 hz1 rfl .i64 .i64 N ?c1 ?c2 ?c3 ?c4 ?_)
  case c1 => exact int_eq hN
  case c2 => exact int_eq hN
  case c3 => rw [hz2]; omega
  case c4 => omega
  clear hz0 hz1 hz2 hi hW hN
  go_loopw [18] (fun i wr => ∃ k : Nat, k ≤ W ∧ i = .int .i64 k ∧ Lay wr w.heap.size (upto (sixB s.data.toList) N (4 * k)) ∧ Below w.heap.size w wr) (fun i _ => W - (intOf i).toNat)
  case atStart => exact ⟨0, Nat.zero_le _, rfl, by rw [upto_zero]; exact lay_made _ _ _, (Below.refl _ _).alloc (Nat.le_refl _) _⟩
  case round =>
    obtain ⟨k, hk, rfl, hl, hb⟩ := hrel
    by_cases hlt : k < W
    · have n0 : (3 * (k : Int)).toNat = 3 * k := by omega
      have n1 : (3 * (k : Int) + 3).toNat = 3 * k + 3 := by omega
      have n2 : (4 * (k : Int)).toNat = 4 * k := by omega
      have n3 : (4 * (k : Int) + 4).toNat = 4 * k + 4 := by omega
      have b0 : (0 : Int) ≤ 3 * (k : Int) ∧ 3 * (k : Int) + 3 ≤ (s.size : Int) := by omega
      have b1 : (0 : Int) ≤ 4 * (k : Int) ∧ 4 * (k : Int) + 4 ≤ (N : Int) := by omega
      have hlen := upto_len (sixB s.data.toList) N (4 * k)
      have c0 := hl.cell (4 * k) (by omega)
      have c1 := hl.cell (4 * k + 1) (by omega)
      have c2 := hl.cell (4 * k + 2) (by omega)
      have c3 := hl.cell (4 * k + 3) (by omega)
      have f0 := hl.frozen (4 * k) (by omega)
      have f1 := hl.frozen (4 * k + 1) (by omega)
      have f2 := hl.frozen (4 * k + 2) (by omega)
      have f3 := hl.frozen (4 * k + 3) (by omega)
      obtain ⟨q0, q1, q2, q3⟩ := quad s.data.toList k _ _ _ (g_at s (3 * k) (by omega)) (g_at s (3 * k + 1) (by omega)) (g_at s (3 * k + 2) (by omega))
      have hts := ext3 s k (by omega)
      have a0 : (s.extract (3 * k) (3 * k + 3)).data.toList.getD 0 0 = s[3 * k] := (ext_at s (3 * k) (3 * k + 3) 0 (by omega)).trans (getD_list s (3 * k) (by omega))
      have a1 : (s.extract (3 * k) (3 * k + 3)).data.toList.getD 1 0 = s[3 * k + 1] := (ext_at s (3 * k) (3 * k + 3) 1 (by omega)).trans (getD_list s (3 * k + 1) (by omega))
      have a2 : (s.extract (3 * k) (3 * k + 3)).data.toList.getD 2 0 = s[3 * k + 2] := (ext_at s (3 * k) (3 * k + 3) 2 (by omega)).trans (getD_list s (3 * k + 2) (by omega))
      have A0 := hide a0
      have A1 := hide a1
      have A2 := hide a2
      clear a0 a1 a2
      have HL := hide hl
      have HB := hide hb
      clear hl hb
      generalize s[3 * k] = x0 at *
      generalize s[3 * k + 1] = x1 at *
      generalize s[3 * k + 2] = x2 at *
      have E0 : Hid (sixB s.data.toList (4 * k) = sixB s.data.toList (4 * k)) := rfl
      have E1 : Hid (sixB s.data.toList (4 * k + 1) = sixB s.data.toList (4 * k + 1)) := rfl
      have E2 : Hid (sixB s.data.toList (4 * k + 2) = sixB s.data.toList (4 * k + 2)) := rfl
      have E3 : Hid (sixB s.data.toList (4 * k + 3) = sixB s.data.toList (4 * k + 3)) := rfl
      generalize hy0 : sixB s.data.toList (4 * k) = y0 at q0
      generalize hy1 : sixB s.data.toList (4 * k + 1) = y1 at q1
      generalize hy2 : sixB s.data.toList (4 * k + 2) = y2 at q2
      generalize hy3 : sixB s.data.toList (4 * k + 3) = y3 at q3
      have Y0 := hide hy0.symm
      have Y1 := hide hy1.symm
      have Y2 := hide hy2.symm
      have Y3 := hide hy3.symm
      clear hy0 hy1 hy2 hy3 E0 E1 E2 E3 hlen
      go_wp2_with fail
      go_region
      generalize s.extract (3 * k) (3 * k + 3) = t at *
      have x0' := byte_of_list (t := t) (i := 0) (by omega) A0.out
      have x1' := byte_of_list (t := t) (i := 1) (by omega) A1.out
      have x2' := byte_of_list (t := t) (i := 2) (by omega) A2.out
      clear A0 A1 A2
      go_wp2_with fail
      go_region
      go_wp2_with fail
      go_region
      go_wp2
      go_roundw
      case rel =>
        refine ⟨k + 1, by omega, by go_num, ?_, ?_⟩
        · have L0 := HL.out.set (4 * k) (by rw [upto_len]; omega) y0
          rw [upto_set _ _ _ (by omega) Y0.out] at L0
          have L1 := L0.set (4 * k + 1) (by rw [upto_len]; omega) y1
          rw [upto_set _ _ _ (by omega) Y1.out] at L1
          have L2 := L1.set (4 * k + 2) (by rw [upto_len]; omega) y2
          rw [upto_set _ _ _ (by omega) Y2.out] at L2
          have L3 := L2.set (4 * k + 3) (by rw [upto_len]; omega) y3
          rw [upto_set _ _ _ (by omega) Y3.out] at L3
          exact L3.drew.drew.drew
        · exact ((((HB.out.setCell (Nat.le_refl _) _).setCell (Nat.le_refl _) _).setCell (Nat.le_refl _) _).setCell (Nat.le_refl _) _).drew.drew.drew
      case measure => simp [intOf]; omega
    · obtain rfl : k = W := by omega
      have hrest := hide (rest_any s k N w.heap.size hW1 hW2 hN1 hN2)
      have n0 : (3 * (k : Int)).toNat = 3 * k := by omega
      have n2 : (4 * (k : Int)).toNat = 4 * k := by omega
      have b0 : (0 : Int) ≤ 3 * (k : Int) ∧ 3 * (k : Int) ≤ (s.size : Int) := by omega
      have b1 : (0 : Int) ≤ 4 * (k : Int) ∧ 4 * (k : Int) ≤ (N : Int) := by omega
      have m0 : IntKind.i64.wrap (3 * (k : Int)) = 3 * (k : Int) := by rw [IntKind.wrap_i64]; omega
      have m1 : IntKind.i64.wrap (4 * (k : Int)) = 4 * (k : Int) := by rw [IntKind.wrap_i64]; omega
      have HL := hide hl
      have HB := hide hb
      clear hl hb
      by_cases hN0 : N = 4 * k
      · subst hN0
        have hz : (s.extract (3 * k) s.size).size = 0 := by rw [ByteArray.size_extract]; omega
        have HZ := hide hz
        clear hz hrest hN1 hN2 hW1 hW2
        go_wp2_with fail
        go_region_with (go_at_call 77; refine (rest0_core _ HZ.out _ _).mono ?_; rintro e w' ⟨rfl, rfl⟩)
        go_wp2
        go_ret
        refine ⟨rfl, ?_, HB.out.drew⟩
        rw [← upto_all]
        exact HL.out.drew
      · clear hN1 hN2 hW1 hW2
        have HR : Hid (∀ w_1 : World, Lay w_1 w.heap.size (upto (sixB s.data.toList) N (4 * k)) → Calls Tryz.prog 77 #[.string (s.extract (3 * k) s.size), .slice (some ⟨w.heap.size, 4 * k, none⟩) (N - 4 * k) (N - 4 * k)] w_1 fun e w' => e = .returned (.tuple #[]) ∧ Lay w' w.heap.size ((List.range N).map (sixB s.data.toList)) ∧ ∀ b, b ≤ w.heap.size → Below b w_1 w') := by
          have := hrest.out
          rw [if_neg hN0] at this
          exact this
        clear hrest
        go_wp2_with fail
        go_region_with (go_at_call 77; refine (HR.out _ HL.out.drew).mono ?_; rintro e w' ⟨rfl, hl2, hb2⟩)
        have HL2 := hide hl2
        have HB2 := hide (HB.out.drew.trans (hb2 _ (Nat.le_refl _)))
        clear hl2 hb2
        go_wp2
        go_ret
        exact ⟨rfl, HL2.out, HB2.out⟩
end Go.Proofs.YtocpikgcbibcoaaGreatDoor.radw

namespace Go.Proofs.YtocpikgcbibcoaaGreatDoor.radw
open Go.ChangeShapes Go.WideShapes Go.ChangeAt Go.RowKit Go.Proofs.YtocpikgcbibcoaaGreatDoor.common
attribute [local go_sem ↓] Go.wp_at_zero Go.wp_at_succ

/-- a list that is being turned: its first k letters are f's, the others h's -/
def part (f h : Nat → UInt8) (n k : Nat) : List UInt8 := (List.range n).map fun i => if i < k then f i else h i
theorem part_len (f h : Nat → UInt8) (n k : Nat) : (part f h n k).length = n := by simp [part]
theorem part_getD (f h : Nat → UInt8) (n k i : Nat) (hi : i < n) : (part f h n k).getD i 0 = if i < k then f i else h i := by unfold part; rw [Rad.getD_map, if_pos hi]
theorem part_zero (f h : Nat → UInt8) (n : Nat) : part f h n 0 = (List.range n).map h := by unfold part; simp
theorem part_all (f h : Nat → UInt8) (n : Nat) : part f h n n = (List.range n).map f := by
  apply Rad.list_eq
  · simp [part]
  · intro i hi; rw [part_len] at hi; rw [part_getD _ _ _ _ _ hi, Rad.getD_map]; simp [hi]
theorem part_set (f h : Nat → UInt8) (n k : Nat) (hk : k < n) {c : UInt8} (hc : c = f k) : (part f h n k).set k c = part f h n (k + 1) := by
  subst hc
  apply Rad.list_eq
  · simp [part]
  · intro i hi
    rw [List.length_set, part_len] at hi
    rw [set_getD _ _ _ _ (by rw [part_len]; exact hk), part_getD _ _ _ _ _ hi, part_getD _ _ _ _ _ hi]
    by_cases h : i = k
    · subst h; simp
    · rw [if_neg h]
      by_cases h2 : i < k
      · rw [if_pos h2, if_pos (by omega)]
      · rw [if_neg h2, if_neg (by omega)]

theorem six_idx (l : List UInt8) (m : Nat) : ((sixB l m).toNat : Int) = ((Rad.six l m : Nat) : Int) := sixB_val l m
theorem n6_val (s : ByteArray) : (8 * (s.size : Int) + 5) / 6 = ((Rad.n6 s.size : Nat) : Int) := by unfold Rad.n6; omega
theorem third_val (s : ByteArray) : (s.size : Int) / 3 = ((s.size / 3 : Nat) : Int) := by omega

end Go.Proofs.YtocpikgcbibcoaaGreatDoor.radw

namespace Go.Proofs.YtocpikgcbibcoaaGreatDoor.radw
open Go.ChangeShapes Go.WideShapes Go.ChangeAt Go.RowKit Go.Proofs.YtocpikgcbibcoaaGreatDoor.common

abbrev I (n : Nat) : Value := .int .i64 (n : Int)

theorem own_ge {w : World} {base : Nat} {e : TypeId} {size : Nat} {v : Value} {n : Nat} {xs : List Value} (h : w.ownsRow base e size v n xs) : ∀ b, v.ownBlock = some b → base ≤ b := by
  intro b hb
  rcases h.2 with ⟨rfl, _⟩ | ⟨g, cap, cur, rfl, hg, _⟩
  · cases hb
  · cases hb; exact hg

/-- the first n of a row of numbers -/
def row (f : Nat → Nat) (n : Nat) : List Value := (List.range n).map fun i => I (f i)
end Go.Proofs.YtocpikgcbibcoaaGreatDoor.radw

namespace Go.Proofs.YtocpikgcbibcoaaGreatDoor.radw
open Go.ChangeShapes Go.WideShapes Go.ChangeAt Go.RowKit Go.Proofs.YtocpikgcbibcoaaGreatDoor.common

end Go.Proofs.YtocpikgcbibcoaaGreatDoor.radw
