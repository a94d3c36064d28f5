import Derived.Test.YtobflealcldgnaaGreatDoorRows
import Derived.Test.YtobflealcldgnaaGreatDoorRadixRead
import Derived.Lib.LaidTab
import Derived.Deep.RegionWith
namespace Go.Proofs.YtobflealcldgnaaGreatDoor.radw
open Go.ChangeShapes Go.WideShapes Go.ChangeAt Go.RowKit Go.Proofs.YtobflealcldgnaaGreatDoor.common

theorem urlG : Tryz.prog.globalNamed "usher/radix.urlLetters" = some 22 := by kernel_rfl
theorem urlType : (Tryz.prog.globals[22]?).map (·.type) = some 112 := by kernel_rfl
theorem urlCells : Tryz.prog.cellsOf 112 = 64 := by kernel_rfl
theorem urlTab {W : World} {rest : List (String × DataW Unit)} (h : laidMet Tryz.prog (("usher/radix.urlLetters", Rows.laid_usher_radix_urlLetters) :: rest) W) : TabAt 22 Rad.urlT W := by
  have t : Lib.TabIs Tryz.prog W "usher/radix.urlLetters" .u8 [65, 66, 67, 68, 69, 70, 71, 72, 73, 74, 75, 76, 77, 78, 79, 80, 81, 82, 83, 84, 85, 86, 87, 88, 89, 90, 97, 98, 99, 100, 101, 102, 103, 104, 105, 106, 107, 108, 109, 110, 111, 112, 113, 114, 115, 116, 117, 118, 119, 120, 121, 122, 48, 49, 50, 51, 52, 53, 54, 55, 56, 57, 45, 95] :=
    Lib.tabIs_of_head (rest := rest) urlG urlType Tryz.underlying112 Tryz.underlying5 cells8 urlCells h
  intro i hi
  have hi' : i < 64 := hi
  rw [t.cell urlG i (by simpa using hi')]
  have e : ∀ j : Fin 64, ([65, 66, 67, 68, 69, 70, 71, 72, 73, 74, 75, 76, 77, 78, 79, 80, 81, 82, 83, 84, 85, 86, 87, 88, 89, 90, 97, 98, 99, 100, 101, 102, 103, 104, 105, 106, 107, 108, 109, 110, 111, 112, 113, 114, 115, 116, 117, 118, 119, 120, 121, 122, 48, 49, 50, 51, 52, 53, 54, 55, 56, 57, 45, 95] : List Int).getD j.val 0 = ((Rad.urlT.getD j.val 0).toNat : Int) := by decide +kernel
  rw [e ⟨i, hi'⟩]

end Go.Proofs.YtobflealcldgnaaGreatDoor.radw

namespace Go.Proofs.YtobflealcldgnaaGreatDoor.radw
open Go.ChangeShapes Go.WideShapes Go.ChangeAt Go.RowKit Go.Proofs.YtobflealcldgnaaGreatDoor.common
attribute [local go_sem ↓] Go.wp_at_zero Go.wp_at_succ

set_option maxRecDepth 100000 in
set_option maxHeartbeats 1600000 in
theorem urlReading_any (w : World) (ht : TabAt 22 Rad.urlT w) :
    Calls Tryz.prog 67 #[] w fun e w' => e = .returned (.agg ((rdT Rad.urlT 64).map B).toArray) ∧ Below w.heap.size w w' := by
  have HT := hide ht
  have hG := ht.lt (by decide)
  clear ht
  have hz256 := zero256_run
  go_enter Tryz.func67, Tryz.ntmps67
  go_wp2_with fail
  go_loopw [3] (fun i wr => ∃ k : Nat, k ≤ 64 ∧ i = .int .i64 k ∧ wr.there w.heap.size 0 256 ∧ Lay wr (w.heap.size + 1) (rdT Rad.urlT k) ∧ Below w.heap.size w wr) (fun i _ => 64 - (intOf i).toNat)
  case atStart =>
    refine ⟨0, Nat.zero_le _, rfl, ?_, ?_, ?_⟩
    · exact World.there_alloc (there_new w _ _) _
    · rw [rdT_zero]
      exact ⟨there_new_at (w.alloc _) _ _ _ _ (by simp) rfl, range_new_at (w.alloc _) _ _ _ _ (by simp) (by kernel_rfl)⟩
    · exact ((Below.refl _ _).alloc (Nat.le_refl _) _).alloc (by simp) _
  case round =>
    obtain ⟨k, hk, rfl, ht0, hl, hb⟩ := hrel
    by_cases hlt : k < 64
    · have c0 : wr.cell? ⟨22, k, none⟩ = _ := HT.out.below hb hG k hlt
      have hki : (k : Int) < 64 := by omega
      have hx := (Rad.urlT.getD k 0).toNat_lt
      have f0 := hl.frozen (Rad.urlT.getD k 0).toNat (by rw [rdT_len]; exact hx)
      obtain ⟨v0, hv0⟩ : ∃ v, wr.cell? ⟨w.heap.size + 1, (Rad.urlT.getD k 0).toNat, none⟩ = some v := ⟨_, hl.cell _ (by rw [rdT_len]; exact hx)⟩
      have L1 := hl.set (Rad.urlT.getD k 0).toNat (by rw [rdT_len]; exact hx) (UInt8.ofNat (k + 1))
      rw [rdT_set] at L1
      have HL := hide L1
      have H0 := hide ht0
      have HB := hide hb
      have hv : Hid ((((UInt8.ofNat (k + 1)).toNat : Nat) : Int) = (k : Int) + 1) := by show _ = _; rw [Rad.toNat_of (by omega)]; omega
      clear L1 hl ht0 hb
      generalize Rad.urlT.getD k 0 = x at *
      go_wp2
      go_roundw
      case rel =>
        refine ⟨k + 1, by omega, by go_num, there_set H0.out _ _, ?_, HB.out.setCell (Nat.le_succ _) _⟩
        have := HL.out
        unfold B at this
        rw [hv.out] at this
        exact this
      case measure => simp [intOf]; omega
    · obtain rfl : k = 64 := by omega
      have hi : (Tryz.prog.info? 100).map (·.size) = some ((rdT Rad.urlT 64).map B).length := by rw [List.length_map, rdT_len]; exact size256
      have hi2 : (Tryz.prog.info? 100).map (·.size) = some ((rdT Rad.urlT 64).map B).toArray.size := by rw [List.size_toArray]; exact hi
      have h1 : ((rdT Rad.urlT 64).map B).toArray.all (·.oneCell') = true := all_oneCell_toArray (by intro v hv; obtain ⟨x, _, rfl⟩ := List.mem_map.1 hv; rfl)
      have hls : ((rdT Rad.urlT 64).map B).toArray.size = 256 := by rw [List.size_toArray, List.length_map, rdT_len]
      have ht : wr.there w.heap.size 0 ((rdT Rad.urlT 64).map B).toArray.size := by rw [hls]; exact ht0
      have H2 := hide hl.2
      have H3 := hide hb
      have HI := hide hi
      have HI2 := hide hi2
      have HO := hide h1
      have HT := hide ht
      clear hi hi2 h1 ht hl hb ht0 hls
      generalize hL : (rdT Rad.urlT 64).map B = L at *
      have HLL := hide hL
      clear hL
      go_wp2_with (first | (refine wpList_load_mid rfl 100 (.tmp 1) rfl (w.heap.size + 1) 0 rfl L _ H2.out Tryz.underlying100 rfl HI.out ?_) | (refine wpList_store_mid rfl 100 (.tmp 0) (.tmp 14) rfl w.heap.size 0 L.toArray rfl rfl HT.out HI2.out HO.out ?_))
      refine bodyPost_ret (v := .agg L.toArray) (results_cell1 (b := w.heap.size) (o := 0) (cs := L) Tryz.results67 _ rfl ?_ Tryz.underlying100 rfl HI.out) rfl ⟨by rw [HLL.out], ?_⟩
      · have := World.rangeAt_setCells_same wr w.heap.size 0 L (by simpa using HT.out)
        simpa using this
      · exact below_setCells H3.out (Nat.le_refl _) _ _

end Go.Proofs.YtobflealcldgnaaGreatDoor.radw

namespace Go.Proofs.YtobflealcldgnaaGreatDoor.radw
open Go.ChangeShapes Go.WideShapes Go.ChangeAt Go.RowKit Go.Proofs.YtobflealcldgnaaGreatDoor.common
attribute [local go_sem ↓] Go.wp_at_zero Go.wp_at_succ

end Go.Proofs.YtobflealcldgnaaGreatDoor.radw
