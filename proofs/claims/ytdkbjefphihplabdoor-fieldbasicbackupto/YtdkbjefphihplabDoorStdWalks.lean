import Derived.Test.YtdkbjefphihplabDoorPadW
import Derived.Test.YtdkbjefphihplabDoorPartsU
import Derived.Deep.RegionWith
namespace Go.Proofs.YtdkbjefphihplabDoor.radw
open Go.ChangeShapes Go.WideShapes Go.ChangeAt Go.RowKit Go.Proofs.YtdkbjefphihplabDoor.common
attribute [local go_sem ↓] Go.wp_at_zero Go.wp_at_succ

set_option maxRecDepth 100000 in
set_option maxHeartbeats 800000 in
theorem std_any (s : ByteArray) (w : World) (hs : s.size ≤ reachBytes) (ht : StdTab w) :
    Calls Tryd.prog 47 #[.string s] w fun e w' => e = .returned (.string ⟨(Rad.std s.data.toList).toArray⟩) ∧ Below w.heap.size w w' := by
  have HS := hide hs
  have HT := hide ht
  have hG := ht.lt (by decide)
  clear ht
  have HN := hide (n6_val s)
  have hNle : Rad.n6 s.size ≤ 187649984468316 := by unfold Rad.n6; unfold reachBytes at hs; omega
  clear hs
  generalize hNN : Rad.n6 s.size = N at *
  have HNN := hide hNN
  clear hNN
  go_enter Tryd.func47, Tryd.ntmps47
  go_wp2_with fail
  refine (split_any s w HS.out _ N (third_val s) HN.out).mono ?_
  rintro e w1 ⟨rfl, hl, hb⟩
  have HL := hide hl
  have HB := hide hb
  clear hl hb
  go_wp2_with fail
  go_loopw [9] (fun i wr => ∃ k : Nat, k ≤ N ∧ i = .int .i64 k ∧ Lay wr w.heap.size (part (fun m => Rad.stdT.getD (Rad.six s.data.toList m) 0) (sixB s.data.toList) N k) ∧ Below w.heap.size w wr) (fun i _ => N - (intOf i).toNat)
  case atStart => exact ⟨0, Nat.zero_le _, rfl, by rw [part_zero]; exact HL.out, HB.out⟩
  case round =>
    obtain ⟨k, hk, rfl, hl, hb⟩ := hrel
    by_cases hlt : k < N
    · have c0 := hl.cell k (by rw [part_len]; exact hlt)
      rw [part_getD _ _ _ _ _ hlt, if_neg (by omega)] at c0
      have c0' : wr.cell? ⟨w.heap.size, k, none⟩ = some (.int .u8 ((Rad.six s.data.toList k : Nat) : Int)) := by rw [c0]; unfold B; rw [six_idx]
      have f0 := hl.frozen k (by rw [part_len]; exact hlt)
      have b0 := Rad.six_lt s.data.toList k
      have t0 : wr.cell? ⟨13, Rad.six s.data.toList k, none⟩ = _ := HT.out.below hb hG _ b0
      have E : Hid (Rad.stdT.getD (Rad.six s.data.toList k) 0 = (fun m => Rad.stdT.getD (Rad.six s.data.toList m) 0) k) := rfl
      generalize Rad.stdT.getD (Rad.six s.data.toList k) 0 = x at *
      generalize Rad.six s.data.toList k = y at *
      have hki : (k : Int) < (N : Int) := by omega
      have HL2 := hide hl
      have HB2 := hide hb
      clear hl hb c0
      go_wp2
      go_roundw
      case rel =>
        refine ⟨k + 1, by omega, by go_num, ?_, HB2.out.setCell (Nat.le_refl _) _⟩
        have L1 := HL2.out.set k (by rw [part_len]; exact hlt) x
        rw [part_set _ _ _ _ hlt E.out] at L1
        exact L1
      case measure => simp [intOf]; omega
    · obtain rfl : k = N := by omega
      rw [part_all] at hl
      have hconv := hl.conv (cap := k) (n := k) (by simp)
      have e : (List.range k).map (fun m => Rad.stdT.getD (Rad.six s.data.toList m) 0) = Rad.b64 Rad.stdT s.data.toList := by unfold Rad.b64; rw [len_list, HNN.out]
      rw [e] at hl hconv
      have HB2 := hide hb
      have HLL := hide hl
      clear hb hl e
      have HP := hide (pad_any k)
      have HE : Hid ((⟨(Rad.b64 Rad.stdT s.data.toList).toArray⟩ : ByteArray) ++ ⟨(Rad.pad k).toArray⟩ = ⟨(Rad.std s.data.toList).toArray⟩) := by
        show _ = _
        unfold Rad.std
        rw [len_list, HNN.out]
        apply ByteArray.ext
        simp
      have hc1 : (convert 84 9 (.slice (some ⟨w.heap.size, 0, none⟩) k k)).run Tryd.prog wr.drew = .ok (.string ⟨(Rad.b64 Rad.stdT s.data.toList).toArray⟩) wr.drew := HLL.out.drew.conv (cap := k) (n := k) (by rw [Rad.b64_len, len_list, HNN.out])
      have hXs : (⟨(Rad.b64 Rad.stdT s.data.toList).toArray⟩ : ByteArray).size = k := by
        show (Rad.b64 Rad.stdT s.data.toList).toArray.size = k
        rw [List.size_toArray, Rad.b64_len, len_list, HNN.out]
      have hPs : (⟨(Rad.pad k).toArray⟩ : ByteArray).size ≤ 3 := by
        show (Rad.pad k).toArray.size ≤ 3
        rw [List.size_toArray]; unfold Rad.pad; rw [List.length_replicate]; omega
      generalize (⟨(Rad.b64 Rad.stdT s.data.toList).toArray⟩ : ByteArray) = X at *
      generalize (⟨(Rad.pad k).toArray⟩ : ByteArray) = Z at *
      go_wp2_with fail
      go_region_with (go_at_call 79; refine (HP.out _ hNle).mono ?_; rintro e w' ⟨rfl, rfl⟩)
      all_goals
        go_wp2
        go_ret
        exact ⟨congrArg (fun x => Ending.returned (.string x)) HE.out, HB2.out.drew⟩

end Go.Proofs.YtdkbjefphihplabDoor.radw
