import Derived.Test.YtkmhhodapnlkiaaDoorRefBits
import Derived.Test.YtkmhhodapnlkiaaDoorHexWalks
import Derived.Test.YtkmhhodapnlkiaaDoorRadixTab
namespace Go.Proofs.YtkmhhodapnlkiaaDoor.radw
open Go.ChangeShapes Go.WideShapes Go.ChangeAt Go.RowKit Go.Proofs.YtkmhhodapnlkiaaDoor.common
attribute [local go_sem ↓] Go.wp_at_zero Go.wp_at_succ

abbrev UrlTab (w : World) : Prop := TabAt 0 Rad.urlT w

set_option maxRecDepth 100000 in
set_option maxHeartbeats 800000 in
theorem url_any (s : ByteArray) (w : World) (hs : s.size ≤ reachBytes) (ht : UrlTab w) :
    Calls Tryd.prog 8 #[.string s] w fun e w' => e = .returned (.string ⟨(Rad.b64 Rad.urlT s.data.toList).toArray⟩) ∧ Below w.heap.size w w' := by
  have HS := hide hs
  have HT := hide ht
  have hG := ht.lt (by decide)
  clear ht
  have HN := hide (n6_val s)
  have hNle : Rad.n6 s.size ≤ 187649984468316 := by unfold Rad.n6; unfold reachBytes at hs; omega
  clear hs
  generalize hNN : Rad.n6 s.size = N at *
  have HNN := hide hNN
  clear hNN
  go_enter Tryd.func8, Tryd.ntmps8
  go_wp2_with fail
  refine (split_any s w HS.out _ N (third_val s) HN.out).mono ?_
  rintro e w1 ⟨rfl, hl, hb⟩
  have HL := hide hl
  have HB := hide hb
  clear hl hb
  go_wp2_with fail
  go_loopw [9] (fun i wr => ∃ k : Nat, k ≤ N ∧ i = .int .i64 k ∧ Lay wr w.heap.size (part (fun m => Rad.urlT.getD (Rad.six s.data.toList m) 0) (sixB s.data.toList) N k) ∧ Below w.heap.size w wr) (fun i _ => N - (intOf i).toNat)
  case atStart => exact ⟨0, Nat.zero_le _, rfl, by rw [part_zero]; exact HL.out, HB.out⟩
  case round =>
    obtain ⟨k, hk, rfl, hl, hb⟩ := hrel
    by_cases hlt : k < N
    · have c0 := hl.cell k (by rw [part_len]; exact hlt)
      rw [part_getD _ _ _ _ _ hlt, if_neg (by omega)] at c0
      have c0' : wr.cell? ⟨w.heap.size, k, none⟩ = some (.int .u8 ((Rad.six s.data.toList k : Nat) : Int)) := by rw [c0]; unfold B; rw [six_idx]
      have f0 := hl.frozen k (by rw [part_len]; exact hlt)
      have b0 := Rad.six_lt s.data.toList k
      have t0 : wr.cell? ⟨0, Rad.six s.data.toList k, none⟩ = _ := HT.out.below hb hG _ b0
      have E : Hid (Rad.urlT.getD (Rad.six s.data.toList k) 0 = (fun m => Rad.urlT.getD (Rad.six s.data.toList m) 0) k) := rfl
      generalize Rad.urlT.getD (Rad.six s.data.toList k) 0 = x at *
      generalize Rad.six s.data.toList k = y at *
      have hki : (k : Int) < (N : Int) := by omega
      have HL2 := hide hl
      have HB2 := hide hb
      clear hl hb c0
      go_wp2
      go_roundw
      case rel =>
        refine ⟨k + 1, by omega, by go_num, ?_, HB2.out.setCell (Nat.le_refl _) _⟩
        have L1 := HL2.out.set k (by rw [part_len]; exact hlt) x
        rw [part_set _ _ _ _ hlt E.out] at L1
        exact L1
      case measure => simp [intOf]; omega
    · obtain rfl : k = N := by omega
      rw [part_all] at hl
      have hconv := hl.conv (cap := k) (n := k) (by simp)
      have e : (List.range k).map (fun m => Rad.urlT.getD (Rad.six s.data.toList m) 0) = Rad.b64 Rad.urlT s.data.toList := by unfold Rad.b64; rw [len_list, HNN.out]
      rw [e] at hconv
      have HB2 := hide hb
      clear hb hl e
      go_wp2
      go_ret
      exact ⟨rfl, HB2.out⟩

theorem refUrl_any (s : ByteArray) (w : World) (hs : s.size ≤ 1048576) :
    Calls Tryd.prog 13 #[.string s] w fun e w' => e = .returned (.string ⟨(Rad.b64 Rad.urlT s.data.toList).toArray⟩) ∧ Below w.heap.size w w' := by
  have HS := hide hs
  clear hs
  go_enter Tryd.func13, Tryd.ntmps13
  go_wp2_with fail
  refine (bits_any s w HS.out).mono ?_
  rintro e w1 ⟨v, rfl, hown, hb⟩
  have hI := Ints.of_own hown
  have HI := hide hI
  have HB := hide hb
  clear hown hI hb
  have hlen := hide (len_list s)
  go_wp2_with fail
  refine (letters6_any v (8 * s.size) (by have := HS.out; omega) (Rad.bit s.data.toList) (Rad.bit_lt _) (fun i hi => bit_out _ _ (by rw [hlen.out]; exact hi)) _ Rad.urlT rfl rfl w1 HI.out).mono ?_
  rintro e w2 ⟨rfl, hb2⟩
  have HB2 := hide (HB.out.trans (hb2.mono HB.out.size))
  clear hb2
  rw [lets_b64 _ _ _ hlen.out.symm]
  go_wp2_with fail
  go_ret
  exact ⟨rfl, HB2.out⟩

end Go.Proofs.YtkmhhodapnlkiaaDoor.radw
