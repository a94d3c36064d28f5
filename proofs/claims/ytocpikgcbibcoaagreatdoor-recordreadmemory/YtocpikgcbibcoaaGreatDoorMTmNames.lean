import Derived.Test.YtocpikgcbibcoaaGreatDoorMRefLetters
import Derived.Test.YtocpikgcbibcoaaGreatDoorMRadixRead
import Derived.Test.YtocpikgcbibcoaaGreatDoorMJoinAll
import Derived.Test.YtocpikgcbibcoaaGreatDoorMRcList
namespace Go.Proofs.YtocpikgcbibcoaaGreatDoor.radw
open Go.ChangeShapes Go.WideShapes Go.ChangeAt Go.RowKit Go.Proofs.YtocpikgcbibcoaaGreatDoor.common

end Go.Proofs.YtocpikgcbibcoaaGreatDoor.radw

namespace Go.Proofs.YtocpikgcbibcoaaGreatDoor.radw
open Go.ChangeShapes Go.WideShapes Go.ChangeAt Go.RowKit Go.Proofs.YtocpikgcbibcoaaGreatDoor.common
attribute [local go_sem ↓] Go.wp_at_zero Go.wp_at_succ

end Go.Proofs.YtocpikgcbibcoaaGreatDoor.radw

namespace Go.Proofs.YtocpikgcbibcoaaGreatDoor.radw
open Go.ChangeShapes Go.WideShapes Go.ChangeAt Go.RowKit Go.Proofs.YtocpikgcbibcoaaGreatDoor.common

end Go.Proofs.YtocpikgcbibcoaaGreatDoor.radw

namespace Go.Proofs.YtocpikgcbibcoaaGreatDoor.radw
open Go.ChangeShapes Go.WideShapes Go.ChangeAt Go.RowKit Go.Proofs.YtocpikgcbibcoaaGreatDoor.common
attribute [local go_sem ↓] Go.wp_at_zero Go.wp_at_succ

abbrev UrlTab (w : World) : Prop := TabAt 14 Rad.urlT w

set_option maxRecDepth 100000 in
set_option maxHeartbeats 800000 in
theorem url_any (s : ByteArray) (w : World) (hs : s.size ≤ reachBytes) (ht : UrlTab w) :
    Calls Tryz.prog 50 #[.string s] w fun e w' => e = .returned (.string ⟨(Rad.b64 Rad.urlT s.data.toList).toArray⟩) ∧ Below w.heap.size w w' := by
  have HS := hide hs
  have HT := hide ht
  have hG := ht.lt (by decide)
  clear ht
  have HN := hide (n6_val s)
  have hNle : Rad.n6 s.size ≤ 187649984468316 := by unfold Rad.n6; unfold reachBytes at hs; omega
  clear hs
  generalize hNN : Rad.n6 s.size = N at *
  have HNN := hide hNN
  clear hNN
  go_enter Tryz.func50, Tryz.ntmps50
  go_wp2_with fail
  refine (split_any s w HS.out _ N (third_val s) HN.out).mono ?_
  rintro e w1 ⟨rfl, hl, hb⟩
  have HL := hide hl
  have HB := hide hb
  clear hl hb
  go_wp2_with fail
  go_loopw [9] (fun i wr => ∃ k : Nat, k ≤ N ∧ i = .int .i64 k ∧ Lay wr w.heap.size (part (fun m => Rad.urlT.getD (Rad.six s.data.toList m) 0) (sixB s.data.toList) N k) ∧ Below w.heap.size w wr) (fun i _ => N - (intOf i).toNat)
  case atStart => exact ⟨0, Nat.zero_le _, rfl, by rw [part_zero]; exact HL.out, HB.out⟩
  case round =>
    obtain ⟨k, hk, rfl, hl, hb⟩ := hrel
    by_cases hlt : k < N
    · have c0 := hl.cell k (by rw [part_len]; exact hlt)
      rw [part_getD _ _ _ _ _ hlt, if_neg (by omega)] at c0
      have c0' : wr.cell? ⟨w.heap.size, k, none⟩ = some (.int .u8 ((Rad.six s.data.toList k : Nat) : Int)) := by rw [c0]; unfold B; rw [six_idx]
      have f0 := hl.frozen k (by rw [part_len]; exact hlt)
      have b0 := Rad.six_lt s.data.toList k
      have t0 : wr.cell? ⟨14, Rad.six s.data.toList k, none⟩ = _ := HT.out.below hb hG _ b0
      have E : Hid (Rad.urlT.getD (Rad.six s.data.toList k) 0 = (fun m => Rad.urlT.getD (Rad.six s.data.toList m) 0) k) := rfl
      generalize Rad.urlT.getD (Rad.six s.data.toList k) 0 = x at *
      generalize Rad.six s.data.toList k = y at *
      have hki : (k : Int) < (N : Int) := by omega
      have HL2 := hide hl
      have HB2 := hide hb
      clear hl hb c0
      go_wp2
      go_roundw
      case rel =>
        refine ⟨k + 1, by omega, by go_num, ?_, HB2.out.setCell (Nat.le_refl _) _⟩
        have L1 := HL2.out.set k (by rw [part_len]; exact hlt) x
        rw [part_set _ _ _ _ hlt E.out] at L1
        exact L1
      case measure => simp [intOf]; omega
    · obtain rfl : k = N := by omega
      rw [part_all] at hl
      have hconv := hl.conv (cap := k) (n := k) (by simp)
      have e : (List.range k).map (fun m => Rad.urlT.getD (Rad.six s.data.toList m) 0) = Rad.b64 Rad.urlT s.data.toList := by unfold Rad.b64; rw [len_list, HNN.out]
      rw [e] at hconv
      have HB2 := hide hb
      clear hb hl e
      go_wp2
      go_ret
      exact ⟨rfl, HB2.out⟩

end Go.Proofs.YtocpikgcbibcoaaGreatDoor.radw

namespace Go.Proofs.YtocpikgcbibcoaaGreatDoor.radw
open Go.ChangeShapes Go.WideShapes Go.ChangeAt Go.RowKit Go.Proofs.YtocpikgcbibcoaaGreatDoor.common

set_option maxRecDepth 100000 in
set_option maxHeartbeats 800000 in
theorem unurl_any (s : ByteArray) (w : World) (hs : s.size ≤ reachBytes) (ea : Addr) (he : Txt w ea) (ht : UrlTab w) :
    Calls Tryz.prog 52 #[.string s] w fun x w' => Below w.heap.size w w' ∧
      (((Rad.valid Rad.urlT 64 s.data.toList ∧ Rad.restOk Rad.urlT s.data.toList) ∧ x = .returned (.tuple #[.string ⟨(Rad.un64 Rad.urlT s.data.toList).toArray⟩, .nilIface])) ∨
        (¬ (Rad.valid Rad.urlT 64 s.data.toList ∧ Rad.restOk Rad.urlT s.data.toList) ∧ x = .returned (.tuple #[.string ⟨#[]⟩, X ea]))) := by
  have HS := hide hs
  have HE := hide he
  have HT := hide ht
  clear he ht hs
  go_enter Tryz.func52, Tryz.ntmps52
  go_wp2_with fail
  refine (urlReading_any w HT.out).mono ?_
  rintro x w1 ⟨rfl, hb1⟩
  have HB1 := hide hb1
  clear hb1
  go_wp2_with fail
  refine (numbers_any Rad.urlT 64 (by decide) s w1 HS.out ea (HE.out.below HB1.out)).mono ?_
  rintro x w2 ⟨hb2, ⟨hval, rfl, hl⟩ | ⟨hval, rfl⟩⟩
  · have hg2 : w1.heap.size + 1 < w2.heap.size ∨ s.size = 0 := by
      by_cases h0 : s.size = 0
      · exact Or.inr h0
      · exact Or.inl (there_lt hl.1 (by simp; omega))
    have HB2 := hide (HB1.out.trans (hb2.mono HB1.out.size))
    have HVL := hide hval
    have HJ := hide (joinSixes_any Rad.urlT s (w1.heap.size + 1) HS.out w2 hg2 hl ea (HE.out.below HB2.out))
    clear hb2 hval HB1 hl hg2
    generalize w1.heap.size + 1 = g at *
    go_wp2_with fail
    refine HJ.out.mono ?_
    rintro x w3 ⟨hb3, ⟨hr, rfl⟩ | ⟨hr, rfl⟩⟩
    · have HB3 := hide (HB2.out.trans (hb3.mono HB2.out.size))
      have HR := hide hr
      clear hb3 hr HJ
      go_wp2_with fail
      go_ret2
      exact ⟨HB3.out, Or.inl ⟨⟨HVL.out, HR.out⟩, rfl⟩⟩
    · have HB3 := hide (HB2.out.trans (hb3.mono HB2.out.size))
      have HR := hide hr
      clear hb3 hr HJ
      go_wp2_with fail
      go_ret2
      exact ⟨HB3.out, Or.inr ⟨fun h => HR.out h.2, rfl⟩⟩
  · have HB2 := hide (HB1.out.trans (hb2.mono HB1.out.size))
    have HVL := hide hval
    clear hb2 hval HB1
    go_wp2_with fail
    go_ret2
    exact ⟨HB2.out, Or.inr ⟨fun h => HVL.out h.1, rfl⟩⟩

end Go.Proofs.YtocpikgcbibcoaaGreatDoor.radw

namespace Go.Proofs.YtocpikgcbibcoaaGreatDoor.tm
open Go.ChangeShapes Go.WideShapes Go.ChangeAt Go.RowKit Go.Proofs.YtocpikgcbibcoaaGreatDoor.common Go.Proofs.YtocpikgcbibcoaaGreatDoor.bk
attribute [local go_sem ↓] Go.wp_at_zero Go.wp_at_succ

end Go.Proofs.YtocpikgcbibcoaaGreatDoor.tm

namespace Go.Proofs.YtocpikgcbibcoaaGreatDoor.tm
open Go.ChangeShapes Go.WideShapes Go.ChangeAt Go.RowKit Go.Proofs.YtocpikgcbibcoaaGreatDoor.common Go.Proofs.YtocpikgcbibcoaaGreatDoor.bk
attribute [local go_sem ↓] Go.wp_at_zero Go.wp_at_succ

set_option maxHeartbeats 800000 in
theorem name_any (s : ByteArray) (w : World) (hs : s.size ≤ 4611686018427387904) :
    Calls Tryz.prog 44 #[.string s] w fun e w' => e = .returned (.bool (Tm.word 64 (Tm.btw 33 126) s.data.toList)) ∧ w' = w := by
  have HA := hide (fun W => isWord_any s 64 _ _ W hs vis_enters vis_tests)
  generalize Tm.word 64 (Tm.btw 33 126) s.data.toList = t at *
  go_enter Tryz.func44, Tryz.ntmps44
  go_wp2_with (go_at_call 53; refine (HA.out _).mono ?_; rintro x w2 ⟨rfl, rfl⟩)
  go_ret
  exact ⟨rfl, rfl⟩
end Go.Proofs.YtocpikgcbibcoaaGreatDoor.tm
