import Derived.Test.YtimbhneegphhbaaGreatDoorRefLetters
import Derived.Test.YtimbhneegphhbaaGreatDoorRadixRead
import Derived.Test.YtimbhneegphhbaaGreatDoorJoinAll
import Derived.Test.YtimbhneegphhbaaGreatDoorRadixMath
namespace Go.Proofs.YtimbhneegphhbaaGreatDoor.radw
open Go.ChangeShapes Go.WideShapes Go.ChangeAt Go.RowKit Go.Proofs.YtimbhneegphhbaaGreatDoor.common

theorem bit_out (l : List UInt8) (i : Nat) (h : 8 * l.length ≤ i) : Rad.bit l i = 0 := by
  unfold Rad.bit; rw [Rad.g_out (by omega)]; simp

end Go.Proofs.YtimbhneegphhbaaGreatDoor.radw

namespace Go.Proofs.YtimbhneegphhbaaGreatDoor.radw
open Go.ChangeShapes Go.WideShapes Go.ChangeAt Go.RowKit Go.Proofs.YtimbhneegphhbaaGreatDoor.common
attribute [local go_sem ↓] Go.wp_at_zero Go.wp_at_succ

theorem lets_b64 (T l : List UInt8) (n : Nat) (hn : n = l.length) : lets T (Rad.bit l) 6 ((8 * n + 5) / 6) = Rad.b64 T l := by
  subst hn
  unfold lets Rad.b64 Rad.n6
  congr 1
  funext m
  rw [Rad.six_bits]

end Go.Proofs.YtimbhneegphhbaaGreatDoor.radw

namespace Go.Proofs.YtimbhneegphhbaaGreatDoor.radw
open Go.ChangeShapes Go.WideShapes Go.ChangeAt Go.RowKit Go.Proofs.YtimbhneegphhbaaGreatDoor.common

end Go.Proofs.YtimbhneegphhbaaGreatDoor.radw

namespace Go.Proofs.YtimbhneegphhbaaGreatDoor.radw
open Go.ChangeShapes Go.WideShapes Go.ChangeAt Go.RowKit Go.Proofs.YtimbhneegphhbaaGreatDoor.common
attribute [local go_sem ↓] Go.wp_at_zero Go.wp_at_succ

abbrev UrlTab (w : World) : Prop := TabAt 22 Rad.urlT w

theorem refUrl_any (s : ByteArray) (w : World) (hs : s.size ≤ 1048576) :
    Calls Tryz.prog 88 #[.string s] w fun e w' => e = .returned (.string ⟨(Rad.b64 Rad.urlT s.data.toList).toArray⟩) ∧ Below w.heap.size w w' := by
  have HS := hide hs
  clear hs
  go_enter Tryz.func88, Tryz.ntmps88
  go_wp2_with fail
  refine (bits_any s w HS.out).mono ?_
  rintro e w1 ⟨v, rfl, hown, hb⟩
  have hI := Ints.of_own hown
  have HI := hide hI
  have HB := hide hb
  clear hown hI hb
  have hlen := hide (len_list s)
  go_wp2_with fail
  refine (letters6_any v (8 * s.size) (by have := HS.out; omega) (Rad.bit s.data.toList) (Rad.bit_lt _) (fun i hi => bit_out _ _ (by rw [hlen.out]; exact hi)) _ Rad.urlT rfl rfl w1 HI.out).mono ?_
  rintro e w2 ⟨rfl, hb2⟩
  have HB2 := hide (HB.out.trans (hb2.mono HB.out.size))
  clear hb2
  rw [lets_b64 _ _ _ hlen.out.symm]
  go_wp2_with fail
  go_ret
  exact ⟨rfl, HB2.out⟩

end Go.Proofs.YtimbhneegphhbaaGreatDoor.radw

namespace Go.Proofs.YtimbhneegphhbaaGreatDoor.radw
open Go.ChangeShapes Go.WideShapes Go.ChangeAt Go.RowKit Go.Proofs.YtimbhneegphhbaaGreatDoor.common

set_option maxRecDepth 100000 in
set_option maxHeartbeats 800000 in
theorem unurl_any (s : ByteArray) (w : World) (hs : s.size ≤ reachBytes) (ea : Addr) (he : Txt w ea) (ht : UrlTab w) :
    Calls Tryz.prog 57 #[.string s] w fun x w' => Below w.heap.size w w' ∧
      (((Rad.valid Rad.urlT 64 s.data.toList ∧ Rad.restOk Rad.urlT s.data.toList) ∧ x = .returned (.tuple #[.string ⟨(Rad.un64 Rad.urlT s.data.toList).toArray⟩, .nilIface])) ∨
        (¬ (Rad.valid Rad.urlT 64 s.data.toList ∧ Rad.restOk Rad.urlT s.data.toList) ∧ x = .returned (.tuple #[.string ⟨#[]⟩, X ea]))) := by
  have HS := hide hs
  have HE := hide he
  have HT := hide ht
  clear he ht hs
  go_enter Tryz.func57, Tryz.ntmps57
  go_wp2_with fail
  refine (urlReading_any w HT.out).mono ?_
  rintro x w1 ⟨rfl, hb1⟩
  have HB1 := hide hb1
  clear hb1
  go_wp2_with fail
  refine (numbers_any Rad.urlT 64 (by decide) s w1 HS.out ea (HE.out.below HB1.out)).mono ?_
  rintro x w2 ⟨hb2, ⟨hval, rfl, hl⟩ | ⟨hval, rfl⟩⟩
  · have hg2 : w1.heap.size + 1 < w2.heap.size ∨ s.size = 0 := by
      by_cases h0 : s.size = 0
      · exact Or.inr h0
      · exact Or.inl (there_lt hl.1 (by simp; omega))
    have HB2 := hide (HB1.out.trans (hb2.mono HB1.out.size))
    have HVL := hide hval
    have HJ := hide (joinSixes_any Rad.urlT s (w1.heap.size + 1) HS.out w2 hg2 hl ea (HE.out.below HB2.out))
    clear hb2 hval HB1 hl hg2
    generalize w1.heap.size + 1 = g at *
    go_wp2_with fail
    refine HJ.out.mono ?_
    rintro x w3 ⟨hb3, ⟨hr, rfl⟩ | ⟨hr, rfl⟩⟩
    · have HB3 := hide (HB2.out.trans (hb3.mono HB2.out.size))
      have HR := hide hr
      clear hb3 hr HJ
      go_wp2_with fail
      go_ret2
      exact ⟨HB3.out, Or.inl ⟨⟨HVL.out, HR.out⟩, rfl⟩⟩
    · have HB3 := hide (HB2.out.trans (hb3.mono HB2.out.size))
      have HR := hide hr
      clear hb3 hr HJ
      go_wp2_with fail
      go_ret2
      exact ⟨HB3.out, Or.inr ⟨fun h => HR.out h.2, rfl⟩⟩
  · have HB2 := hide (HB1.out.trans (hb2.mono HB1.out.size))
    have HVL := hide hval
    clear hb2 hval HB1
    go_wp2_with fail
    go_ret2
    exact ⟨HB2.out, Or.inr ⟨fun h => HVL.out h.1, rfl⟩⟩

end Go.Proofs.YtimbhneegphhbaaGreatDoor.radw

namespace Go.Proofs.YtimbhneegphhbaaGreatDoor.tm
open Go.ChangeShapes Go.WideShapes Go.ChangeAt Go.RowKit Go.Proofs.YtimbhneegphhbaaGreatDoor.common Go.Proofs.YtimbhneegphhbaaGreatDoor.bk
attribute [local go_sem ↓] Go.wp_at_zero Go.wp_at_succ

set_option maxRecDepth 100000 in
set_option maxHeartbeats 1600000 in
theorem refWithin_any (s : ByteArray) (most lo hi : Nat) (w : World) (hs : s.size ≤ 4611686018427387904) :
    Calls Tryz.prog 67 #[.string s, .int .i64 most, .int .u8 lo, .int .u8 hi] w fun e w' => e = .returned (.bool (Tm.word most (Tm.btw lo hi) s.data.toList)) ∧ w' = w := by
  have HT : Hid (∀ k (_ : k < s.size), (s.data.toList.take (k + 1)).all (Tm.btw lo hi) = ((s.data.toList.take k).all (Tm.btw lo hi) && Tm.btw lo hi s[k])) := fun k h => Tm.all_take _ _ k (by simpa using h)
  have HE : Hid (s.data.toList.take s.size = s.data.toList) := take_all s
  have HA : Hid (∀ k, (s.data.toList.take k).all (Tm.btw lo hi) = false → s.data.toList.all (Tm.btw lo hi) = false) := fun k h => Tm.all_short _ _ k h
  have HW : Hid (Tm.word most (Tm.btw lo hi) s.data.toList = (!s.data.toList.isEmpty && decide (s.size ≤ most) && s.data.toList.all (Tm.btw lo hi))) := by
    show _ = _
    unfold Tm.word
    rw [len_list]
  go_enter Tryz.func67, Tryz.ntmps67
  go_wp2_with fail
  go_loopw [9] (fun i wr => ∃ k : Nat, k ≤ s.size ∧ i = .int .i64 k ∧ (s.data.toList.take k).all (Tm.btw lo hi) = true ∧ wr = w) (fun i _ => s.size - (intOf i).toNat)
  case atStart => exact ⟨0, Nat.zero_le _, rfl, by simp, rfl⟩
  case round =>
    obtain ⟨k, hk, rfl, ha, rfl⟩ := hrel
    have HAK := hide ha
    clear ha
    by_cases hlt : k < s.size
    · have hki : (k : Int) < (s.size : Int) := by omega
      have HTK := hide (HT.out k hlt)
      have eb : ∀ c : UInt8, Tm.btw lo hi c = decide (lo ≤ c.toNat ∧ c.toNat ≤ hi) := fun _ => rfl
      have HB := hide (eb s[k])
      clear eb
      by_cases h1 : s[k].toNat < lo
      · have h1i : (s[k].toNat : Int) < (lo : Int) := by omega
        have HR : Hid (s.data.toList.all (Tm.btw lo hi) = false) := HA.out (k + 1) (by rw [HTK.out, HB.out, decide_eq_false (fun h => absurd h.1 (by omega)), Bool.and_false])
        go_wp2_with fail
        go_ret
        exact ⟨by rw [HW.out, HR.out, Bool.and_false]; rfl, rfl⟩
      · have h1i : ¬ (s[k].toNat : Int) < (lo : Int) := by omega
        by_cases h2 : hi < s[k].toNat
        · have h2i : (hi : Int) < (s[k].toNat : Int) := by omega
          have HR : Hid (s.data.toList.all (Tm.btw lo hi) = false) := HA.out (k + 1) (by rw [HTK.out, HB.out, decide_eq_false (fun h => absurd h.2 (by omega)), Bool.and_false])
          go_wp2_with fail
          go_ret
          exact ⟨by rw [HW.out, HR.out, Bool.and_false]; rfl, rfl⟩
        · have h2i : ¬ (hi : Int) < (s[k].toNat : Int) := by omega
          have HR : Hid ((s.data.toList.take (k + 1)).all (Tm.btw lo hi) = true) := by
            show _ = _
            rw [HTK.out, HB.out, HAK.out, decide_eq_true ⟨by omega, by omega⟩]; rfl
          go_wp2_with fail
          go_roundw
          case rel => exact ⟨k + 1, by omega, by go_num, HR.out, by trivial⟩
          case measure => simp [intOf]; omega
    · obtain rfl : k = s.size := by omega
      rw [HE.out] at HAK
      by_cases he : s = ⟨#[]⟩
      · subst he
        go_wp2_with fail
        go_ret
        exact ⟨rfl, rfl⟩
      · obtain ⟨h1, h2, h3⟩ := word_ne he
        by_cases hm : s.size ≤ most
        · have hmi : (s.size : Int) ≤ (most : Int) := by omega
          have HR : Hid (Tm.word most (Tm.btw lo hi) s.data.toList = true) := by
            show _ = _
            rw [HW.out, HAK.out, h2, decide_eq_true hm]; rfl
          go_wp2_with fail
          go_ret
          exact ⟨by rw [HR.out]; rfl, rfl⟩
        · have hmi : ¬ (s.size : Int) ≤ (most : Int) := by omega
          have HR : Hid (Tm.word most (Tm.btw lo hi) s.data.toList = false) := by
            show _ = _
            rw [HW.out, decide_eq_false hm]; simp
          go_wp2_with fail
          go_ret
          exact ⟨by rw [HR.out]; rfl, rfl⟩

end Go.Proofs.YtimbhneegphhbaaGreatDoor.tm

namespace Go.Proofs.YtimbhneegphhbaaGreatDoor.tm
open Go.ChangeShapes Go.WideShapes Go.ChangeAt Go.RowKit Go.Proofs.YtimbhneegphhbaaGreatDoor.common Go.Proofs.YtimbhneegphhbaaGreatDoor.bk
attribute [local go_sem ↓] Go.wp_at_zero Go.wp_at_succ

set_option maxHeartbeats 800000 in
theorem name_any (s : ByteArray) (w : World) (hs : s.size ≤ 4611686018427387904) :
    Calls Tryz.prog 41 #[.string s] w fun e w' => e = .returned (.bool (Tm.word 64 (Tm.btw 33 126) s.data.toList)) ∧ w' = w := by
  have HA := hide (fun W => isWord_any s 64 _ _ W hs vis_enters vis_tests)
  generalize Tm.word 64 (Tm.btw 33 126) s.data.toList = t at *
  go_enter Tryz.func41, Tryz.ntmps41
  go_wp2_with (go_at_call 58; refine (HA.out _).mono ?_; rintro x w2 ⟨rfl, rfl⟩)
  go_ret
  exact ⟨rfl, rfl⟩
set_option maxHeartbeats 800000 in
theorem refName_any (s : ByteArray) (w : World) (hs : s.size ≤ 4611686018427387904) :
    Calls Tryz.prog 51 #[.string s] w fun e w' => e = .returned (.bool (Tm.word 64 (Tm.btw 33 126) s.data.toList)) ∧ w' = w := by
  have HA := hide (fun W => refWithin_any s 64 33 126 W hs)
  generalize Tm.word 64 (Tm.btw 33 126) s.data.toList = t at *
  go_enter Tryz.func51, Tryz.ntmps51
  go_wp2_with (go_at_call 67; refine (HA.out _).mono ?_; rintro x w2 ⟨rfl, rfl⟩)
  go_ret
  exact ⟨rfl, rfl⟩
end Go.Proofs.YtimbhneegphhbaaGreatDoor.tm
