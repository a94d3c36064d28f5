import Derived.Test.YtkkkgpcdnjijbaaStrWithin
namespace Go.Proofs.Ytkkkgpcdnjijbaa.ss
open Go.ChangeShapes Go.WideShapes Go.ChangeAt Go.RowKit Go.Proofs.Ytkkkgpcdnjijbaa.common Go.Proofs.Ytkkkgpcdnjijbaa.bk
attribute [local go_sem ↓] Go.wp_at_zero Go.wp_at_succ

set_option maxRecDepth 100000 in
set_option maxHeartbeats 1600000 in
theorem refAmong_any (v : Value) (l : List ByteArray) (x : ByteArray) (w : World) (hl : Lies w v l) (hs : l.length ≤ 4611686018427387904) :
    Calls Try.prog 29 #[.string x, v] w fun e w' => e = .returned (.bool (has x l)) ∧ w' = w := by
  obtain ⟨oa, cap, rfl, hc⟩ := hl
  have HC := hide hc
  clear hc
  go_enter Try.func29, Try.ntmps29
  go_wp2_with fail
  go_loopw [5] (fun i wr => ∃ k : Nat, k ≤ l.length ∧ i = .int .i64 k ∧ Hid (∀ y ∈ l.take k, y ≠ x) ∧ wr = w) (fun i _ => l.length - (intOf i).toNat)
  case atStart => exact ⟨0, Nat.zero_le _, rfl, fun y h => by simp at h, rfl⟩
  case round =>
    obtain ⟨k, hk, rfl, HN, rfl⟩ := hrel
    by_cases hlt : k < l.length
    · have hki : (k : Int) < (l.length : Int) := by omega
      obtain ⟨b, o, rfl, hb, c0⟩ := HC.out k hlt
      by_cases he : l[k] = x
      · have HM : Hid (has x l = true) := has_iff.2 (he ▸ List.getElem_mem hlt)
        generalize l[k] = p at *
        subst he
        go_wp2_with fail
        go_ret
        exact ⟨by rw [HM.out]; rfl, rfl⟩
      · have HN1 := hide (no_next hlt HN.out he)
        have e1 : (l[k].toList == x.toList) = false := ne_list he
        generalize l[k] = p at *
        go_wp2_with fail
        go_roundw
        case rel => exact ⟨k + 1, by omega, by go_num, HN1, by trivial⟩
        case measure => simp [intOf]; omega
    · obtain rfl : k = l.length := by omega
      have HM : Hid (has x l = false) := by
        have := HN.out
        rw [List.take_length] at this
        exact has_no this
      go_wp2_with fail
      go_ret
      exact ⟨by rw [HM.out]; rfl, rfl⟩

set_option maxRecDepth 100000 in
set_option maxHeartbeats 1600000 in
theorem refWin_any (va vb : Value) (la lb : List ByteArray) (w : World) (ha : Lies w va la) (hb : Lies w vb lb) (hsa : la.length ≤ 4611686018427387904) (hsb : lb.length ≤ 4611686018427387904) :
    Calls Try.prog 16 #[va, vb] w fun e w' => e = .returned (.bool (win la lb)) ∧ w' = w := by
  obtain ⟨oa, cap, rfl, hc⟩ := ha
  have HC := hide hc
  have HB := hide hb
  clear hc hb
  have HI := hide (fun x W (h : Lies W vb lb) => refAmong_any vb lb x W h hsb)
  have HT : Hid (∀ k (h : k < la.length), (la.take (k + 1)).all (fun x => has x lb) = ((la.take k).all (fun x => has x lb) && has la[k] lb)) := fun k h => all_takeS la _ k h
  have HA : Hid (∀ k, (la.take k).all (fun x => has x lb) = false → win la lb = false) := fun k h => all_shortS la _ k h
  go_enter Try.func16, Try.ntmps16
  go_wp2_with fail
  go_loopw [5] (fun i wr => ∃ k : Nat, k ≤ la.length ∧ i = .int .i64 k ∧ Hid ((la.take k).all (fun x => has x lb) = true) ∧ wr = w) (fun i _ => la.length - (intOf i).toNat)
  case atStart => exact ⟨0, Nat.zero_le _, rfl, by rw [List.take_zero]; rfl, rfl⟩
  case round =>
    obtain ⟨k, hk, rfl, HN, rfl⟩ := hrel
    by_cases hlt : k < la.length
    · have hki : (k : Int) < (la.length : Int) := by omega
      obtain ⟨b, o, rfl, hb, c0⟩ := HC.out k hlt
      have HTK := hide (HT.out k hlt)
      generalize la[k] = p at *
      cases hp : has p lb with
      | true =>
        have HP := hide hp
        clear hp
        go_wp2_with (go_at_call 29; refine (HI.out _ _ HB.out).mono ?_; rintro x w2 ⟨rfl, rfl⟩; rw [HP.out])
        go_roundw
        case rel => exact ⟨k + 1, by omega, by go_num, by rw [HTK.out, HN.out, HP.out]; rfl, by trivial⟩
        case measure => simp [intOf]; omega
      | false =>
        have HP := hide hp
        clear hp
        have HR : Hid (win la lb = false) := HA.out (k + 1) (by rw [HTK.out, HP.out, Bool.and_false])
        go_wp2_with (go_at_call 29; refine (HI.out _ _ HB.out).mono ?_; rintro x w2 ⟨rfl, rfl⟩; rw [HP.out])
        go_ret
        exact ⟨by rw [HR.out]; rfl, rfl⟩
    · obtain rfl : k = la.length := by omega
      have HR : Hid (win la lb = true) := by have := HN.out; rw [List.take_length] at this; exact this
      go_wp2_with fail
      go_ret
      exact ⟨by rw [HR.out]; rfl, rfl⟩

end Go.Proofs.Ytkkkgpcdnjijbaa.ss
