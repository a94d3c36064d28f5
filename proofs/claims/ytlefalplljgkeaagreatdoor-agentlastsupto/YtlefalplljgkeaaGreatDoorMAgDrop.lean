import Derived.Test.YtlefalplljgkeaaGreatDoorMAgFr
import Derived.Maps.OwnSet
import Derived.Maps.OwnOps
namespace Go.Proofs.YtlefalplljgkeaaGreatDoor.ag
open Go.ChangeShapes Go.WideShapes Go.ChangeAt Go.RowKit Go.Proofs.YtlefalplljgkeaaGreatDoor.common Go.Maps Go.WideElems
attribute [local go_sem ↓] Go.wp_at_zero Go.wp_at_succ

abbrev cbx (c : Ck) : Obj := .cells #[.string c.value, .int .i64 c.age, .int .i64 c.since] 94
theorem cbx_cells {w : World} {F : Nat} {c : Ck} (h : w.heap[F]? = some (cbx c)) : w.cell? ⟨F, 0, none⟩ = some (.string c.value) ∧ w.cell? ⟨F, 1, none⟩ = some (.int .i64 c.age) ∧ w.cell? ⟨F, 2, none⟩ = some (.int .i64 c.since) := by
  refine ⟨?_, ?_, ?_⟩ <;> simp [World.cell?, h]
theorem cbx_rng {w : World} {F : Nat} {c : Ck} (h : w.heap[F]? = some (cbx c)) : w.rangeAt F 0 c.cells := by
  obtain ⟨a, b, d⟩ := cbx_cells h
  intro j v hv
  match j, hv with
  | 0, hv => cases hv; exact a
  | 1, hv => cases hv; exact b
  | 2, hv => cases hv; exact d
  | j + 3, hv => simp [Ck.cells] at hv
theorem sizeC : (Tryz.prog.info? 94).map (·.size) = some 3 := by kernel_rfl
/-- numbers of a cookie lie so that nothing wraps -/
structure Cfit (c : Ck) : Prop where
  a1 : c.age ≤ 9223372036854775807
  s0 : 0 ≤ c.since
  s1 : c.since ≤ 9223372036854775807
theorem wrap_mid (x : Int) (h0 : -9223372036854775808 ≤ x) (h1 : x ≤ 9223372036854775807) : IntKind.i64.wrap x = x := by
  by_cases h : 0 ≤ x
  · exact bk.wrap_le x h h1
  · have hm : x % 18446744073709551616 = x + 18446744073709551616 := by omega
    unfold IntKind.wrap
    simp only [IntKind.bits, IntKind.signed, Int.reducePow, Nat.reduceSub, hm]
    rw [if_pos (by simp; omega)]; omega
def Rng64 (x : Int) : Prop := 0 ≤ x ∧ x ≤ 9223372036854775807

set_option maxRecDepth 100000 in
set_option maxHeartbeats 1600000 in
theorem lasts_any (c : Ck) (now : Int) (w : World) (hn : Rng64 now) (hc : Cfit c) :
    Calls Tryz.prog 46 #[c.val, .int .i64 now] w fun e w' => e = .returned (.bool (c.lasts now)) ∧ Below w.heap.size w w' := by
  have HB := hide (al w (cbx c))
  obtain ⟨c0, c1, c2⟩ := cbx_cells (heap_at w (cbx c))
  have hs := hc.s0
  have hs1 := hc.s1
  obtain ⟨h0, h1⟩ := hn
  have hw : wrap64 (now - c.since) = now - c.since := by unfold wrap64; omega
  have hw2 : IntKind.i64.wrap (now - c.since) = now - c.since := by rw [wrap_mid _ (by omega) (by omega)]
  clear hc
  unfold Ck.val
  by_cases hl : c.age < 0
  · have hd : decide (c.age < 0) = true := decide_eq_true hl
    have HR : Hid (c.lasts now = true) := by show _ = _; unfold Ck.lasts; rw [hd]; rfl
    go_enter Tryz.func46, Tryz.ntmps46
    go_wp2_with fail
    go_ret
    exact ⟨by rw [HR.out]; rfl, HB.out⟩
  · have hd : decide (c.age < 0) = false := decide_eq_false hl
    have HR : Hid (c.lasts now = decide (now - c.since < c.age)) := by show _ = _; unfold Ck.lasts; rw [hd]; rfl
    go_enter Tryz.func46, Tryz.ntmps46
    go_wp2_with fail
    go_ret
    exact ⟨by rw [HR.out]; rfl, HB.out⟩

theorem gb_of {w w' : World} (h : Below w.heap.size w w') : w.grownBy w' none := ⟨h.os, h.tape, h.output, h.size, fun i hi _ => h.block i hi⟩
theorem turn_tn {w w' : World} {b : Nat} (h : w.mapTurned w' b) {S : Nat → Prop} (hS : S b) : Tn S w w' := Tn.grown h.grown fun k e => Or.inl (by cases e; exact hS)

set_option maxRecDepth 100000 in
set_option maxHeartbeats 3200000 in
theorem drop_any (mb : Nat) (R : List Ck) (now : Int) (w : World) (hJ : Jar w mb R) (hc : ∀ c ∈ R, Cfit c) (hn : Rng64 now) :
    Calls Tryz.prog 40 #[.map (some mb), .int .i64 now] w fun e w' => e = .returned (.tuple #[]) ∧ Jar w' mb (still R now) ∧ Tn (fun k => k = mb) w w' := by
  obtain ⟨D, n, hO, hH⟩ := hJ
  have HN := hide hH.nod
  have HL := hide (fun c (h : c ∈ R) W => lasts_any c now W hn (hc c h))
  have HOLD := hide (fun y (h : y ∈ R) => hH.has h)
  have hO1 := hO
  have HH := hide hH
  clear hH hc hn
  go_enter Tryz.func40, Tryz.ntmps40
  go_wp2_with (first | (at_range; refine wpList_range_own _ rfl _ 53 rfl 9 94 keyed Tryz.underlying53 rdV mb n D rfl hO ?_; intro w0 hrg0 hg0 hs0) | go_in)
  go_frame
  have HT0 : Hid (Tn (fun k => k = mb ∨ w.heap.size ≤ k) w w0) := Tn.grown hg0 fun k e => by cases e
  have HSZ := hide hs0
  have HLT := hide hO1.lt
  clear hg0 hs0 hO hO1
  go_loopw [4] (fun _ wr => ∃ left cnt D', Rng wr mb w.heap.size n D' left cnt ∧ Hid (Hs D' (kp R left now)) ∧ Hid (Tn (fun k => k = mb ∨ w.heap.size ≤ k) w wr)) (fun _ wr => wr.rangeLeft mb w.heap.size)
  case atStart =>
    refine ⟨Maps.has D, _, D, hrg0, ?_, HT0⟩
    show Hs D (kp R (Maps.has D) now)
    rw [kp_start (left := Maps.has D) (fun y hy => HOLD.out y hy)]
    exact HH.out
  case round =>
    obtain ⟨left, cnt, D', hrg, HK, HT⟩ := hrel
    clear HT0 HH
    go_wp2_with (at_next; refine wpList_step _ rfl _ rfl mb w.heap.size n D' (kp R left now) HK.out left cnt rfl hrg ?_ ?_)
    · intro hl0
      have HE : Hid (Jar wr mb (still R now) ∧ Tn (fun k => k = mb) w wr) := by
        refine ⟨⟨D', n, hrg.owns, ?_⟩, HT.out.mono fun k hk h => ?_⟩
        · rw [← kp_end (R := R) (now := now) hl0]; exact HK.out
        · rcases h with h | h
          · exact h
          · omega
      clear hl0 hrg
      go_wp2_with fail
      go_end0
      exact ⟨rfl, HE.out⟩
    · intro x w1 cnt1 hx hlx hsx hrg1 hlt hg1 hs1 hen
      have hxR := kp_in hx
      have HT1 : Hid (Tn (fun k => k = mb ∨ w.heap.size ≤ k) w (w1.alloc (cbx x))) := ((HT.out.trans (Tn.grown hg1 fun k e => Or.inl (by cases e; exact Or.inr (Nat.le_refl _))))).trans (Tn.alloc _ _)
      have hrg2 := hrg1.alloc (cbx x)
      have HLA := hide (HL.out x hxR (w1.alloc (cbx x)))
      have HRN := hide (cbx_rng (heap_at w1 (cbx x)))
      have HLE := hide (show cnt1 < wr.rangeLeft mb w.heap.size by rw [hrg.left_eq]; exact hlt)
      cases hls : x.lasts now with
      | true =>
        rw [hls] at HLA
        have HKS := hide (kp_stay HN.out hxR (left := left) hls)
        clear hrg hlt hg1 hs1 hrg1 hls hx hlx
        go_wp2_with fail
        refine HLA.out.mono ?_
        rintro e w2 ⟨rfl, b2⟩
        have HT2 := hide (HT1.out.trans (Tn.of b2))
        have hrg3 : Rng w2 mb w.heap.size n D' (strike left x) cnt1 := hrg2.kept (gb_of b2) (by simp) (by simp)
        have hle3 := hrg3.left_eq
        clear hrg2 b2 hen
        go_wp2_with fail
        go_roundw
        case rel => exact ⟨_, _, D', hrg3, (by show Hs D' (kp R (strike left x) now); rw [HKS.out]; exact HK.out), HT2⟩
        case measure => have := HLE.out; omega
      | false =>
        rw [hls] at HLA
        have HKS := hide (kp_go HN.out hxR (left := left) hls)
        clear hrg hlt hg1 hs1 hrg1 hls hx hlx
        go_wp2_with fail
        refine HLA.out.mono ?_
        rintro e w2 ⟨rfl, b2⟩
        have HT2 := hide (HT1.out.trans (Tn.of b2))
        have hrg3 : Rng w2 mb w.heap.size n D' (strike left x) cnt1 := hrg2.kept (gb_of b2) (by simp) (by simp)
        have HTD := hide (hrg3.owns.tidy keyed)
        clear hrg2 b2 hen
        go_wp2_with (at_delete; refine wpList_delete_ranges _ rfl _ _ 53 9 rfl 94 keyed Tryz.underlying53 rdV mb w.heap.size n D' (strike left x) cnt1 rfl hrg3 (.string x.name) (keyL x.name) rfl (keyL_of x.name hsx) ?_; intro w3 cnt3 hrg4 hle4 htn; go_frame)
        have hrg5 : Rng w3 mb w.heap.size n (D'.del (keyL x.name)) (strike left x) cnt3 := by
          have h := hrg4
          unfold strike at h ⊢
          rw [Maps.strike_twice] at h
          exact h
        have hle5 := hrg5.left_eq
        clear hrg4
        go_roundw
        case rel => exact ⟨_, _, _, hrg5, (by show Hs _ (kp R (strike left x) now); rw [← HKS.out]; exact HK.out.del HTD.out x.name), HT2.out.trans (turn_tn htn (Or.inl rfl))⟩
        case measure => have := HLE.out; omega
end Go.Proofs.YtlefalplljgkeaaGreatDoor.ag
