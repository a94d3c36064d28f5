import Derived.Test.YtpmmbnlfifbcfaaDoorPkPassL
import Derived.Test.YtpmmbnlfifbcfaaDoorPkKnown
namespace Go.Proofs.YtpmmbnlfifbcfaaDoor.pk
open Go.ChangeShapes Go.WideShapes Go.ChangeAt Go.RowKit Go.Proofs.YtpmmbnlfifbcfaaDoor.common

theorem add_run (a b : ByteArray) (X : World) (h : a.size + b.size ≤ 9223372036854775807) : (Op.stringOp .add a b).run Tryd.prog X = .ok (.string (a ++ b)) X := run_string_add_sum X _ _ h
theorem pw_size (p a b : ByteArray) (n : Int) (h : b.size ≠ 32) : pw p a b n = false := by
  unfold pw
  rw [sm_ne (fun e => h (by rw [e, sd_size])), Bool.and_false]
theorem okS_first : okS lB 1 := ⟨⟨by decide, by decide⟩, by decide, by decide⟩

/-- what the first three calls answer -/
structure First (w : World) (D : ByteArray) : Prop where
  c1 : ∀ W, Below w.heap.size w W → Calls Tryd.prog 6 #[.string pB, .string lB, .int .i64 1] W fun x w' => x = .returned (.tuple #[sec lB D, .nilIface]) ∧ Below W.heap.size W w'
  c2 : ∀ W, Below w.heap.size w W → Calls Tryd.prog 7 #[.string pB, sec lB D, .int .i64 1] W fun x w' => x = .returned (.bool true) ∧ Below W.heap.size W w'
  c3 : ∀ W, Below w.heap.size w W → Calls Tryd.prog 7 #[.string qB, sec lB D, .int .i64 1] W fun x w' => x = .returned (.bool false) ∧ Below W.heap.size W w'
theorem first_any (w : World) (ht : Sh w) (a0 : Addr) (he : Arg w a0) : First w (sd pB lB 1) := by
  refine ⟨fun W hW => seal_good pB lB 1 W okS_first (by decide) (ht.below hW), fun W hW => ?_, fun W hW => ?_⟩
  · have := password_any pB lB (sd pB lB 1) 1 W (by decide) (by decide) (by rw [sd_size]; decide) (ht.below hW) a0 (he.below hW)
    rwa [pw_own pB lB 1 okS_first.2] at this
  · have := password_any qB lB (sd pB lB 1) 1 W (by decide) (by decide) (by rw [sd_size]; decide) (ht.below hW) a0 (he.below hW)
    have h2 : pw qB lB (sd pB lB 1) 1 = false := by unfold pw; rw [sm_ne known_ne, Bool.and_false]
    rwa [h2] at this

set_option maxRecDepth 100000 in
set_option maxHeartbeats 6400000 in
theorem opens_bad (p s o : ByteArray) (n k : Int) (D1 : ByteArray) (w : World) (hF : First w D1) (a0 : Addr)
    (h1 : ∀ W, Below w.heap.size w W → Calls Tryd.prog 6 #[.string p, .string s, .int .i64 n] W fun x w' => x = .returned (.tuple #[sec ⟨#[]⟩ ⟨#[]⟩, .iface 76 (.pointer (some a0))]) ∧ Below W.heap.size W w')
    (hk : ¬ okS s n) :
    Calls Tryd.prog 3 #[.agg #[.string p, .string s, .int .i64 n, .string o, .int .i64 k]] w fun e w' => e = .returned (.bool true) ∧ Below w.heap.size w w' := by
  obtain ⟨W0, hW0, hbl, hc⟩ := box5 w (.string p) (.string s) (.int .i64 n) (.string o) (.int .i64 k) 23
  have HF := hide hF
  have H1 := hide h1
  have HBL := hide hbl
  have HC := hide hc
  have HK := hide hk
  have HW0 := hide hW0
  clear h1 hbl hc hF hW0 hk
  go_enter Tryd.func3, Tryd.ntmps3
  go_wp2_with fail
  rw [← HW0.out]
  refine (HF.out.c1 _ HBL.out).mono ?_
  rintro x w1 ⟨rfl, hb1⟩
  have HB1 := hide hb1
  clear hb1
  obtain ⟨W1, hW1, hbl1, hc1⟩ := box2 w1 (.string lB) (.string D1) 25
  have HB2 := hide (keep2 HB1.out hbl1)
  obtain ⟨y0, y1⟩ := hc1 W1 (Below.refl _ _)
  have HC1 := hide hc1
  clear hbl1 hc1
  rw [hW1] at y0 y1
  go_wp2_with fail
  rw [← hW1] at *
  refine (HF.out.c2 _ (keep2 HBL.out HB2.out)).mono ?_
  rintro x w2 ⟨rfl, hb2⟩
  have HW1 := hide hW1
  clear hW1 y0 y1
  obtain ⟨y0, y1⟩ := HC1.out w2 hb2
  have HB3 := hide (keep2 HB2.out hb2)
  clear hb2
  go_wp2_with fail
  refine (HF.out.c3 _ (keep2 HBL.out HB3.out)).mono ?_
  rintro x w3 ⟨rfl, hb3⟩
  have HB4 := hide (keep2 HB3.out hb3)
  obtain ⟨z0, z1, z2, _⟩ := HC.out w3 HB4.out
  clear hb3 y0 y1
  go_wp2_with fail
  refine (H1.out _ (keep2 HBL.out HB4.out)).mono ?_
  rintro x w4 ⟨rfl, hb4⟩
  have HB5 := hide (keep2 HB4.out hb4)
  clear hb4 z0 z1 z2
  obtain ⟨W2, hW2, hbl2, hc2⟩ := box2 w4 (.string ⟨#[]⟩) (.string ⟨#[]⟩) 25
  have HB6 := hide (keep2 HB5.out hbl2)
  obtain ⟨z0, z1, z2, _⟩ := HC.out W2 HB6.out
  obtain ⟨y0, y1⟩ := hc2 W2 (Below.refl _ _)
  clear hbl2 hc2
  rw [hW2] at y0 y1 z0 z1 z2
  by_cases e1 : s.size = 0
  · obtain rfl := empty_is e1
    clear e1
    go_wp2
    rw [← hW2] at *
    go_ret
    exact ⟨by simp, keep2 HBL.out HB6.out⟩
  have q1 := nonempty (s := s) (by omega)
  by_cases e2 : 64 < s.size
  · have q2 : (64 : Int) < (s.size : Int) := by omega
    clear e1 e2
    go_wp2
    rw [← hW2] at *
    go_ret
    exact ⟨by simp, keep2 HBL.out HB6.out⟩
  have q2 : ¬ (64 : Int) < (s.size : Int) := by omega
  by_cases e3 : n < 1
  · clear e1 e2
    go_wp2
    rw [← hW2] at *
    go_ret
    exact ⟨by simp, keep2 HBL.out HB6.out⟩
  have e4 : (1000 : Int) < n := by
    by_cases h : n ≤ 1000
    · exact absurd ⟨⟨by omega, by omega⟩, by omega, h⟩ HK.out
    · omega
  clear e1 e2
  go_wp2
  rw [← hW2] at *
  go_ret
  exact ⟨by simp, keep2 HBL.out HB6.out⟩

set_option maxRecDepth 100000 in
set_option maxHeartbeats 6400000 in
theorem opens_good (p s o : ByteArray) (n k : Int) (D1 D D2 : ByteArray) (t : Bool) (w : World) (hF : First w D1)
    (h1 : ∀ W, Below w.heap.size w W → Calls Tryd.prog 6 #[.string p, .string s, .int .i64 n] W fun x w' => x = .returned (.tuple #[sec s D, .nilIface]) ∧ Below W.heap.size W w')
    (h2 : ∀ W, Below w.heap.size w W → Calls Tryd.prog 7 #[.string p, sec s D, .int .i64 n] W fun x w' => x = .returned (.bool true) ∧ Below W.heap.size W w')
    (h3 : ∀ W, Below w.heap.size w W → Calls Tryd.prog 6 #[.string o, .string s, .int .i64 n] W fun x w' => x = .returned (.tuple #[sec s D2, .nilIface]) ∧ Below W.heap.size W w')
    (h4 : ∀ W, Below w.heap.size w W → Calls Tryd.prog 7 #[.string o, sec s D, .int .i64 n] W fun x w' => x = .returned (.bool t) ∧ Below W.heap.size W w')
    (h5 : ∀ W, Below w.heap.size w W → Calls Tryd.prog 7 #[.string p, sec s (D.extract 0 31), .int .i64 n] W fun x w' => x = .returned (.bool false) ∧ Below W.heap.size W w')
    (h6 : ∀ W, Below w.heap.size w W → Calls Tryd.prog 7 #[.string p, sec s (D ++ ⟨#[0]⟩), .int .i64 n] W fun x w' => x = .returned (.bool false) ∧ Below W.heap.size W w')
    (hz : D.size = 32) (ht : (D2.toList == D.toList) = t) :
    Calls Tryd.prog 3 #[.agg #[.string p, .string s, .int .i64 n, .string o, .int .i64 k]] w fun e w' => e = .returned (.bool true) ∧ Below w.heap.size w w' := by
  obtain ⟨W0, hW0, hbl, hc⟩ := box5 w (.string p) (.string s) (.int .i64 n) (.string o) (.int .i64 k) 23
  have HF := hide hF
  have H1 := hide h1
  have H2 := hide h2
  have H3 := hide h3
  have H4 := hide h4
  have H5 := hide h5
  have H6 := hide h6
  have HBL := hide hbl
  have HC := hide hc
  have HW0 := hide hW0
  have HZ := hide hz
  have HT := hide ht
  clear h1 h2 h3 h4 h5 h6 hbl hc hF hW0 hz ht
  go_enter Tryd.func3, Tryd.ntmps3
  go_wp2_with fail
  rw [← HW0.out]
  refine (HF.out.c1 _ HBL.out).mono ?_
  rintro x w1 ⟨rfl, hb1⟩
  have HB1 := hide hb1
  clear hb1
  obtain ⟨W1, hW1, hbl1, hc1⟩ := box2 w1 (.string lB) (.string D1) 25
  have HB2 := hide (keep2 HB1.out hbl1)
  obtain ⟨y0, y1⟩ := hc1 W1 (Below.refl _ _)
  have HC1 := hide hc1
  clear hbl1 hc1
  rw [hW1] at y0 y1
  go_wp2_with fail
  rw [← hW1] at *
  refine (HF.out.c2 _ (keep2 HBL.out HB2.out)).mono ?_
  rintro x w2 ⟨rfl, hb2⟩
  have HW1 := hide hW1
  clear hW1 y0 y1
  obtain ⟨y0, y1⟩ := HC1.out w2 hb2
  have HB3 := hide (keep2 HB2.out hb2)
  clear hb2
  go_wp2_with fail
  refine (HF.out.c3 _ (keep2 HBL.out HB3.out)).mono ?_
  rintro x w3 ⟨rfl, hb3⟩
  have HB4 := hide (keep2 HB3.out hb3)
  obtain ⟨z0, z1, z2, _⟩ := HC.out w3 HB4.out
  clear hb3 y0 y1
  go_wp2_with fail
  refine (H1.out _ (keep2 HBL.out HB4.out)).mono ?_
  rintro x w4 ⟨rfl, hb4⟩
  have HB5 := hide (keep2 HB4.out hb4)
  clear hb4 z0 z1 z2
  obtain ⟨W2, hW2, hbl2, hc2⟩ := box2 w4 (.string s) (.string D) 25
  have HB6 := hide (keep2 HB5.out hbl2)
  obtain ⟨z0, z1, z2, _⟩ := HC.out W2 HB6.out
  obtain ⟨y0, y1⟩ := hc2 W2 (Below.refl _ _)
  have HC2 := hide hc2
  clear hbl2 hc2
  rw [hW2] at y0 y1 z0 z1 z2
  go_wp2_with fail
  rw [← hW2] at *
  refine (H2.out _ (keep2 HBL.out HB6.out)).mono ?_
  rintro x w5 ⟨rfl, hb5⟩
  have HB7 := hide (keep2 HB6.out hb5)
  have HW2 := hide hW2
  clear hW2 y0 y1 z0 z1 z2
  have K5 := hide hb5
  obtain ⟨z0, z1, z2, z3⟩ := HC.out w5 HB7.out
  obtain ⟨y0, y1⟩ := HC2.out w5 hb5
  have hz := HZ.out
  clear hb5
  go_wp2_with fail
  refine (H3.out _ (keep2 HBL.out HB7.out)).mono ?_
  rintro x w6 ⟨rfl, hb6⟩
  clear hz y0 y1 z0 z1 z2 z3
  have K6 := hide (keep2 K5.out hb6)
  have HB8 := hide (keep2 HB7.out hb6)
  clear hb6
  obtain ⟨W3, hW3, hbl3, hc3⟩ := box2 w6 (.string s) (.string D2) 25
  have K7 := hide (keep2 K6.out hbl3)
  have HB9 := hide (keep2 HB8.out hbl3)
  have x2 : ∀ X, Below W3.heap.size W3 X → X.cell? ⟨w.heap.size, 2, none⟩ = some (.int .i64 n) := fun X hX => (HC.out X (keep2 HB9.out hX)).2.2.1
  have x3 : ∀ X, Below W3.heap.size W3 X → X.cell? ⟨w.heap.size, 3, none⟩ = some (.string o) := fun X hX => (HC.out X (keep2 HB9.out hX)).2.2.2
  have u0 : ∀ X, Below W3.heap.size W3 X → X.cell? ⟨w4.heap.size, 0, none⟩ = some (.string s) := fun X hX => (HC2.out X (keep2 K7.out hX)).1
  have u1 : ∀ X, Below W3.heap.size W3 X → X.cell? ⟨w4.heap.size, 1, none⟩ = some (.string D) := fun X hX => (HC2.out X (keep2 K7.out hX)).2
  have v1 : ∀ X, Below W3.heap.size W3 X → X.cell? ⟨w6.heap.size, 1, none⟩ = some (.string D2) := fun X hX => (hc3 X hX).2
  have ht := HT.out
  have HW3 := hide hW3
  clear hbl3 hc3 hW3
  go_wp2_with fail
  rw [← HW3.out]
  go_region_held3 (fun X => Below W3.heap.size W3 X)
    (first
      | exact Below.refl _ _
      | assumption
      | exact keep2 (by assumption) (by assumption)
      | exact Below.drew (by assumption)
      | exact (Below.refl _ _).drew)
    ((go_at_call 7; refine (H4.out _ (keep2 (keep2 HBL.out HB9.out) (by assumption))).mono ?_; rintro x w7 ⟨rfl, hb7⟩))
  have b7 : Below W3.heap.size W3 w7 := by assumption
  have B7 := hide b7
  have y0 : ∀ X, Below w7.heap.size w7 X → X.cell? ⟨w4.heap.size, 0, none⟩ = some (.string s) := fun X hX => u0 _ (keep2 b7 hX)
  have y1 : ∀ X, Below w7.heap.size w7 X → X.cell? ⟨w4.heap.size, 1, none⟩ = some (.string D) := fun X hX => u1 _ (keep2 b7 hX)
  have hz1 : (31 : Int) ≤ (D.size : Int) := by have := HZ.out; omega
  have hz2 : (31 : Nat) ≤ D.size := by have := HZ.out; omega
  clear x2 x3 u0 u1 v1 ht hb7 b7
  go_wp2_with fail
  go_region_held3 (fun X => Below w7.heap.size w7 X)
    (first
      | exact Below.refl _ _
      | assumption
      | exact (Below.refl _ _).drew
      | exact Below.drew (by assumption)
      | exact (Below.refl _ _).alloc (Nat.le_refl _) _
      | exact ((Below.refl _ _).drew).alloc (Nat.le_refl _) _
      | exact Below.alloc (by assumption) (Nat.le_refl _) _)
    (fail)
  obtain ⟨W4, hW4, hbl4, hc4⟩ := box2 w7 (.string s) (.string (D.extract 0 31)) 25
  rw [← hW4]
  have K8 := hide (keep2 K7.out B7.out)
  have K9 : Hid (Below W2.heap.size W2 W4.drew) := (keep2 K8.out hbl4).drew
  have HB10 : Hid (Below W0.heap.size W0 W4.drew) := (keep2 (keep2 HB9.out B7.out) hbl4).drew
  have HC4 := hide hc4
  obtain ⟨v0, v1⟩ := HC2.out _ K9.out
  have q33 : ∀ X : World, (Op.stringOp .add D ⟨#[0]⟩).run Tryd.prog X = .ok (.string (D ++ ⟨#[0]⟩)) X := fun X => add_run D ⟨#[0]⟩ X (by have h1 : (⟨#[0]⟩ : ByteArray).size = 1 := rfl; have := HZ.out; omega)
  have HW4 := hide hW4
  have hV4 : Below W4.heap.size W4 W4.drew := (Below.refl _ _).drew
  have HV4 := hide hV4
  clear y0 y1 hbl4 hc4 hW4 hz1 hz2 hV4
  generalize W4.drew = V4 at *
  generalize D ++ ⟨#[0]⟩ = D33 at *
  generalize D.extract 0 31 = D31 at *
  obtain ⟨W5, hW5, hbl5, hc5⟩ := box2 V4 (.string s) (.string D33) 25
  have HB11 := hide (keep2 HB10.out hbl5)
  obtain ⟨z0, _, z2, _⟩ := HC.out W5 HB11.out
  obtain ⟨t0, t1⟩ := HC4.out W5 (keep2 HV4.out hbl5)
  have HC5 := hide hc5
  have HW5 := hide hW5
  clear hbl5 hc5
  rw [hW5] at z0 z2 t0 t1
  go_wp2_with fail
  rw [← hW5] at *
  refine (H5.out _ (keep2 HBL.out HB11.out)).mono ?_
  rintro x w8 ⟨rfl, hb8⟩
  have HB12 := hide (keep2 HB11.out hb8)
  clear z0 z2 t0 t1 v0 v1 hW5
  obtain ⟨z0, _, z2, _⟩ := HC.out w8 HB12.out
  obtain ⟨t0, t1⟩ := HC5.out w8 hb8
  clear hb8
  go_wp2_with fail
  refine (H6.out _ (keep2 HBL.out HB12.out)).mono ?_
  rintro x w9 ⟨rfl, hb9⟩
  have HB13 := hide (keep2 HB12.out hb9)
  clear hb9 z0 z2 t0 t1
  go_wp2
  go_ret
  exact ⟨by simp, keep2 HBL.out HB13.out⟩

theorem lawOpens (p s o : ByteArray) (n k : Int) (w : World) (hp : p.size ≤ reachBytes) (ho : o.size ≤ reachBytes) (ht : Sh w) (a0 : Addr) (he : Arg w a0) :
    Calls Tryd.prog 3 #[.agg #[.string p, .string s, .int .i64 n, .string o, .int .i64 k]] w fun e w' => e = .returned (.bool true) ∧ Below w.heap.size w w' := by
  unfold reachBytes at hp ho
  by_cases h : okS s n
  · have hs : s.size ≤ 140737488351232 := by have := h.1.2; omega
    have c0 : (⟨#[0]⟩ : ByteArray).size = 1 := rfl
    have hpw : ∀ q b : ByteArray, q.size ≤ 140737488351232 → b.size ≤ 33 → ∀ W, Below w.heap.size w W → Calls Tryd.prog 7 #[.string q, sec s b, .int .i64 n] W fun x w' => x = .returned (.bool (pw q s b n)) ∧ Below W.heap.size W w' := fun q b hq hb W hW =>
      password_any q s b n W hq hs (by omega) (ht.below hW) a0 (he.below hW)
    have hz := sd_size p s n
    refine opens_good p s o n k (sd pB lB 1) (sd p s n) (sd o s n) (pw o s (sd p s n) n) w (first_any w ht a0 he) (fun W hW => seal_good p s n W h hp (ht.below hW)) (fun W hW => ?_) (fun W hW => seal_good o s n W h ho (ht.below hW)) (fun W hW => hpw o _ ho (by omega) W hW) (fun W hW => ?_) (fun W hW => ?_) hz ?_
    · have := hpw p (sd p s n) hp (by omega) W hW
      rwa [pw_own p s n h.2] at this
    · have := hpw p ((sd p s n).extract 0 31) hp (by rw [ByteArray.size_extract]; omega) W hW
      rwa [pw_size _ _ _ _ (by rw [ByteArray.size_extract]; omega)] at this
    · have := hpw p (sd p s n ++ ⟨#[0]⟩) hp (by rw [ByteArray.size_append]; omega) W hW
      rwa [pw_size _ _ _ _ (by rw [ByteArray.size_append]; omega)] at this
    · show sm (sd o s n) (sd p s n) = _
      unfold pw
      rw [okB_t h.2, Bool.true_and, sm_comm]
  · exact opens_bad p s o n k (sd pB lB 1) w (first_any w ht a0 he) a0 (fun W hW => seal_bad p s n W h a0 (he.below hW)) h

end Go.Proofs.YtpmmbnlfifbcfaaDoor.pk
