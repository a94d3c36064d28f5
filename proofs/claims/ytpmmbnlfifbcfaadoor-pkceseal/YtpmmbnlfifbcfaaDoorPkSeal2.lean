import Derived.Test.YtpmmbnlfifbcfaaDoorPkSeal
namespace Go.Proofs.YtpmmbnlfifbcfaaDoor.pk
open Go.ChangeShapes Go.WideShapes Go.ChangeAt Go.RowKit Go.Proofs.YtpmmbnlfifbcfaaDoor.common

theorem two_range {w : World} {R : Nat} {x y : Value} (h0 : w.cell? ⟨R, 0, none⟩ = some x) (h1 : w.cell? ⟨R, 1, none⟩ = some y) : w.rangeAt R 0 [x, y] := by
  intro j u hu
  match j, hu with
  | 0, hu => cases hu; exact h0
  | 1, hu => cases hu; exact h1

set_option maxRecDepth 100000 in
set_option maxHeartbeats 1600000 in
theorem rseal_good (p s : ByteArray) (n : Int) (w : World) (hk : okS s n) (hp : p.size ≤ 140737488351232) (ht : refw.Tabs w) :
    Calls Tryd.prog 8 #[.string p, .string s, .int .i64 n] w fun x w' => x = .returned (.tuple #[sec s (sd p s n), .int .i64 0]) ∧ Below w.heap.size w w' := by
  obtain ⟨⟨h1, h2⟩, h3⟩ := hk
  have q1 := nonempty h1
  have q2 : ¬ (64 : Int) < (s.size : Int) := by omega
  obtain ⟨W0, hW0, hbl, hc0⟩ := cell_laid w
  have H1 := hide (rst_good p s n W0 h3 hp (by omega) (ht.below hbl))
  have HBL := hide hbl
  have HC0 := hide hc0
  have HW0 := hide hW0
  generalize sd p s n = D at *
  clear hW0 hbl hc0 ht h1 h2 h3 hp
  go_enter Tryd.func8, Tryd.ntmps8
  go_wp2_with fail
  rw [← HW0.out]
  refine H1.out.mono ?_
  rintro x w1 ⟨rfl, hb1⟩
  obtain ⟨c0, c1, hf⟩ := HC0.out w1 hb1
  have f0 := hf 0
  have f1 := hf 1
  have HBw := hide (HBL.out.trans (hb1.mono HBL.out.size))
  clear hb1 hf
  go_wp2
  refine bodyPost_ret (v := .tuple #[sec s D, .int .i64 0]) (results_ct (b := w.heap.size) (o := 0) (cs := [.string s, .string D]) Tryd.results8 _ rfl (two_put w1 w.heap.size _ _ _ _ c0 c1) Tryd.underlying25 rfl sizeSec rfl) rfl ⟨rfl, (HBw.out.setCell (p := ⟨w.heap.size, 0, none⟩) (Nat.le_refl _) _).setCell (p := ⟨w.heap.size, 1, none⟩) (Nat.le_refl _) _⟩

set_option maxRecDepth 100000 in
set_option maxHeartbeats 3200000 in
theorem rseal_bad (p s : ByteArray) (n : Int) (w : World) (hk : ¬ okS s n) :
    Calls Tryd.prog 8 #[.string p, .string s, .int .i64 n] w fun x w' => x = .returned (.tuple #[sec ⟨#[]⟩ ⟨#[]⟩, .int .i64 1]) ∧ Below w.heap.size w w' := by
  obtain ⟨W0, hW0, hbl, hc0⟩ := cell_laid w
  have HN : Hid (¬ okR n ∨ ¬ (1 ≤ s.size ∧ s.size ≤ 64)) := by
    by_cases h : okR n
    · exact Or.inr fun h2 => hk ⟨h2, h⟩
    · exact Or.inl h
  have H1 : Hid (¬ okR n → Calls Tryd.prog 13 #[.string p, .string s, .int .i64 n] W0 fun x w' => x = .returned (.tuple #[.string ⟨#[]⟩, .int .i64 1]) ∧ Below W0.heap.size W0 w') := fun h => refw.refStretch_bad p s n W0 h
  obtain ⟨c0, c1, hf⟩ := hc0 W0 (Below.refl _ _)
  have f0 := hf 0
  have f1 := hf 1
  have HBL := hide hbl
  have HC0 := hide hc0
  have HW0 := hide hW0
  clear hW0 hbl hc0 hk hf
  by_cases h1 : 1 ≤ s.size
  · by_cases h2 : s.size ≤ 64
    · have q1 := nonempty h1
      have q2 : ¬ (64 : Int) < (s.size : Int) := by omega
      have H2 := hide (H1.out (by rcases HN.out with h | h; exact h; exact absurd ⟨h1, h2⟩ h))
      clear HN H1 h1 h2
      go_enter Tryd.func8, Tryd.ntmps8
      go_wp2_with fail
      rw [← HW0.out]
      refine H2.out.mono ?_
      rintro x w1 ⟨rfl, hb1⟩
      clear c0 c1 f0 f1
      obtain ⟨c0, c1, hf⟩ := HC0.out w1 hb1
      have f0 := hf 0
      have f1 := hf 1
      have HBw := hide (HBL.out.trans (hb1.mono HBL.out.size))
      clear hb1 hf
      go_wp2
      refine bodyPost_ret (v := .tuple #[sec ⟨#[]⟩ ⟨#[]⟩, .int .i64 1]) (results_ct (b := w.heap.size) (o := 0) (cs := [.string ⟨#[]⟩, .string ⟨#[]⟩]) Tryd.results8 _ rfl (two_put w1 w.heap.size _ _ _ _ c0 c1) Tryd.underlying25 rfl sizeSec rfl) rfl ⟨rfl, (HBw.out.setCell (p := ⟨w.heap.size, 0, none⟩) (Nat.le_refl _) _).setCell (p := ⟨w.heap.size, 1, none⟩) (Nat.le_refl _) _⟩
    · have q2 : (64 : Int) < (s.size : Int) := by omega
      have q1 := nonempty h1
      clear HN H1 h1 h2 HC0
      go_enter Tryd.func8, Tryd.ntmps8
      have HC01 := hide (two_range c0 c1)
      clear c0 c1 f0 f1
      go_wp2
      rw [← HW0.out]
      refine bodyPost_ret (v := .tuple #[sec ⟨#[]⟩ ⟨#[]⟩, .int .i64 1]) (results_ct (b := w.heap.size) (o := 0) (cs := [.string ⟨#[]⟩, .string ⟨#[]⟩]) Tryd.results8 _ rfl HC01.out Tryd.underlying25 rfl sizeSec rfl) rfl ⟨rfl, HBL.out⟩
  · obtain rfl := empty_is (s := s) (by omega)
    clear HN H1 h1 HC0
    go_enter Tryd.func8, Tryd.ntmps8
    have HC01 := hide (two_range c0 c1)
    clear c0 c1 f0 f1
    go_wp2
    rw [← HW0.out]
    refine bodyPost_ret (v := .tuple #[sec ⟨#[]⟩ ⟨#[]⟩, .int .i64 1]) (results_ct (b := w.heap.size) (o := 0) (cs := [.string ⟨#[]⟩, .string ⟨#[]⟩]) Tryd.results8 _ rfl HC01.out Tryd.underlying25 rfl sizeSec rfl) rfl ⟨rfl, HBL.out⟩

/-- a password is tried on a secret -/
def okB (n : Int) : Bool := decide (1 ≤ n ∧ n ≤ 1000)
theorem okB_t {n : Int} (h : okR n) : okB n = true := decide_eq_true h
theorem okB_f {n : Int} (h : ¬ okR n) : okB n = false := decide_eq_false h
def pw (p a b : ByteArray) (n : Int) : Bool := okB n && sm b (sd p a n)

/-- a secret in a block of its own -/
theorem box2 (w : World) (x y : Value) (t : TypeId) : ∃ W0 : World, W0 = w.alloc (.cells #[x, y] t) ∧ Below w.heap.size w W0 ∧
    ∀ X, Below W0.heap.size W0 X → X.cell? ⟨w.heap.size, 0, none⟩ = some x ∧ X.cell? ⟨w.heap.size, 1, none⟩ = some y := by
  refine ⟨_, rfl, (Below.refl _ _).alloc (Nat.le_refl _) _, fun X hX => ?_⟩
  have hlt : w.heap.size < (w.alloc (.cells #[x, y] t)).heap.size := by simp
  exact ⟨(hX.cell (p := ⟨w.heap.size, 0, none⟩) hlt).trans (range_new w #[x, y] _ 0 _ rfl), (hX.cell (p := ⟨w.heap.size, 1, none⟩) hlt).trans (range_new w #[x, y] _ 1 _ rfl)⟩

set_option maxRecDepth 100000 in
set_option maxHeartbeats 1600000 in
theorem password_any (p a b : ByteArray) (n : Int) (w : World) (hp : p.size ≤ 140737488351232) (ha : a.size ≤ 140737488351232) (hb : b.size ≤ 140737488355328) (ht : Sh w) (a0 : Addr) (he : Arg w a0) :
    Calls Tryd.prog 7 #[.string p, sec a b, .int .i64 n] w fun x w' => x = .returned (.bool (pw p a b n)) ∧ Below w.heap.size w w' := by
  obtain ⟨W0, hW0, hbl, hc0⟩ := box2 w (.string a) (.string b) 25
  have H2 := hide (fun D W => same_any b D W (by omega))
  obtain ⟨y0, y1⟩ := hc0 W0 (Below.refl _ _)
  have HC := hide hc0
  have HBL := hide hbl
  obtain ⟨R, hR⟩ : ∃ R, pw p a b n = R := ⟨_, rfl⟩
  rw [hR]
  unfold pw at hR
  by_cases hn : okR n
  · have H1 := hide (st_good p a n W0 hn hp ha (ht.below hbl))
    rw [okB_t hn, Bool.true_and] at hR
    have HR := hide hR
    generalize sd p a n = D at *
    clear hn ht he hbl hc0 hR hp ha hb
    rw [hW0] at y0 y1 H1
    go_enter Tryd.func7, Tryd.ntmps7
    go_wp2_with fail
    rw [← hW0] at *
    refine H1.out.mono ?_
    rintro x w1 ⟨rfl, hb1⟩
    obtain ⟨z0, z1⟩ := HC.out w1 hb1
    have HB1 := hide (HBL.out.trans (hb1.mono HBL.out.size))
    have HW0 := hide hW0
    clear hb1 hW0 y0 y1
    go_wp2_with fail
    refine (H2.out _ _).mono ?_
    rintro x w2 ⟨rfl, m, rfl⟩
    go_wp2
    go_ret
    exact ⟨by rw [← HR.out]; rfl, bdN HB1.out _⟩
  · have H1 := hide (st_bad p a n W0 hn a0 (he.below hbl))
    rw [okB_f hn, Bool.false_and] at hR
    have HR := hide hR
    clear hn ht he hbl hc0 hR hp ha hb
    rw [hW0] at y0 y1 H1
    go_enter Tryd.func7, Tryd.ntmps7
    go_wp2_with fail
    rw [← hW0] at *
    refine H1.out.mono ?_
    rintro x w1 ⟨rfl, hb1⟩
    have HB1 := hide (HBL.out.trans (hb1.mono HBL.out.size))
    have HW0 := hide hW0
    clear hb1 hW0 y0 y1
    go_wp2
    go_ret
    exact ⟨by rw [← HR.out]; rfl, HB1.out⟩

set_option maxRecDepth 100000 in
set_option maxHeartbeats 1600000 in
theorem refPassword_any (p a b : ByteArray) (n : Int) (w : World) (hp : p.size ≤ 140737488351232) (ha : a.size ≤ 140737488351232) (ht : refw.Tabs w) :
    Calls Tryd.prog 10 #[.string p, sec a b, .int .i64 n] w fun x w' => x = .returned (.bool (pw p a b n)) ∧ Below w.heap.size w w' := by
  obtain ⟨W0, hW0, hbl, hc0⟩ := box2 w (.string a) (.string b) 25
  obtain ⟨y0, y1⟩ := hc0 W0 (Below.refl _ _)
  have HC := hide hc0
  have HBL := hide hbl
  obtain ⟨R, hR⟩ : ∃ R, pw p a b n = R := ⟨_, rfl⟩
  rw [hR]
  unfold pw at hR
  rw [sm_comm] at hR
  by_cases hn : okR n
  · have H1 := hide (rst_good p a n W0 hn hp ha (ht.below hbl))
    rw [okB_t hn, Bool.true_and] at hR
    have HR := hide hR
    generalize sd p a n = D at *
    clear hn ht hbl hc0 hR hp ha
    rw [hW0] at y0 y1 H1
    go_enter Tryd.func10, Tryd.ntmps10
    go_wp2_with fail
    rw [← hW0] at *
    refine H1.out.mono ?_
    rintro x w1 ⟨rfl, hb1⟩
    obtain ⟨z0, z1⟩ := HC.out w1 hb1
    have HB1 := hide (HBL.out.trans (hb1.mono HBL.out.size))
    have HW0 := hide hW0
    clear hb1 hW0 y0 y1
    go_wp2
    go_ret
    exact ⟨by rw [← HR.out]; rfl, HB1.out⟩
  · have H1 := hide (refw.refStretch_bad p a n W0 hn)
    rw [okB_f hn, Bool.false_and] at hR
    have HR := hide hR
    clear hn ht hbl hc0 hR hp ha
    rw [hW0] at y0 y1 H1
    go_enter Tryd.func10, Tryd.ntmps10
    go_wp2_with fail
    rw [← hW0] at *
    refine H1.out.mono ?_
    rintro x w1 ⟨rfl, hb1⟩
    have HB1 := hide (HBL.out.trans (hb1.mono HBL.out.size))
    have HW0 := hide hW0
    clear hb1 hW0 y0 y1
    go_wp2
    go_ret
    exact ⟨by rw [← HR.out]; rfl, HB1.out⟩

end Go.Proofs.YtpmmbnlfifbcfaaDoor.pk
