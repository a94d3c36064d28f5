import Derived.Test.YtlbhiefamnpphaaDoorJdRd
namespace Go.Proofs.YtlbhiefamnpphaaDoor.Jc
set_option maxRecDepth 100000
theorem digs0 (k : Nat) (c : Cs) : Rd (fun n => dg k n) (fun n => n < 10 ^ k) c (digsS k 0 c).1 (digsS k 0 c).2 := by
  obtain ⟨v, h1, h2⟩ := digs_rd k 0 c
  have : (digsS k 0 c).1 = v := by rw [h1]; simp
  rw [this]; exact h2
theorem ext_ne {a b : UInt8} {l m r : List UInt8} (h : (a :: l).isPrefixOf (b :: m ++ r) = true) : a = b := by
  simp [List.isPrefixOf] at h
  exact h.1
theorem free_of (l : List (List UInt8)) (h : ((List.range l.length).all fun i => (List.range l.length).all fun j => (decide (i = j) || ((l.getD j []).take (l.getD i []).length != (l.getD i []).take (l.getD j []).length))) = true) : PreFree l := by
  intro i j hi hj r hp
  have h1 := List.all_eq_true.1 h i (List.mem_range.2 hi)
  have h2 := List.all_eq_true.1 h1 j (List.mem_range.2 hj)
  obtain ⟨t, ht⟩ := List.isPrefixOf_iff_prefix.1 hp
  simp only [Bool.or_eq_true, decide_eq_true_eq, bne_iff_ne, ne_eq] at h2
  rcases h2 with h2 | h2
  · exact h2
  · exfalso; apply h2
    generalize l.getD i [] = a at *
    generalize l.getD j [] = b at *
    have e := congrArg (fun x => x.take (min a.length b.length)) ht
    simp only [List.take_append] at e
    rcases Nat.le_total a.length b.length with k | k
    · rw [Nat.min_eq_left k, Nat.sub_self, show a.length - b.length = 0 by omega] at e
      simp at e
      rw [e, List.take_of_length_le k]
    · rw [Nat.min_eq_right k, Nat.sub_self, show b.length - a.length = 0 by omega] at e
      simp at e
      rw [← e, List.take_of_length_le k]
theorem wdN_free : PreFree wdN := free_of _ (by decide +kernel)
theorem wdF_free : PreFree wdF := free_of _ (by decide +kernel)
theorem moN_free : PreFree moN := free_of _ (by decide +kernel)
/-- what has the form of a date -/
structure Fm (x : Dt) : Prop where
  w : x.w < 7
  m0 : 1 ≤ x.m
  m1 : x.m ≤ 12
  d : x.d < 100
  h : x.h < 100
  i : x.i < 100
  s : x.s < 100
  y : x.y < 10000
def timW (p : Nat × Nat × Nat) : List UInt8 := dg 2 p.1 ++ [58] ++ dg 2 p.2.1 ++ [58] ++ dg 2 p.2.2
abbrev RdM (p : List UInt8) (c c' : Cs) : Prop := Rd (fun _ : Unit => p) (fun _ => True) c () c'
abbrev RdN (l : List (List UInt8)) (c : Cs) (i : Nat) (c' : Cs) : Prop := Rd (fun i => l.getD i []) (fun i => i < l.length) c i c'
abbrev RdD (k : Nat) (c : Cs) (n : Nat) (c' : Cs) : Prop := Rd (fun n => dg k n) (fun n => n < 10 ^ k) c n c'
abbrev RdT (c : Cs) (t : Nat × Nat × Nat) (c' : Cs) : Prop := Rd timW (fun p => p.1 < 100 ∧ p.2.1 < 100 ∧ p.2.2 < 100) c t c'
theorem tim_of {c c1 c2 c3 c4 c5 : Cs} {h i s : Nat} (h1 : RdD 2 c h c1) (h2 : RdM [58] c1 c2) (h3 : RdD 2 c2 i c3) (h4 : RdM [58] c3 c4) (h5 : RdD 2 c4 s c5) : RdT c (h, i, s) c5 := by
  have k := ((h1.bind h2).bind h3).bind (h4.bind h5)
  exact k.map (f := fun p => (p.1.1.1, p.1.2, p.2.2)) (g := fun p => (((p.1, ()), p.2.1), ((), p.2.2))) (fun a ha => ⟨⟨ha.1.1.1, ha.1.2, ha.2.2⟩, by simp [timW]⟩) (fun b hb => ⟨⟨⟨⟨hb.1, trivial⟩, hb.2.1⟩, trivial, hb.2.2⟩, by simp [timW], rfl⟩)
theorem tm_eq (x : Dt) : tmL x = timW (x.h, x.i, x.s) := rfl
theorem fix_of {c c1 c2 c3 c4 c5 c6 c7 c8 c9 c10 : Cs} {w d m y : Nat} {t : Nat × Nat × Nat} (h1 : RdN wdN c w c1) (h2 : RdM [44, 32] c1 c2) (h3 : RdD 2 c2 d c3) (h4 : RdM [32] c3 c4) (h5 : RdN moN c4 m c5) (h6 : RdM [32] c5 c6) (h7 : RdD 4 c6 y c7) (h8 : RdM [32] c7 c8) (h9 : RdT c8 t c9) (h0 : RdM [32, 71, 77, 84] c9 c10) : Rd imfL Fm c ⟨y, 1 + m, d, t.1, t.2.1, t.2.2, w⟩ c10 := by
  have h := (((h1.bind h2).bind (h3.bind h4)).bind (h5.bind h6)).bind ((h7.bind h8).bind (h9.bind h0))
  refine h.map (β := Dt) (f := fun p => ⟨p.2.1.1, 1 + p.1.2.1, p.1.1.2.1, p.2.2.1.1, p.2.2.1.2.1, p.2.2.1.2.2, p.1.1.1.1⟩) (g := fun x => ((((x.w, ()), (x.d, ())), (x.m - 1, ())), ((x.y, ()), ((x.h, x.i, x.s), ())))) (fun a ha => ?_) (fun b hb => ?_)
  · obtain ⟨⟨⟨⟨a1, _⟩, a2, _⟩, a3, _⟩, ⟨a4, _⟩, ⟨a5, a6, a7⟩, _⟩ := ha
    have b1 : wdN.length = 7 := rfl
    have b2 : moN.length = 12 := rfl
    refine ⟨⟨?_, ?_, ?_, ?_, ?_, ?_, ?_, ?_⟩, ?_⟩ <;> try (simp only; omega)
    simp [imfL, tm_eq]
  · have b1 : wdN.length = 7 := rfl
    have b2 : moN.length = 12 := rfl
    have := hb.w; have := hb.m0; have := hb.m1
    refine ⟨⟨⟨⟨⟨?_, trivial⟩, ?_, trivial⟩, ?_, trivial⟩, ⟨?_, trivial⟩, ⟨?_, ?_, ?_⟩, trivial⟩, ?_, ?_⟩
    · show b.w < wdN.length; omega
    · exact hb.d
    · show b.m - 1 < moN.length; omega
    · exact hb.y
    · exact hb.h
    · exact hb.i
    · exact hb.s
    · simp [imfL, tm_eq]
    · have e : 1 + (b.m - 1) = b.m := by omega
      simp [e]
/-- the greatest year up to L with these two digits -/
def lk (v L : Nat) : Nat := if L < L - L % 100 + v then L - L % 100 + v - 100 else L - L % 100 + v
theorem lk_is (v L : Nat) (hv : v < 100) (hL : 100 ≤ L) : lk v L % 100 = v ∧ lk v L ≤ L ∧ L < lk v L + 100 := by
  unfold lk; split <;> omega
theorem lk_one (y L : Nat) (h1 : y ≤ L) (h2 : L < y + 100) : lk (y % 100) L = y := by
  unfold lk; split <;> omega
theorem rfc_of {L : Nat} (hL : 100 ≤ L) (hL2 : L ≤ 9999) {c c1 c2 c3 c4 c5 c6 c7 c8 c9 c10 : Cs} {w d m y : Nat} {t : Nat × Nat × Nat} (h1 : RdN wdF c w c1) (h2 : RdM [44, 32] c1 c2) (h3 : RdD 2 c2 d c3) (h4 : RdM [45] c3 c4) (h5 : RdN moN c4 m c5) (h6 : RdM [45] c5 c6) (h7 : RdD 2 c6 y c7) (h8 : RdM [32] c7 c8) (h9 : RdT c8 t c9) (h0 : RdM [32, 71, 77, 84] c9 c10) : Rd rfcL (fun x => Fm x ∧ x.y ≤ L ∧ L < x.y + 100) c ⟨lk y L, 1 + m, d, t.1, t.2.1, t.2.2, w⟩ c10 := by
  have h := (((h1.bind h2).bind (h3.bind h4)).bind (h5.bind h6)).bind ((h7.bind h8).bind (h9.bind h0))
  refine h.map (β := Dt) (f := fun p => ⟨lk p.2.1.1 L, 1 + p.1.2.1, p.1.1.2.1, p.2.2.1.1, p.2.2.1.2.1, p.2.2.1.2.2, p.1.1.1.1⟩) (g := fun x => ((((x.w, ()), (x.d, ())), (x.m - 1, ())), ((x.y % 100, ()), ((x.h, x.i, x.s), ())))) (fun a ha => ?_) (fun b hb => ?_)
  · obtain ⟨⟨⟨⟨a1, _⟩, a2, _⟩, a3, _⟩, ⟨a4, _⟩, ⟨a5, a6, a7⟩, _⟩ := ha
    have b1 : wdF.length = 7 := rfl
    have b2 : moN.length = 12 := rfl
    have b3 := lk_is a.2.1.1 L a4 hL
    refine ⟨⟨⟨?_, ?_, ?_, ?_, ?_, ?_, ?_, ?_⟩, b3.2⟩, ?_⟩ <;> try (simp only; omega)
    simp [rfcL, tm_eq, b3.1]
  · obtain ⟨hb, hy1, hy2⟩ := hb
    have b1 : wdF.length = 7 := rfl
    have b2 : moN.length = 12 := rfl
    have := hb.w; have := hb.m0; have := hb.m1
    refine ⟨⟨⟨⟨⟨?_, trivial⟩, ?_, trivial⟩, ?_, trivial⟩, ⟨?_, trivial⟩, ⟨?_, ?_, ?_⟩, trivial⟩, ?_, ?_⟩
    · show b.w < wdF.length; omega
    · exact hb.d
    · show b.m - 1 < moN.length; omega
    · exact Nat.mod_lt _ (by decide)
    · exact hb.h
    · exact hb.i
    · exact hb.s
    · simp [rfcL, tm_eq]
    · have e : 1 + (b.m - 1) = b.m := by omega
      simp [e, lk_one b.y L hy1 hy2]
/-- the day, with a blank ahead or not -/
def padW (p : Bool × Nat) : List UInt8 := if p.1 then 32 :: dg 1 p.2 else dg 2 p.2
abbrev RdP (c : Cs) (p : Bool × Nat) (c' : Cs) : Prop := Rd padW (fun p => if p.1 then p.2 < 10 else p.2 < 100) c p c'
theorem pad_t {c c' : Cs} {d : Nat} (h : ([32] : List UInt8).isPrefixOf c.1 = true) (k : RdD 1 (c.1.drop 1, c.2) d c') : RdP c (true, d) c' := by
  have hs := pre_split h
  refine ⟨fun e => ?_, fun b r hb e => ?_⟩
  · obtain ⟨e1, e2, e3⟩ := k.back e
    have e3' : c.1.drop 1 = dg 1 d ++ c'.1 := e3
    refine ⟨e1, by simpa using e2, hs.trans ?_⟩
    show 32 :: c.1.drop 1 = 32 :: dg 1 d ++ c'.1
    rw [e3']; rfl
  · obtain ⟨bl, d'⟩ := b
    cases bl with
    | true =>
      have hb' : d' < 10 := hb
      obtain ⟨e1, e2⟩ := k.on d' r (by simpa using hb') (by rw [e]; simp [padW])
      exact ⟨by rw [e1], e2⟩
    | false =>
      exfalso
      rw [e] at h
      have hb' : d' < 100 := hb
      have e2 : dg 2 d' = UInt8.ofNat (48 + d' / 10 ^ 1 % 10) :: dg 1 (d' % 10 ^ 1) := dg_cons 1 d' hb'
      have h' : ([32] : List UInt8).isPrefixOf (UInt8.ofNat (48 + d' / 10 ^ 1 % 10) :: dg 1 (d' % 10 ^ 1) ++ r) = true := by
        have : padW (false, d') = dg 2 d' := rfl
        rw [this, e2] at h; exact h
      have e3 := congrArg UInt8.toNat (ext_ne h')
      rw [dig_to] at e3
      have : (32 : UInt8).toNat = 32 := rfl
      omega
theorem pad_f {c c' : Cs} {d : Nat} (h : ([32] : List UInt8).isPrefixOf c.1 = false) (k : RdD 2 c d c') : RdP c (false, d) c' := by
  refine ⟨fun e => ?_, fun b r hb e => ?_⟩
  · obtain ⟨e1, e2, e3⟩ := k.back e
    exact ⟨e1, by simpa using e2, e3⟩
  · obtain ⟨bl, d'⟩ := b
    cases bl with
    | true =>
      exfalso
      rw [e] at h
      simp [padW] at h
    | false =>
      obtain ⟨e1, e2⟩ := k.on d' r hb e
      exact ⟨by rw [e1], e2⟩
theorem asc_of {c c1 c2 c3 c4 c5 c6 c7 c8 c9 : Cs} {w m y : Nat} {pd : Bool × Nat} {t : Nat × Nat × Nat} (h1 : RdN wdN c w c1) (h2 : RdM [32] c1 c2) (h3 : RdN moN c2 m c3) (h4 : RdM [32] c3 c4) (h5 : RdP c4 pd c5) (h6 : RdM [32] c5 c6) (h7 : RdT c6 t c7) (h8 : RdM [32] c7 c8) (h9 : RdD 4 c8 y c9) : Rd (fun p : Bool × Dt => ascL p.1 p.2) (fun p => Fm p.2 ∧ (p.1 = true → p.2.d < 10)) c (pd.1, ⟨y, 1 + m, pd.2, t.1, t.2.1, t.2.2, w⟩) c9 := by
  have h := ((h1.bind h2).bind (h3.bind h4)).bind (((h5.bind h6).bind (h7.bind h8)).bind h9)
  refine h.map (β := Bool × Dt) (f := fun p => (p.2.1.1.1.1, ⟨p.2.2, 1 + p.1.2.1, p.2.1.1.1.2, p.2.1.2.1.1, p.2.1.2.1.2.1, p.2.1.2.1.2.2, p.1.1.1⟩)) (g := fun x => (((x.2.w, ()), (x.2.m - 1, ())), ((((x.1, x.2.d), ()), ((x.2.h, x.2.i, x.2.s), ())), x.2.y))) (fun a ha => ?_) (fun b hb => ?_)
  · obtain ⟨⟨⟨a1, _⟩, a2, _⟩, ⟨⟨a3, _⟩, ⟨a4, a5, a6⟩, _⟩, a7⟩ := ha
    have b1 : wdN.length = 7 := rfl
    have b2 : moN.length = 12 := rfl
    obtain ⟨⟨⟨q1, _⟩, q2, _⟩, ⟨⟨⟨bl, d⟩, _⟩, ⟨t1, t2, t3⟩, _⟩, y⟩ := a
    simp only at *
    have a8 : d < 100 ∧ (bl = true → d < 10) := by
      cases bl
      · exact ⟨by simpa using a3, fun h => by cases h⟩
      · have : d < 10 := by simpa using a3
        exact ⟨by omega, fun _ => this⟩
    refine ⟨⟨⟨?_, ?_, ?_, ?_, ?_, ?_, ?_, ?_⟩, a8.2⟩, ?_⟩ <;> try (simp only; omega)
    have e : dyL bl d = padW (bl, d) := by
      unfold dyL padW
      cases bl
      · rfl
      · rw [decide_eq_true (a8.2 rfl)]; rfl
    simp [ascL, tm_eq, e]
  · obtain ⟨bl, x⟩ := b
    obtain ⟨hb, hd⟩ := hb
    have b1 : wdN.length = 7 := rfl
    have b2 : moN.length = 12 := rfl
    have := hb.w; have := hb.m0; have := hb.m1
    simp only at *
    refine ⟨⟨⟨⟨?_, trivial⟩, ?_, trivial⟩, ⟨⟨?_, trivial⟩, ⟨?_, ?_, ?_⟩, trivial⟩, ?_⟩, ?_, ?_⟩
    · show x.w < wdN.length; omega
    · show x.m - 1 < moN.length; omega
    · cases bl
      · have := hb.d; simpa using this
      · have := hd rfl; simpa using this
    · exact hb.h
    · exact hb.i
    · exact hb.s
    · exact hb.y
    · have e : dyL bl x.d = padW (bl, x.d) := by
        unfold dyL padW
        cases bl
        · rfl
        · rw [decide_eq_true (hd rfl)]; rfl
      simp [ascL, tm_eq, e]
    · have e : 1 + (x.m - 1) = x.m := by omega
      simp [e]
end Go.Proofs.YtlbhiefamnpphaaDoor.Jc
