import Derived.Test.YtlbhiefamnpphaaDoorProg
namespace Go.Proofs.YtlbhiefamnpphaaDoor.Jc
set_option maxRecDepth 100000
/-- a leap year -/
def lp (y : Nat) : Bool := (decide (y % 4 = 0) && decide (y % 100 ≠ 0)) || decide (y % 400 = 0)
/-- the leap years ahead -/
def la (y : Nat) : Nat := (y - 1) / 4 - (y - 1) / 100 + (y - 1) / 400
/-- the day on which a year begins -/
def yb (y : Nat) : Nat := 365 * (y - 1970) + la y - 477
def yl (y : Nat) : Nat := if lp y then 366 else 365
theorem lp_iff (y : Nat) : lp y = true ↔ (y % 4 = 0 ∧ y % 100 ≠ 0) ∨ y % 400 = 0 := by simp [lp]
theorem la_least (y : Nat) (h : 1970 ≤ y) : 477 ≤ la y := by unfold la; omega
theorem div4 (y : Nat) (h : 1 ≤ y) : y / 4 = (y - 1) / 4 + (if y % 4 = 0 then 1 else 0) := by split <;> omega
theorem div100 (y : Nat) (h : 1 ≤ y) : y / 100 = (y - 1) / 100 + (if y % 100 = 0 then 1 else 0) := by split <;> omega
theorem div400 (y : Nat) (h : 1 ≤ y) : y / 400 = (y - 1) / 400 + (if y % 400 = 0 then 1 else 0) := by split <;> omega
theorem yb_succ (y : Nat) (h : 1970 ≤ y) : yb (y + 1) = yb y + yl y := by
  have h4 := div4 y (by omega)
  have h1 := div100 y (by omega)
  have h0 := div400 y (by omega)
  have hl := la_least y h
  have hq : (y - 1) / 100 ≤ (y - 1) / 4 := by omega
  have hy : y + 1 - 1970 = (y - 1970) + 1 := by omega
  have e : la (y + 1) = la y + (if lp y then 1 else 0) := by
    unfold la lp
    rw [Nat.add_sub_cancel, h4, h1, h0]
    have r1 : y % 400 = 0 → y % 100 = 0 := by omega
    have r2 : y % 100 = 0 → y % 4 = 0 := by omega
    clear h4 h1 h0 hl hy
    generalize (y - 1) / 4 = a at *
    generalize (y - 1) / 100 = b at *
    generalize (y - 1) / 400 = c at *
    by_cases k4 : y % 4 = 0 <;> by_cases k1 : y % 100 = 0 <;> by_cases k0 : y % 400 = 0 <;> simp [k4, k1, k0] <;> first | omega | exact absurd (r1 k0) k1 | exact absurd (r2 k1) k4
  unfold yb yl
  rw [e, hy]
  split <;> omega
theorem yl_two (y : Nat) : yl y = 365 ∨ yl y = 366 := by unfold yl; split <;> simp
theorem yb_mono (y : Nat) (h : 1970 ≤ y) : ∀ k, yb y + 365 * k ≤ yb (y + k)
  | 0 => by simp
  | k + 1 => by
    have := yb_mono y h k
    have h2 := yb_succ (y + k) (by omega)
    rw [show y + (k + 1) = y + k + 1 by omega, h2]
    have := yl_two (y + k); omega
theorem yb_le {y z : Nat} (h : 1970 ≤ y) (hz : y ≤ z) : yb y ≤ yb z := by
  have := yb_mono y h (z - y)
  rw [show y + (z - y) = z by omega] at this
  omega
theorem yb_first : yb 1970 = 0 := by decide
theorem yb_past : yb 10000 = 2932897 := by simp [yb, la]
def tab : List Nat := [31, 28, 31, 30, 31, 30, 31, 31, 30, 31, 30, 31]
/-- the days of a month -/
def md (y m : Nat) : Nat := if m = 2 ∧ lp y = true then 29 else tab.getD (m - 1) 0
/-- the days of the first k months -/
def cm (y : Nat) : Nat → Nat
  | 0 => 0
  | k + 1 => cm y k + md y (k + 1)
theorem cm_year (y : Nat) : cm y 12 = yl y := by
  unfold yl
  cases e : lp y <;> simp [cm, md, tab, e]
theorem md_most (y m : Nat) (h0 : 1 ≤ m) (h : m ≤ 12) : 28 ≤ md y m ∧ md y m ≤ 31 := by
  unfold md
  split
  · omega
  · match m, h0, h with
    | 1, _, _ => decide
    | 2, _, _ => decide
    | 3, _, _ => decide
    | 4, _, _ => decide
    | 5, _, _ => decide
    | 6, _, _ => decide
    | 7, _, _ => decide
    | 8, _, _ => decide
    | 9, _, _ => decide
    | 10, _, _ => decide
    | 11, _, _ => decide
    | 12, _, _ => decide
theorem cm_le (y : Nat) (j : Nat) : ∀ k, cm y j ≤ cm y (j + k)
  | 0 => Nat.le_refl _
  | k + 1 => Nat.le_trans (cm_le y j k) (by show _ ≤ cm y (j + k) + _; omega)
theorem cm_mono (y : Nat) {j k : Nat} (h : j ≤ k) : cm y j ≤ cm y k := by
  have := cm_le y j (k - j)
  rwa [show j + (k - j) = k by omega] at this
structure Dt where
  y : Nat
  m : Nat
  d : Nat
  h : Nat
  i : Nat
  s : Nat
  w : Nat
def Dt.day (x : Dt) : Nat := yb x.y + cm x.y (x.m - 1) + x.d - 1
def Dt.sec (x : Dt) : Nat := 86400 * x.day + 3600 * x.h + 60 * x.i + x.s
/-- a moment -/
structure Ok (x : Dt) : Prop where
  y0 : 1970 ≤ x.y
  m0 : 1 ≤ x.m
  m1 : x.m ≤ 12
  d0 : 1 ≤ x.d
  d1 : x.d ≤ md x.y x.m
  h1 : x.h < 24
  i1 : x.i < 60
  s1 : x.s < 60
/-- the date of a second -/
structure Is (n : Nat) (x : Dt) : Prop where
  ok : Ok x
  sec : x.sec = n
  w : x.w = (4 + x.day) % 7
theorem cm_step (y m : Nat) (h : 1 ≤ m) : cm y m = cm y (m - 1) + md y m := by
  obtain ⟨k, rfl⟩ : ∃ k, m = k + 1 := ⟨m - 1, by omega⟩
  rfl
theorem Ok.in_year {x : Dt} (h : Ok x) : yb x.y ≤ x.day ∧ x.day < yb (x.y + 1) := by
  have h1 := cm_step x.y x.m h.m0
  have h2 := cm_mono x.y h.m1
  rw [cm_year] at h2
  have h3 := yb_succ x.y h.y0
  have := h.d0; have := h.d1
  unfold Dt.day
  omega
theorem year_one {y z D : Nat} (hy : 1970 ≤ y) (hz : 1970 ≤ z) (h1 : yb y ≤ D) (h2 : D < yb (y + 1)) (h3 : yb z ≤ D) (h4 : D < yb (z + 1)) : y = z := by
  rcases Nat.lt_trichotomy y z with h | h | h
  · have := yb_le (y := y + 1) (z := z) (by omega) (by omega); omega
  · exact h
  · have := yb_le (y := z + 1) (z := y) (by omega) (by omega); omega
theorem month_one {y m k D : Nat} (hm : 1 ≤ m) (hk : 1 ≤ k) (h1 : cm y (m - 1) ≤ D) (h2 : D < cm y m) (h3 : cm y (k - 1) ≤ D) (h4 : D < cm y k) : m = k := by
  rcases Nat.lt_trichotomy m k with h | h | h
  · have := cm_mono y (j := m) (k := k - 1) (by omega); omega
  · exact h
  · have := cm_mono y (j := k) (k := m - 1) (by omega); omega
theorem parts {a h i s b k j t : Nat} (h1 : h < 24) (i1 : i < 60) (s1 : s < 60) (k1 : k < 24) (j1 : j < 60) (t1 : t < 60) (e : 86400 * a + 3600 * h + 60 * i + s = 86400 * b + 3600 * k + 60 * j + t) : a = b ∧ h = k ∧ i = j ∧ s = t := by
  have e1 : s = t := by omega
  have e2 : 1440 * a + 60 * h + i = 1440 * b + 60 * k + j := by omega
  have e3 : i = j := by omega
  have e4 : 24 * a + h = 24 * b + k := by omega
  exact ⟨by omega, by omega, e3, e1⟩
theorem Ok.one {x z : Dt} (hx : Ok x) (hz : Ok z) (h : x.sec = z.sec) : x.day = z.day ∧ x.y = z.y ∧ x.m = z.m ∧ x.d = z.d ∧ x.h = z.h ∧ x.i = z.i ∧ x.s = z.s := by
  have e := parts hx.h1 hx.i1 hx.s1 hz.h1 hz.i1 hz.s1 h
  obtain ⟨e0, e1, e2, e3⟩ := e
  have ax := hx.in_year
  have az := hz.in_year
  have ey := year_one hx.y0 hz.y0 ax.1 ax.2 (by rw [e0]; exact az.1) (by rw [e0]; exact az.2)
  have bx := cm_step x.y x.m hx.m0
  have bz := cm_step x.y z.m hz.m0
  have dz := hz.d1
  have d0 := hz.d0
  have dx := hx.d1
  have dx0 := hx.d0
  rw [← ey] at dz
  have e4 := e0
  unfold Dt.day at e4
  rw [← ey] at e4
  have em : x.m = z.m := by
    refine month_one (y := x.y) (D := cm x.y (x.m - 1) + x.d - 1) hx.m0 hz.m0 ?_ ?_ ?_ ?_ <;> omega
  rw [← em] at e4
  exact ⟨e0, ey, em, by omega, e1, e2, e3⟩
theorem Is.one {n : Nat} {x z : Dt} (hx : Is n x) (hz : Is n z) : x = z := by
  obtain ⟨e0, e1, e2, e3, e4, e5, e6⟩ := hx.ok.one hz.ok (hx.sec.trans hz.sec.symm)
  have e7 : x.w = z.w := by rw [hx.w, hz.w, e0]
  cases x; cases z
  simp_all
theorem Is.year {n : Nat} {x : Dt} (h : Is n x) (hn : n ≤ 253402300799) : x.y ≤ 9999 := by
  have a := h.ok.in_year
  have s := h.sec
  unfold Dt.sec at s
  by_cases hy : x.y ≤ 9999
  · exact hy
  · have := yb_le (y := 10000) (z := x.y) (by omega) (by omega)
    rw [yb_past] at this
    omega
/-- what is made of a second: its day's year, month and day -/
theorem is_of {n y m d : Nat} (hy : 1970 ≤ y) (h1 : yb y ≤ n / 86400) (hm : 1 ≤ m) (hm1 : m ≤ 12) (hd : d + cm y (m - 1) = n / 86400 - yb y) (hd1 : d < md y m) : Is n ⟨y, m, d + 1, n % 86400 / 3600, n % 86400 % 3600 / 60, n % 86400 % 60, (4 + n / 86400) % 7⟩ := by
  have hday : Dt.day ⟨y, m, d + 1, n % 86400 / 3600, n % 86400 % 3600 / 60, n % 86400 % 60, (4 + n / 86400) % 7⟩ = n / 86400 := by
    simp only [Dt.day]; omega
  refine ⟨⟨hy, hm, hm1, by simp, hd1, ?_, ?_, ?_⟩, ?_, ?_⟩
  · simp only; omega
  · simp only; omega
  · simp only; omega
  · unfold Dt.sec; rw [hday]; simp only; omega
  · rw [hday]
/-- one second later -/
def nx (x : Dt) : Dt :=
  if x.s + 1 < 60 then { x with s := x.s + 1 } else
  if x.i + 1 < 60 then { x with s := 0, i := x.i + 1 } else
  if x.h + 1 < 24 then { x with s := 0, i := 0, h := x.h + 1 } else
  if x.d < md x.y x.m then { x with s := 0, i := 0, h := 0, w := (x.w + 1) % 7, d := x.d + 1 } else
  if x.m + 1 ≤ 12 then { x with s := 0, i := 0, h := 0, w := (x.w + 1) % 7, d := 1, m := x.m + 1 } else
  { y := x.y + 1, m := 1, d := 1, h := 0, i := 0, s := 0, w := (x.w + 1) % 7 }
theorem Is.next {n : Nat} {x : Dt} (h : Is n x) : Is (n + 1) (nx x) := by
  obtain ⟨⟨y0, m0, m1, d0, d1, h1, i1, s1⟩, hs, hw⟩ := h
  obtain ⟨y, m, d, hh, i, s, w⟩ := x
  simp only at *
  have c1 := cm_step y m m0
  unfold Dt.sec at hs
  unfold nx
  simp only at *
  split
  · exact ⟨⟨y0, m0, m1, d0, d1, h1, i1, by assumption⟩, by unfold Dt.sec; simp only [Dt.day] at *; omega, hw⟩
  · split
    · exact ⟨⟨y0, m0, m1, d0, d1, h1, by assumption, by simp⟩, by unfold Dt.sec; simp only [Dt.day] at *; omega, hw⟩
    · split
      · exact ⟨⟨y0, m0, m1, d0, d1, by assumption, by simp, by simp⟩, by unfold Dt.sec; simp only [Dt.day] at *; omega, hw⟩
      · split
        · refine ⟨⟨y0, m0, m1, by simp, by simp only; omega, by simp, by simp, by simp⟩, by unfold Dt.sec; simp only [Dt.day] at *; omega, ?_⟩
          simp only [Dt.day] at *; omega
        · have ed : d = md y m := by omega
          split
          · have := (md_most y (m + 1) (by omega) (by assumption)).1
            refine ⟨⟨y0, by simp, by assumption, by simp, by simp only; omega, by simp, by simp, by simp⟩, by unfold Dt.sec; simp only [Dt.day, Nat.add_sub_cancel] at *; omega, ?_⟩
            simp only [Dt.day, Nat.add_sub_cancel] at *; omega
          · have em : m = 12 := by omega
            subst em
            have c2 := cm_year y
            have c3 := yb_succ y y0
            have c4 : cm (y + 1) 0 = 0 := rfl
            have := (md_most (y + 1) 1 (by omega) (by omega)).1
            refine ⟨⟨by simp only; omega, by simp, by simp, by simp, by simp only; omega, by simp, by simp, by simp⟩, by unfold Dt.sec; simp only [Dt.day, Nat.sub_self] at *; omega, ?_⟩
            simp only [Dt.day, Nat.sub_self] at *; omega
theorem is_first : Is 0 ⟨1970, 1, 1, 0, 0, 0, 4⟩ := ⟨⟨by decide, by decide, by decide, by decide, by decide, by decide, by decide, by decide⟩, by decide, by decide⟩
end Go.Proofs.YtlbhiefamnpphaaDoor.Jc
