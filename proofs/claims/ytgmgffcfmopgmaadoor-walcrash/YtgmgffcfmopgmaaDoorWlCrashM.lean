import Derived.Test.YtgmgffcfmopgmaaDoorWlLog
import Derived.Test.YtgmgffcfmopgmaaDoorWlOpenA
import Derived.Test.YtgmgffcfmopgmaaDoorDkFine
namespace Go.Proofs.YtgmgffcfmopgmaaDoor.wl
open Go.Proofs.YtgmgffcfmopgmaaDoor.common Go.Proofs.YtgmgffcfmopgmaaDoor.dk

/-- an operation at a disk that is alive and wholly synced: it goes on, or it dies and nothing has changed but the arms -/
theorem oper_syn (x : St) (hd : x.d = false) (hs : x.s = x.b.length) (on : St → St) (err : Nat) :
    (∃ a', x.oper id on err = (on ⟨x.b, x.s, x.r, a', false⟩, err) ∧ a'.length = x.a.length) ∨ (∃ a', x.oper id on err = (⟨x.b, x.s, x.r, a', true⟩, 10) ∧ a'.length < x.a.length) := by
  obtain ⟨b, s, r, a, d⟩ := x
  subst hd
  dsimp only at hs
  subst hs
  unfold St.oper
  match a with
  | [] => exact Or.inl ⟨[], rfl, rfl⟩
  | (0, k) :: t =>
    refine Or.inr ⟨t, ?_, by simp⟩
    simp [St.fail, St.left]
  | (n + 1, k) :: t => exact Or.inl ⟨(n, k) :: t, rfl, by simp⟩

/-- a frame is written on a disk that is alive and wholly synced -/
theorem wrS_cases (x : St) (hd : x.d = false) (hs : x.s = x.b.length) (hbr : x.b.length ≤ x.r) (l : List UInt8) :
    (∃ a', wrS x l = (⟨x.b ++ l, (x.b ++ l).length, x.r, a', false⟩, 0) ∧ x.b.length + l.length ≤ x.r) ∨
    (∃ a', wrS x l = (⟨x.b, x.b.length, x.r, a', false⟩, 9) ∧ x.r < x.b.length + l.length) ∨
    (∃ a' m, wrS x l = (⟨(x.b ++ l).take m, ((x.b ++ l).take m).length, x.r, a', true⟩, 10) ∧ x.b.length ≤ m ∧ x.a ≠ [] ∧ ((x.b ++ l).take m).length ≤ x.r) := by
  obtain ⟨b, s, r, a, d⟩ := x
  subst hd
  dsimp only at hs
  subst hs
  dsimp only at hbr ⊢
  by_cases hf : b.length + l.length ≤ r
  · have tl : ∀ m, ((b ++ l).take m).length ≤ r := fun m => by rw [List.length_take, List.length_append]; omega
    have fit : ∀ a', (St.mk b b.length r a' false).fits l = true := fun a' => by simp [St.fits, hf]
    have put : ∀ a', (St.mk b b.length r a' false).put l = ⟨b ++ l, b.length, r, a', false⟩ := fun a' => by simp [St.put, fit]
    have fl : ∀ a' k, ∃ m, (St.mk (b ++ l) b.length r a' false).fail k = ⟨(b ++ l).take m, ((b ++ l).take m).length, r, a', true⟩ ∧ b.length ≤ m := fun a' k => by
      refine ⟨b.length + min k.toNat l.length, ?_, by omega⟩
      simp [St.fail, St.left, List.length_take]
    have sy : ∀ a', (wrS (St.mk b b.length r a false) l = (St.mk (b ++ l) b.length r a' false).syncs) → (a' ≠ [] → a ≠ []) → (∃ a', wrS (St.mk b b.length r a false) l = (⟨b ++ l, (b ++ l).length, r, a', false⟩, 0) ∧ b.length + l.length ≤ r) ∨
        (∃ a', wrS (St.mk b b.length r a false) l = (⟨b, b.length, r, a', false⟩, 9) ∧ r < b.length + l.length) ∨
        (∃ a' m, wrS (St.mk b b.length r a false) l = (⟨(b ++ l).take m, ((b ++ l).take m).length, r, a', true⟩, 10) ∧ b.length ≤ m ∧ a ≠ [] ∧ ((b ++ l).take m).length ≤ r) := fun a' h1 h2 => by
      rw [h1]
      unfold St.syncs St.oper
      match a' with
      | [] => exact Or.inl ⟨[], rfl, hf⟩
      | (0, k) :: t =>
        obtain ⟨m, hm, hb⟩ := fl t k
        exact Or.inr (Or.inr ⟨t, m, by simp [hm], hb, h2 (by simp), tl m⟩)
      | (n + 1, k) :: t => exact Or.inl ⟨(n, k) :: t, rfl, hf⟩
    match a with
    | [] => exact sy [] (by simp [wrS, St.append, St.oper, fit, put]) (by simp)
    | (0, k) :: t =>
      obtain ⟨m, hm, hb⟩ := fl t k
      exact Or.inr (Or.inr ⟨t, m, by simp [wrS, St.append, St.oper, put, hm], hb, by simp, tl m⟩)
    | (n + 1, k) :: t => exact sy ((n, k) :: t) (by simp [wrS, St.append, St.oper, fit, put]) (by simp)
  · have fit : ∀ a', (St.mk b b.length r a' false).fits l = false := fun a' => by simp [St.fits, hf]
    have put : ∀ a', (St.mk b b.length r a' false).put l = ⟨b, b.length, r, a', false⟩ := fun a' => by simp [St.put, fit]
    match a with
    | [] => exact Or.inr (Or.inl ⟨[], by simp [wrS, St.append, St.oper, fit, put], by omega⟩)
    | (0, k) :: t => exact Or.inr (Or.inr ⟨t, b.length, by simp [wrS, St.append, St.oper, put, St.fail, St.left], Nat.le_refl _, by simp, by rw [List.take_left]; exact hbr⟩)
    | (n + 1, k) :: t => exact Or.inr (Or.inl ⟨(n, k) :: t, by simp [wrS, St.append, St.oper, fit, put], by omega⟩)
theorem wrS_dead (x : St) (hd : x.d = true) (l : List UInt8) : wrS x l = (x, 10) := by
  obtain ⟨b, s, r, a, d⟩ := x
  subst hd
  simp [wrS, St.append, St.oper]

/-- what lies on the disk: all that must be found, and perhaps a part of what was under way; all of it synced -/
structure Cr (T W : List (List UInt8)) (x : St) : Prop where
  syn : x.s = x.b.length
  lies : ∃ m, (Wl.flat T).length ≤ m ∧ x.b = (Wl.flat (T ++ W)).take m
  way : W.length ≤ 1
  fits : ∀ p ∈ T ++ W, Wl.fit p.length = true
theorem flat_le (T W : List (List UInt8)) : (Wl.flat T).length ≤ (Wl.flat (T ++ W)).length := by rw [Wl.flat_append, List.length_append]; omega
/-- what is found there -/
theorem Cr.scan {T W : List (List UInt8)} {x : St} (h : Cr T W x) : Wl.scan x.b = T ∨ Wl.scan x.b = T ++ W := by
  obtain ⟨m, hm, hb⟩ := h.lies
  by_cases hc : (Wl.flat (T ++ W)).length ≤ m
  · rw [List.take_of_length_le hc] at hb
    rw [hb]
    exact Or.inr (Wl.scan_flat _ h.fits)
  · match W, h.way with
    | [], _ => rw [List.append_nil] at hc; omega
    | [p], _ =>
      refine Or.inl ?_
      have e : Wl.flat (T ++ [p]) = Wl.flat T ++ Wl.fr p := Wl.flat_snoc T p
      rw [e, List.take_append, List.take_of_length_le hm] at hb
      rw [e, List.length_append] at hc
      rw [hb]
      refine Wl.scan_eq ⟨rfl, fun q hq => h.fits q (List.mem_append_left _ hq), ?_⟩
      refine Wl.first_short _ p (h.fits p (by simp)) (by rw [List.length_take]; omega) ?_
      rw [List.length_take, Nat.min_eq_left (by omega)]
/-- the good head -/
theorem Cr.good {T W : List (List UInt8)} {x : St} (h : Cr T W x) : x.b.take (Wl.good x.b) = Wl.flat (Wl.scan x.b) ∧ Wl.good x.b ≤ x.b.length ∧ (Wl.flat T).length ≤ Wl.good x.b := by
  refine ⟨Wl.good_take _, Wl.good_le _, ?_⟩
  unfold Wl.good
  rcases h.scan with e | e <;> rw [e]
  · exact Nat.le_refl _
  · exact flat_le T W
theorem Cr.of {T W : List (List UInt8)} {x y : St} (h : Cr T W x) (hb : y.b = x.b) (hs : y.s = x.s) : Cr T W y := ⟨by rw [hs, hb]; exact h.syn, by rw [hb]; exact h.lies, h.way, h.fits⟩
theorem Cr.cut {T W : List (List UInt8)} {x y : St} (h : Cr T W x) (hb : y.b = x.b.take (Wl.good x.b)) (hs : y.s = y.b.length) : Cr T W y := by
  refine ⟨hs, ?_, h.way, h.fits⟩
  obtain ⟨m, hm, e⟩ := h.lies
  have h3 := h.good.2.2
  exact ⟨min (Wl.good x.b) m, by omega, by rw [hb, e, List.take_take, ← e]⟩
theorem Cr.whole {T : List (List UInt8)} {x : St} (hs : x.s = x.b.length) (hb : x.b = Wl.flat T) (hf : ∀ p ∈ T, Wl.fit p.length = true) : Cr T [] x :=
  ⟨hs, ⟨(Wl.flat T).length, Nat.le_refl _, by rw [List.append_nil, List.take_length]; exact hb⟩, by simp, by rw [List.append_nil]; exact hf⟩
/-- an Open of such a disk, when it is alive: it answers, or it dies while an arm waits -/
theorem open_cases {T W : List (List UInt8)} {x : St} (h : Cr T W x) (hd : x.d = false) :
    (∃ y z, x.reads = (y, 0) ∧ y.b = x.b ∧ y.s = x.s ∧ y.d = false ∧ kpS y (Wl.good y.b) y.b.length = (z, 0) ∧ z.b = Wl.flat (Wl.scan x.b) ∧ z.s = z.b.length ∧ z.d = false ∧ z.r = x.r ∧ z.a.length ≤ x.a.length) ∨
    (∃ y n, x.reads = (y, n) ∧ n = 10 ∧ Cr T W y ∧ y.d = true ∧ y.r = x.r ∧ y.a.length ≤ x.a.length ∧ x.a ≠ []) ∨
    (∃ y z n, x.reads = (y, 0) ∧ y.b = x.b ∧ y.s = x.s ∧ y.d = false ∧ kpS y (Wl.good y.b) y.b.length = (z, n) ∧ n = 10 ∧ Cr T W z ∧ z.d = true ∧ z.r = x.r ∧ z.a.length ≤ x.a.length ∧ x.a ≠ []) := by
  have ne : ∀ {a' : List (Nat × Int)}, a'.length < x.a.length → x.a ≠ [] := fun h e => by rw [e] at h; exact Nat.not_lt_zero _ h
  obtain ⟨hgt, hgl, _⟩ := h.good
  rcases oper_syn x hd h.syn id 0 with ⟨a1, e1, l1⟩ | ⟨a1, e1, l1⟩
  · obtain ⟨y, hy⟩ : ∃ y : St, y = ⟨x.b, x.s, x.r, a1, false⟩ := ⟨_, rfl⟩
    have hr : x.reads = (y, 0) := by rw [hy]; exact e1
    have yb : y.b = x.b := by rw [hy]
    have ys : y.s = x.s := by rw [hy]
    have yd : y.d = false := by rw [hy]
    have yr : y.r = x.r := by rw [hy]
    have ya : y.a.length = x.a.length := by rw [hy]; exact l1
    have yy : y.s = y.b.length := by rw [ys, yb]; exact h.syn
    clear hy e1
    by_cases hlt : Wl.good y.b < y.b.length
    · have tr : y.trunc ((Wl.good y.b : Nat) : Int) = y.oper id (fun u => u.cut ((Wl.good y.b : Nat) : Int).toNat) 0 := by
        unfold St.trunc
        rw [if_neg]
        rw [yd]
        simp
        omega
      rcases oper_syn y yd yy (fun u => u.cut ((Wl.good y.b : Nat) : Int).toNat) 0 with ⟨a2, e2, l2⟩ | ⟨a2, e2, l2⟩
      · obtain ⟨u, hu⟩ : ∃ u : St, u = St.cut ⟨y.b, y.s, y.r, a2, false⟩ ((Wl.good y.b : Nat) : Int).toNat := ⟨_, rfl⟩
        have ub : u.b = y.b.take (Wl.good y.b) := by rw [hu]; rfl
        have us : u.s = u.b.length := by
          rw [ub, List.length_take, hu]
          show min y.s _ = _
          rw [yy, Nat.min_comm]
          rfl
        have ud : u.d = false := by rw [hu]; rfl
        have ur : u.r = x.r := by rw [hu]; exact yr
        have ua : u.a.length = x.a.length := by rw [hu]; exact l2.trans ya
        have ut : y.trunc ((Wl.good y.b : Nat) : Int) = (u, 0) := by rw [tr, e2, hu]
        have kp : kpS y (Wl.good y.b) y.b.length = u.syncs := by
          unfold kpS
          rw [if_pos hlt, ut]
          rfl
        have ufl : u.b = Wl.flat (Wl.scan x.b) := by rw [ub, yb]; exact hgt
        clear hu e2
        rcases oper_syn u ud us St.sync 0 with ⟨a3, e3, l3⟩ | ⟨a3, e3, l3⟩
        · refine Or.inl ⟨y, St.sync ⟨u.b, u.s, u.r, a3, false⟩, hr, yb, ys, yd, kp.trans e3, ufl, rfl, rfl, ur, ?_⟩
          show a3.length ≤ _
          omega
        · refine Or.inr (Or.inr ⟨y, _, 10, hr, yb, ys, yd, kp.trans e3, rfl, h.cut (by show u.b = _; rw [ub, yb]) us, rfl, ur, ?_, ?_⟩)
          · show a3.length ≤ _
            omega
          · exact ne (a' := a3) (by omega)
      · refine Or.inr (Or.inr ⟨y, ⟨y.b, y.s, y.r, a2, true⟩, 10, hr, yb, ys, yd, ?_, rfl, h.of yb ys, rfl, yr, ?_, ?_⟩)
        · unfold kpS
          rw [if_pos hlt, tr, e2]
          rfl
        · show a2.length ≤ _
          omega
        · exact ne (a' := a2) (by omega)
    · have kp : kpS y (Wl.good y.b) y.b.length = y.syncs := by unfold kpS; rw [if_neg hlt]
      have yfl : y.b = Wl.flat (Wl.scan x.b) := by
        rw [← hgt, yb]
        rw [yb] at hlt
        rw [List.take_of_length_le (by omega)]
      rcases oper_syn y yd yy St.sync 0 with ⟨a3, e3, l3⟩ | ⟨a3, e3, l3⟩
      · refine Or.inl ⟨y, St.sync ⟨y.b, y.s, y.r, a3, false⟩, hr, yb, ys, yd, kp.trans e3, yfl, rfl, rfl, yr, ?_⟩
        show a3.length ≤ _
        omega
      · refine Or.inr (Or.inr ⟨y, ⟨y.b, y.s, y.r, a3, true⟩, 10, hr, yb, ys, yd, kp.trans e3, rfl, h.of yb ys, rfl, yr, ?_, ?_⟩)
        · show a3.length ≤ _
          omega
        · exact ne (a' := a3) (by omega)
  · refine Or.inr (Or.inl ⟨⟨x.b, x.s, x.r, a1, true⟩, 10, e1, rfl, h.of rfl rfl, rfl, rfl, ?_, ne l1⟩)
    show a1.length ≤ _
    omega
end Go.Proofs.YtgmgffcfmopgmaaDoor.wl
