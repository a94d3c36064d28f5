import Derived.Test.YtjfpjgialdkhkaaDoorDkKinds
import Derived.Test.YtjfpjgialdkhkaaDoorDkStarts
import Derived.Test.YtjfpjgialdkhkaaDoorRdCopy
namespace Go.Proofs.YtjfpjgialdkhkaaDoor.dk
open Go.ChangeShapes Go.WideShapes Go.ChangeAt Go.RowKit Go.Proofs.YtjfpjgialdkhkaaDoor.common

theorem nin {F F' : List Nat} {z b : Nat} (h : b ∉ F) (hb : b < z) (hs : ∀ k ∈ F', k ∈ F ∨ z ≤ k) : b ∉ F' := fun hm => by
  rcases hs b hm with h1 | h1
  · exact h h1
  · omega
/-- a block beside a disk -/
structure Bk (w : World) (F : List Nat) (b : Nat) (o : Obj) : Prop where
  is : w.heap[b]? = some o
  far : b ∉ F
theorem Bk.lt {w : World} {F : List Nat} {b : Nat} {o : Obj} (h : Bk w F b o) : b < w.heap.size := (Array.getElem?_eq_some_iff.1 h.is).1
theorem Bk.below {w w' : World} {F : List Nat} {b : Nat} {o : Obj} (h : Bk w F b o) (hb : Below w.heap.size w w') : Bk w' F b o := ⟨(hb.block b h.lt).trans h.is, h.far⟩
theorem Bk.fr {w w' : World} {F F' : List Nat} {b : Nat} {o : Obj} (h : Bk w F b o) (hf : Fr F w w') (hs : ∀ k ∈ F', k ∈ F ∨ w.heap.size ≤ k) : Bk w' F' b o := ⟨(hf.block b h.lt h.far).trans h.is, nin h.far h.lt hs⟩
/-- a list beside a disk -/
structure Lv (w : World) (F : List Nat) (v : Value) (l : List UInt8) : Prop where
  rd : Rd w v l
  far : ∀ a n c, v = .slice (some a) n c → a.block ∉ F
  lt : ∀ a n c, v = .slice (some a) n c → a.block < w.heap.size
theorem Lv.below {w w' : World} {F : List Nat} {v : Value} {l : List UInt8} (h : Lv w F v l) (hb : Below w.heap.size w w') : Lv w' F v l := ⟨h.rd.below hb, h.far, fun a n c e => Nat.lt_of_lt_of_le (h.lt a n c e) hb.size⟩
theorem Lv.fr {w w' : World} {F F' : List Nat} {v : Value} {l : List UInt8} (h : Lv w F v l) (hf : Fr F w w') (hs : ∀ k ∈ F', k ∈ F ∨ w.heap.size ≤ k) : Lv w' F' v l := ⟨h.rd.fr hf h.far h.lt, fun a n c e => nin (h.far a n c e) (h.lt a n c e) hs, fun a n c e => Nat.lt_of_lt_of_le (h.lt a n c e) hf.size⟩
theorem Ans.lv {w w' : World} {F' : List Nat} {v : Value} {l : List UInt8} (h : Ans w F' v l w') : Lv w' F' v l := by
  obtain ⟨h1, h2⟩ := h.away (G := F') (fun k hk => Or.inl hk)
  exact ⟨h.rd, h1, h2⟩
theorem ans_cap {w w' : World} {F' : List Nat} {v : Value} {l : List UInt8} (h : Ans w F' v l w') : ∃ o c, v = .slice o l.length c ∧ l.length ≤ c := by
  rcases h with ⟨e1, e2⟩ | ⟨g, e1, _⟩
  · exact ⟨none, 0, by rw [e1, e2]; rfl, by rw [e2]; exact Nat.le_refl _⟩
  · exact ⟨_, _, e1, Nat.le_refl _⟩
/-- the three ways of an operation -/
theorem oper_three (x : St) (dying on : St → St) (err : Nat) (hd : x.d = false) : (∃ k r, x.a = (0, k) :: r ∧ x.oper dying on err = ((dying ⟨x.b, x.s, x.r, r, false⟩).fail k, 10)) ∨ (∃ a', a'.length = x.a.length ∧ x.oper dying on err = (on ⟨x.b, x.s, x.r, a', false⟩, err)) := by
  obtain ⟨b, s, r, a, d⟩ := x
  dsimp only at hd
  subst hd
  match a with
  | [] => exact Or.inr ⟨[], rfl, rfl⟩
  | (0, k) :: t => exact Or.inl ⟨k, t, rfl, rfl⟩
  | (n + 1, k) :: t => exact Or.inr ⟨(n, k) :: t, rfl, rfl⟩
abbrev said (o : Option Addr) (l c : Nat) (n : Int) (m : Int) : Obj := .cells #[.slice o l c, .int .i64 n, .int .i64 m] 30

set_option maxHeartbeats 800000 in
theorem least_int (w : World) (a b : Int) : Calls Tryd.prog 58 #[.int .i64 a, .int .i64 b] w fun r' w' => r' = .returned (.int .i64 (if a < b then a else b)) ∧ w' = w := by
  by_cases h : a < b
  · rw [if_pos h]
    go_enter Tryd.func58, Tryd.ntmps58
    go_wp2
    go_ret
    exact ⟨rfl, rfl⟩
  · rw [if_neg h]
    go_enter Tryd.func58, Tryd.ntmps58
    go_wp2
    go_ret
    exact ⟨rfl, rfl⟩

set_option maxRecDepth 100000 in
set_option maxHeartbeats 1600000 in
theorem survived_any (w : World) (p : Nat) (F : List Nat) (x : St) (hD : Dk w p F x) (hd : x.d = true) (hs : x.s = x.b.length) (l : List UInt8) (hm : l.length ≤ 4611686018427387904) (oa : Option Addr) (c : Nat) (hl : Rd w (.slice oa l.length c) l) (hc : l.length ≤ c) (on : Option Addr) (cn : Nat) (hn : Rd w (.slice on x.b.length cn) x.b) (sy : Nat) (hsy : sy ≤ x.b.length) (h1 : x.b.length ≤ l.length) (h2 : x.b = l.take x.b.length) :
    Calls Tryd.prog 57 #[ptr p, .slice oa l.length c, .int .i64 (sy : Int), .agg #[.slice on x.b.length cn, .int .i64 (x.s : Int), .int .i64 0]] w fun r' w' => r' = .returned (.bool true) ∧ Below w.heap.size w w' := by
  rw [hs]
  obtain ⟨V, hV⟩ : ∃ V, V = w.alloc (said on x.b.length cn (x.b.length : Int) 0) := ⟨_, rfl⟩
  have BV : Below w.heap.size w V := by rw [hV]; exact (Below.refl _ _).alloc (Nat.le_refl _) _
  have hX : V.heap[w.heap.size]? = some (said on x.b.length cn (x.b.length : Int) 0) := by rw [hV]; exact heap_alloc_new _ _
  have HD := hide (dead_any V p F x (hD.below BV))
  rw [hd] at HD
  have HS := hide (starts_eq V oa c _ l x.b (hl.below BV) (hn.below BV) hc h1 h2 hm)
  have k0 : V.cell? ⟨w.heap.size, 0, none⟩ = some (.slice on x.b.length cn) := cell_of hX 0
  have k1 : V.cell? ⟨w.heap.size, 1, none⟩ = some (.int .i64 (x.b.length : Int)) := cell_of hX 1
  have hge : (sy : Int) ≤ (x.b.length : Int) := by omega
  have hgd : decide ((sy : Int) ≤ (x.b.length : Int)) = true := decide_eq_true hge
  have HBV := hide BV
  have HV := hide hV
  clear hD hl hn hX BV hV h2 hs hd
  go_enter Tryd.func57, Tryd.ntmps57
  go_wp2_with fail
  rw [← HV.out]
  refine HD.out.mono ?_
  rintro r' w' ⟨rfl, h'⟩
  obtain rfl := h'.symm
  clear HD
  go_wp2_with fail
  refine HS.out.mono ?_
  rintro r' w1 ⟨rfl, b1⟩
  have HB := hide (keepD HBV.out b1)
  clear b1 HS
  go_wp2
  go_ret
  exact ⟨rfl, HB.out⟩

theorem left_want (y : St) (hy : y.s ≤ y.b.length) (n : Int) : (y.left n : Int) = (y.s : Int) + (if (if n < 0 then 0 else n) < (y.b.length : Int) - (y.s : Int) then (if n < 0 then 0 else n) else (y.b.length : Int) - (y.s : Int)) := by
  unfold St.left
  split <;> split <;> omega

set_option maxRecDepth 100000 in
set_option maxHeartbeats 3200000 in
theorem crashed_any (w : World) (p : Nat) (F : List Nat) (y : St) (n : Int) (hD : Dk w p F (y.fail n)) (hy : y.s ≤ y.b.length) (hm : y.b.length ≤ 4611686018427387904) (oa : Option Addr) (c : Nat) (hl : Rd w (.slice oa y.b.length c) y.b) (hc : y.b.length ≤ c) (on : Option Addr) (cn : Nat) (hn : Rd w (.slice on (y.fail n).b.length cn) (y.fail n).b) :
    Calls Tryd.prog 36 #[ptr p, .agg #[.slice oa y.b.length c, .int .i64 (y.s : Int), .int .i64 0], .int .i64 n, .agg #[.slice on (y.fail n).b.length cn, .int .i64 ((y.fail n).s : Int), .int .i64 0]] w fun r' w' => r' = .returned (.bool true) ∧ Below w.heap.size w w' := by
  obtain ⟨hle, hlf⟩ := St.left_le y n hy
  have hxl : (y.fail n).b.length = y.left n := by show (y.b.take (y.left n)).length = _; rw [List.length_take]; omega
  have hxs : (y.fail n).s = (y.fail n).b.length := hxl.symm
  obtain ⟨x, hx⟩ : ∃ x, x = y.fail n := ⟨_, rfl⟩
  have hxb : x.b = y.b.take x.b.length := by rw [hx, hxl]; rfl
  have hxd : x.d = true := by rw [hx]; rfl
  rw [← hx] at hD hn hxl hxs ⊢
  have hwant := left_want y hy n
  rw [← hxl] at hwant
  obtain ⟨V, hV⟩ : ∃ V, V = (w.alloc (said oa y.b.length c (y.s : Int) 0)).alloc (said on x.b.length cn (x.s : Int) 0) := ⟨_, rfl⟩
  have hz1 : (w.alloc (said oa y.b.length c (y.s : Int) 0)).heap.size = w.heap.size + 1 := by simp
  have BV : Below w.heap.size w V := by rw [hV]; exact ((Below.refl _ _).alloc (Nat.le_refl _) _).alloc (by simp) _
  have hX1 : V.heap[w.heap.size]? = some (said oa y.b.length c (y.s : Int) 0) := by
    rw [hV, Below.block ((Below.refl (w.heap.size + 1) _).alloc (by rw [hz1]; exact Nat.le_refl _) _) _ (by omega)]
    exact heap_alloc_new _ _
  have hX2 : V.heap[w.heap.size + 1]? = some (said on x.b.length cn (x.s : Int) 0) := by rw [hV, ← hz1]; exact heap_alloc_new _ _
  have HS := hide (fun Z (hZ : Below V.heap.size V Z) => survived_any Z p F x ((hD.below BV).below hZ) hxd hxs y.b hm oa c ((hl.below BV).below hZ) hc on cn ((hn.below BV).below hZ) y.s (by omega) (by omega) hxb)
  have k0 : V.cell? ⟨w.heap.size, 0, none⟩ = some (.slice oa y.b.length c) := cell_of hX1 0
  have k1 : V.cell? ⟨w.heap.size, 1, none⟩ = some (.int .i64 (y.s : Int)) := cell_of hX1 1
  have m0 : V.cell? ⟨w.heap.size + 1, 0, none⟩ = some (.slice on x.b.length cn) := cell_of hX2 0
  have m1 : V.cell? ⟨w.heap.size + 1, 0 + 1, none⟩ = some (.int .i64 (x.s : Int)) := cell_of hX2 1
  have m2 : V.cell? ⟨w.heap.size + 1, 0 + 2, none⟩ = some (.int .i64 0) := cell_of hX2 2
  have HBV := hide BV
  have HV := hide hV
  have hsub : (y.b.length : Int) - (y.s : Int) ≤ 4611686018427387904 := by omega
  have hsub0 : 0 ≤ (y.b.length : Int) - (y.s : Int) := by omega
  have HX2 := hide hX2
  clear hD hl hn hX1 hX2 BV hV hxb hxd hxl hxs hx hlf hle hz1
  by_cases n0 : n < 0
  · rw [if_pos n0] at hwant
    obtain ⟨q, hq⟩ : ∃ q : Int, q = if ((0 : Int)) < (y.b.length : Int) - (y.s : Int) then ((0 : Int)) else (y.b.length : Int) - (y.s : Int) := ⟨_, rfl⟩
    have HL : Hid (∀ W, Calls Tryd.prog 58 #[.int .i64 ((0 : Int)), .int .i64 ((y.b.length : Int) - (y.s : Int))] W fun r' w' => r' = .returned (.int .i64 q) ∧ w' = W) := fun W => by rw [hq]; exact least_int W _ _
    rw [← hq] at hwant
    have hq1 : q ≤ 4611686018427387904 := by rw [hq]; split <;> omega
    have hq0 : 0 ≤ q := by rw [hq]; split <;> omega
    have HWQ := hide hwant
    have hsq : (y.s : Int) + q ≤ 9223372036854775807 := by omega
    have hsq0 : -9223372036854775808 ≤ (y.s : Int) + q := by omega
    clear hq hwant
    go_enter Tryd.func36, Tryd.ntmps36
    go_wp2_with fail
    rw [← HV.out]
    go_quiet ((go_at_call 58; exact Calls.quiet_of_same (HL.out _)))
    go_wp2_with fail
    refine (HS.out _ (by first | exact Below.refl _ _ | exact bdN (Below.refl _ _) _)).mono ?_
    rintro r' w1 ⟨rfl, b1⟩
    have hW1 : Below V.heap.size V w1 := by first | exact keepD (bdN (Below.refl _ _) _) b1 | exact b1
    have m0' : w1.cell? ⟨w.heap.size + 1, 0, none⟩ = some (.slice on x.b.length cn) := cell_of ((hW1.block _ (Array.getElem?_eq_some_iff.1 HX2.out).1).trans HX2.out) 0
    have HZ := hide (keepD HBV.out hW1)
    clear b1 hW1 HS HL
    go_wp2
    go_ret
    exact ⟨by simp [HWQ.out], HZ.out⟩
  · rw [if_neg n0] at hwant
    obtain ⟨q, hq⟩ : ∃ q : Int, q = if (n) < (y.b.length : Int) - (y.s : Int) then (n) else (y.b.length : Int) - (y.s : Int) := ⟨_, rfl⟩
    have HL : Hid (∀ W, Calls Tryd.prog 58 #[.int .i64 (n), .int .i64 ((y.b.length : Int) - (y.s : Int))] W fun r' w' => r' = .returned (.int .i64 q) ∧ w' = W) := fun W => by rw [hq]; exact least_int W _ _
    rw [← hq] at hwant
    have hq1 : q ≤ 4611686018427387904 := by rw [hq]; split <;> omega
    have hq0 : 0 ≤ q := by rw [hq]; split <;> omega
    have HWQ := hide hwant
    have hsq : (y.s : Int) + q ≤ 9223372036854775807 := by omega
    have hsq0 : -9223372036854775808 ≤ (y.s : Int) + q := by omega
    clear hq hwant
    go_enter Tryd.func36, Tryd.ntmps36
    go_wp2_with fail
    rw [← HV.out]
    go_quiet ((go_at_call 58; exact Calls.quiet_of_same (HL.out _)))
    go_wp2_with fail
    refine (HS.out _ (by first | exact Below.refl _ _ | exact bdN (Below.refl _ _) _)).mono ?_
    rintro r' w1 ⟨rfl, b1⟩
    have hW1 : Below V.heap.size V w1 := by first | exact keepD (bdN (Below.refl _ _) _) b1 | exact b1
    have m0' : w1.cell? ⟨w.heap.size + 1, 0, none⟩ = some (.slice on x.b.length cn) := cell_of ((hW1.block _ (Array.getElem?_eq_some_iff.1 HX2.out).1).trans HX2.out) 0
    have HZ := hide (keepD HBV.out hW1)
    clear b1 hW1 HS HL
    go_wp2
    go_ret
    exact ⟨by simp [HWQ.out], HZ.out⟩
end Go.Proofs.YtjfpjgialdkhkaaDoor.dk
