import Derived.Test.YtkkgngmhdlmgnaaDoorPickWalk
import Derived.Test.YtkkgngmhdlmgnaaDoorRefObj
import Derived.Deep.RegionHeld3
import Derived.Deep.QuietTactic
import Derived.BigQuiet
namespace Go.Proofs.YtkkgngmhdlmgnaaDoor.jw
open Go.ChangeShapes Go.WideShapes Go.ChangeAt Go.RowKit Go.Proofs.YtkkgngmhdlmgnaaDoor.common
attribute [local go_sem ↓] Go.wp_at_zero Go.wp_at_succ

/-- a list of whole numbers -/
def Tn (w : World) (v : Value) : Prop := ∃ oa len cap, v = .slice oa len cap ∧ len ≤ cap ∧ len ≤ 4611686018427387904 ∧ ∀ i, i < len → ∃ g o z, oa = some ⟨g, o, none⟩ ∧ g < w.heap.size ∧ w.cell? ⟨g, o + i, none⟩ = some (.int .i64 z) ∧ -9223372036854775808 ≤ z ∧ z ≤ 9223372036854775807
theorem Tn.below {w w' : World} {v : Value} (h : Tn w v) (hb : Below w.heap.size w w') : Tn w' v := by
  obtain ⟨oa, len, cap, hv, h1, h2, hc⟩ := h
  refine ⟨oa, len, cap, hv, h1, h2, fun i hi => ?_⟩
  obtain ⟨g, o, z, ho, hg, hz, hr⟩ := hc i hi
  exact ⟨g, o, z, ho, Nat.lt_of_lt_of_le hg hb.size, (hb.cell hg).trans hz, hr⟩

theorem below_drewN (w : World) : ∀ n, Below w.heap.size w (w.drewN n)
  | 0 => Below.refl _ _
  | n + 1 => (below_drewN w n).drew
theorem bdrew {b : Nat} {a w : World} (h : Below b a w) (n : Nat) : Below b a (w.drewN n) := h.trans ⟨rfl, rfl, rfl, Nat.le_refl _, fun _ _ => rfl⟩
theorem wrap_id (x : Int) (h1 : -9223372036854775808 ≤ x) (h2 : x ≤ 9223372036854775807) : IntKind.i64.wrap x = x := by
  unfold IntKind.wrap
  simp [IntKind.signed, IntKind.bits]
  omega
theorem tdiv_abs (z D : Int) : (z.tdiv D).natAbs ≤ z.natAbs := by
  rw [Int.natAbs_tdiv]
  exact Nat.div_le_self _ _
theorem tdiv_lo (z D : Int) (h1 : -9223372036854775808 ≤ z) (h2 : z ≤ 9223372036854775807) : -9223372036854775808 ≤ z.tdiv D := by
  have := tdiv_abs z D; omega
theorem tdiv_hi (z D : Int) (h1 : -9223372036854775808 ≤ z) (h2 : z ≤ 9223372036854775807) (hD : 1 ≤ D) : z.tdiv D ≤ 9223372036854775807 := by
  by_cases h : 0 ≤ z
  · have := tdiv_abs z D; omega
  · have : z.tdiv D ≤ 0 := by
      rw [show z = -(-z) by omega, Int.neg_tdiv]
      have := Int.tdiv_nonneg (show 0 ≤ -z by omega) (show 0 ≤ D by omega)
      omega
    omega

set_option maxRecDepth 100000 in
set_option maxHeartbeats 1600000 in
theorem turn_det (v : Value) (A n : Nat) (w0 : World) (hv : Tn w0 v) (hA : A ≤ 4611686018427387904) (hn : 1 ≤ n) (hn8 : n ≤ 8) (I J : Int) (hI : I = (A : Int)) (hJ : J = (n : Int)) :
    ∃ r : Nat, r < n ∧ ∀ w : World, Below w0.heap.size w0 w → Calls Tryd.prog 14 #[v, .int .i64 I, .int .i64 J] w fun x w' => x = .returned (.int .i64 (r : Int)) ∧ ∃ m, w' = w.drewN m := by
  obtain ⟨oa, len, cap, rfl, hlc, hl, hc⟩ := hv
  have HC := hide hc
  have HI := hide hI
  have HJ := hide hJ
  have HN := hide hn
  clear hc hI hJ
  by_cases h0 : len = 0
  · subst h0
    refine ⟨0, hn, fun w _ => ?_⟩
    go_enter Tryd.func14, Tryd.ntmps14
    go_wp2
    go_ret
    exact ⟨rfl, 0, rfl⟩
  · have hlp : A % len < len := Nat.mod_lt _ (by omega)
    obtain ⟨R, hR⟩ : ∃ R : Nat, A % len = R := ⟨_, rfl⟩
    obtain ⟨Q, hQ⟩ : ∃ Q : Nat, A / len = Q := ⟨_, rfl⟩
    rw [hR] at hlp
    obtain ⟨g, o, z, rfl, hg, hz0, hz1, hz2⟩ := HC.out R hlp
    have l0 : ((len : Int) == 0) = false := beq_false_of_ne (by omega)
    have l1 : (0 : Int) < (len : Int) := by omega
    have l3 : (0 : Int) ≤ (len : Int) := by omega
    have i0 : (0 : Int) ≤ I := by have := HI.out; omega
    have e1 : I % (len : Int) = (R : Int) := by rw [HI.out, ← hR]; simp
    have e2 : I.tmod (len : Int) = (R : Int) := by rw [Int.tmod_eq_emod_of_nonneg i0]; exact e1
    have e3 : I / (len : Int) = (Q : Int) := by rw [HI.out, ← hQ]; simp
    have e4 : I.tdiv (len : Int) = (Q : Int) := by rw [Int.tdiv_eq_ediv_of_nonneg i0]; exact e3
    have m2 : (0 : Int) ≤ (R : Int) := by omega
    have m3 : (R : Int) < (len : Int) := by omega
    have q1 : (0 : Int) ≤ (Q : Int) := by omega
    have q2 : (Q : Int) ≤ 4611686018427387904 := by
      have : Q ≤ A := by rw [← hQ]; exact Nat.div_le_self _ _
      omega
    obtain ⟨M, hM⟩ : ∃ M : Int, (Q : Int) % 7 = M := ⟨_, rfl⟩
    have hM2 : (Q : Int).tmod 7 = M := by rw [Int.tmod_eq_emod_of_nonneg q1]; exact hM
    have d1 : (0 : Int) ≤ M := by rw [← hM]; exact Int.emod_nonneg _ (by decide)
    have d2 : M < 7 := by rw [← hM]; exact Int.emod_lt_of_pos _ (by decide)
    obtain ⟨D, hD⟩ : ∃ D : Int, 1 + M = D := ⟨_, rfl⟩
    have D1 : 1 ≤ D := by omega
    have D2 : ¬ D = 0 := by omega
    have D3 : ¬ D = -1 := by omega
    have D4 : (D == 0) = false := beq_false_of_ne D2
    have D5 : IntKind.i64.wrap (1 + M) = D := by
      rw [← hD]
      exact wrap_id _ (by omega) (by omega)
    have D7 : IntKind.i64.wrap D = D := wrap_id _ (by omega) (by omega)
    have D6 : IntKind.i64.wrap (z.tdiv D) = z.tdiv D := wrap_id _ (tdiv_lo z D hz1 hz2) (tdiv_hi z D hz1 hz2 D1)
    clear hR hQ
    have HPk := hide (fun (W : World) => kitw.pick_any (z.tdiv D) J W (by have := HJ.out; omega) (by have := HJ.out; omega) (tdiv_lo z D hz1 hz2) (tdiv_hi z D hz1 hz2 D1))
    have HPb := hide (kitw.pick_bounds (z.tdiv D) J)
    generalize kitw.pick (z.tdiv D) J = p at *
    refine ⟨p.toNat, by have h1 := HPb.out.2 (by have := HJ.out; omega); have := HJ.out; have := HPb.out.1; omega, fun w hw => ?_⟩
    have hz : w.cell? ⟨g, o + R, none⟩ = some (.int .i64 z) := (hw.cell (p := ⟨g, o + R, none⟩) hg).trans hz0
    clear hw hz0
    go_enter Tryd.func14, Tryd.ntmps14
    go_wp2_with fail
    go_quiet ((go_at_call 29; exact Calls.quiet_of_same (HPk.out _)))
    go_wp2_with fail
    go_ret
    refine ⟨?_, _, rfl⟩
    rw [show ((p.toNat : Nat) : Int) = p by have := HPb.out.1; omega]
    rfl
theorem turn_any (v : Value) (A n : Nat) (w : World) (hv : Tn w v) (hA : A ≤ 4611686018427387904) (hn : 1 ≤ n) (hn8 : n ≤ 8) (I J : Int) (hI : I = (A : Int)) (hJ : J = (n : Int)) :
    Calls Tryd.prog 14 #[v, .int .i64 I, .int .i64 J] w fun x w' => (∃ r : Nat, x = .returned (.int .i64 (r : Int)) ∧ r < n) ∧ Below w.heap.size w w' := by
  obtain ⟨r, hr, hc⟩ := turn_det v A n w hv hA hn hn8 I J hI hJ
  refine (hc w (Below.refl _ _)).mono ?_
  rintro x w' ⟨rfl, m, rfl⟩
  exact ⟨⟨r, rfl, hr⟩, below_drewN _ _⟩
/-- the choice of one of eight, at every place -/
theorem turn8 (v : Value) (w0 : World) (hv : Tn w0 v) : ∃ tr : Int → Nat, ∀ I : Int, 0 ≤ I → I ≤ 4611686018427387904 → tr I < 8 ∧ ∀ w : World, Below w0.heap.size w0 w → Calls Tryd.prog 14 #[v, .int .i64 I, .int .i64 8] w fun x w' => x = .returned (.int .i64 (tr I : Int)) ∧ ∃ m, w' = w.drewN m := by
  have h : ∀ I : Int, ∃ r : Nat, 0 ≤ I → I ≤ 4611686018427387904 → r < 8 ∧ ∀ w : World, Below w0.heap.size w0 w → Calls Tryd.prog 14 #[v, .int .i64 I, .int .i64 8] w fun x w' => x = .returned (.int .i64 (r : Int)) ∧ ∃ m, w' = w.drewN m := by
    intro I
    by_cases h0 : 0 ≤ I ∧ I ≤ 4611686018427387904
    · obtain ⟨r, hr, hc⟩ := turn_det v I.toNat 8 w0 hv (by omega) (by decide) (by decide) I 8 (by omega) rfl
      exact ⟨r, fun _ _ => ⟨hr, hc⟩⟩
    · exact ⟨0, fun a b => absurd ⟨a, b⟩ h0⟩
  exact ⟨fun I => (h I).choose, fun I => (h I).choose_spec⟩
/-- the digits, small and great -/
def d32 : ByteArray := { data := #[48, 49, 50, 51, 52, 53, 54, 55, 56, 57, 97, 98, 99, 100, 101, 102, 48, 49, 50, 51, 52, 53, 54, 55, 56, 57, 65, 66, 67, 68, 69, 70] }
def dg (k : Nat) : UInt8 := d32.data.toList.getD k 0
theorem d32_at : ∀ n, n < 32 → ∀ h : n < d32.size, d32[n] = dg n := by
  intro n hn h
  have : ∀ n : Fin 32, d32[n.val]'n.isLt = dg n.val := by decide
  exact this ⟨n, hn⟩
theorem dg_hexa : ∀ g k, g < 2 → k < 16 → Json.hexa (dg (16 * g + k)) = some k := by
  intro g k hg hk
  have : ∀ (g : Fin 2) (k : Fin 16), Json.hexa (dg (16 * g.val + k.val)) = some k.val := by decide
  exact this ⟨g, hg⟩ ⟨k, hk⟩
def four (n g : Nat) : List UInt8 := [dg (16 * g + n / 4096 % 16), dg (16 * g + n / 256 % 16), dg (16 * g + n / 16 % 16), dg (16 * g + n % 16)]
theorem four_unit (n g : Nat) (hn : n < 65536) (hg : g < 2) (rest : List UInt8) : Json.unit (four n g ++ rest) = some (n, rest) := by
  have h := Json.unit_four (dg (16 * g + n / 4096 % 16)) (dg (16 * g + n / 256 % 16)) (dg (16 * g + n / 16 % 16)) (dg (16 * g + n % 16)) _ _ _ _ (dg_hexa g _ hg (by omega)) (dg_hexa g _ hg (by omega)) (dg_hexa g _ hg (by omega)) (dg_hexa g _ hg (by omega)) rest
  rw [show four n g ++ rest = dg (16 * g + n / 4096 % 16) :: dg (16 * g + n / 256 % 16) :: dg (16 * g + n / 16 % 16) :: dg (16 * g + n % 16) :: rest from rfl]
  rw [h]
  congr 2
  omega

theorem conv_six (w : World) (c0 c1 c2 c3 c4 c5 : UInt8) : (convert 60 9 (.slice (some ⟨w.heap.size, 0, none⟩) 6 6)).run Tryd.prog (w.alloc (.cells #[B c0, B c1, B c2, B c3, B c4, B c5] 5)) = .ok (S [c0, c1, c2, c3, c4, c5]) (w.alloc (.cells #[B c0, B c1, B c2, B c3, B c4, B c5] 5)) := by
  refine run_convert_bytes_back (P := Tryd.prog) _ 60 9 5 ⟨w.heap.size, 0, none⟩ 6 [c0, c1, c2, c3, c4, c5] Tryd.underlying60 Tryd.underlying5 Tryd.underlying9 ?_
  intro j hj
  rw [Addr.add_mid]
  refine range_new w #[B c0, B c1, B c2, B c3, B c4, B c5] 5 j _ ?_
  match j, hj with
  | 0, _ => rfl
  | 1, _ => rfl
  | 2, _ => rfl
  | 3, _ => rfl
  | 4, _ => rfl
  | 5, _ => rfl
theorem conv_six_drew (w : World) (c0 c1 c2 c3 c4 c5 : UInt8) : (convert 60 9 (.slice (some ⟨w.heap.size, 0, none⟩) 6 6)).run Tryd.prog (w.alloc (.cells #[B c0, B c1, B c2, B c3, B c4, B c5] 5)).drew = .ok (S [c0, c1, c2, c3, c4, c5]) (w.alloc (.cells #[B c0, B c1, B c2, B c3, B c4, B c5] 5)).drew := by
  refine run_convert_bytes_back (P := Tryd.prog) _ 60 9 5 ⟨w.heap.size, 0, none⟩ 6 [c0, c1, c2, c3, c4, c5] Tryd.underlying60 Tryd.underlying5 Tryd.underlying9 ?_
  intro j hj
  rw [Addr.add_mid]
  show (w.alloc (.cells #[B c0, B c1, B c2, B c3, B c4, B c5] 5)).cell? _ = _
  refine range_new w #[B c0, B c1, B c2, B c3, B c4, B c5] 5 j _ ?_
  match j, hj with
  | 0, _ => rfl
  | 1, _ => rfl
  | 2, _ => rfl
  | 3, _ => rfl
  | 4, _ => rfl
  | 5, _ => rfl

set_option maxRecDepth 100000 in
set_option maxHeartbeats 1600000 in
theorem four_any (n g : Nat) (w : World) (hn : n < 65536) (hg : g < 2) (I J : Int) (hI : I = (n : Int)) (hJ : J = (g : Int)) :
    Calls Tryd.prog 46 #[.int .i64 I, .int .i64 J] w fun x w' => x = .returned (S (92 :: 117 :: four n g)) ∧ Below w.heap.size w w' := by
  have i0 : (0 : Int) ≤ I := by omega
  have i1 : I < 65536 := by omega
  have j0 : (0 : Int) ≤ J := by omega
  have j1 : J ≤ 1 := by omega
  obtain ⟨q1, hq1⟩ : ∃ q : Int, I / 4096 = q := ⟨_, rfl⟩
  obtain ⟨q2, hq2⟩ : ∃ q : Int, I / 256 = q := ⟨_, rfl⟩
  obtain ⟨q3, hq3⟩ : ∃ q : Int, I / 16 = q := ⟨_, rfl⟩
  have tq1 : I.tdiv 4096 = q1 := by rw [Int.tdiv_eq_ediv_of_nonneg i0]; exact hq1
  have tq2 : I.tdiv 256 = q2 := by rw [Int.tdiv_eq_ediv_of_nonneg i0]; exact hq2
  have tq3 : I.tdiv 16 = q3 := by rw [Int.tdiv_eq_ediv_of_nonneg i0]; exact hq3
  obtain ⟨r1, hr1⟩ : ∃ q : Int, q1 % 16 = q := ⟨_, rfl⟩
  obtain ⟨r2, hr2⟩ : ∃ q : Int, q2 % 16 = q := ⟨_, rfl⟩
  obtain ⟨r3, hr3⟩ : ∃ q : Int, q3 % 16 = q := ⟨_, rfl⟩
  obtain ⟨r4, hr4⟩ : ∃ q : Int, I % 16 = q := ⟨_, rfl⟩
  have tr1 : q1.tmod 16 = r1 := by rw [Int.tmod_eq_emod_of_nonneg (by omega)]; exact hr1
  have tr2 : q2.tmod 16 = r2 := by rw [Int.tmod_eq_emod_of_nonneg (by omega)]; exact hr2
  have tr3 : q3.tmod 16 = r3 := by rw [Int.tmod_eq_emod_of_nonneg (by omega)]; exact hr3
  have tr4 : I.tmod 16 = r4 := by rw [Int.tmod_eq_emod_of_nonneg (by omega)]; exact hr4
  have w1 : IntKind.i64.wrap q1 = q1 := wrap_id _ (by omega) (by omega)
  have w2 : IntKind.i64.wrap q2 = q2 := wrap_id _ (by omega) (by omega)
  have w3 : IntKind.i64.wrap q3 = q3 := wrap_id _ (by omega) (by omega)
  obtain ⟨a1, ha1⟩ : ∃ a : Nat, 16 * g + n / 4096 % 16 = a := ⟨_, rfl⟩
  obtain ⟨a2, ha2⟩ : ∃ a : Nat, 16 * g + n / 256 % 16 = a := ⟨_, rfl⟩
  obtain ⟨a3, ha3⟩ : ∃ a : Nat, 16 * g + n / 16 % 16 = a := ⟨_, rfl⟩
  obtain ⟨a4, ha4⟩ : ∃ a : Nat, 16 * g + n % 16 = a := ⟨_, rfl⟩
  have b1 : 16 * J + r1 = (a1 : Int) := by omega
  have b2 : 16 * J + r2 = (a2 : Int) := by omega
  have b3 : 16 * J + r3 = (a3 : Int) := by omega
  have b4 : 16 * J + r4 = (a4 : Int) := by omega
  have c1 : IntKind.i64.wrap (a1 : Int) = (a1 : Int) := wrap_id _ (by omega) (by omega)
  have c2 : IntKind.i64.wrap (a2 : Int) = (a2 : Int) := wrap_id _ (by omega) (by omega)
  have c3 : IntKind.i64.wrap (a3 : Int) = (a3 : Int) := wrap_id _ (by omega) (by omega)
  have c4 : IntKind.i64.wrap (a4 : Int) = (a4 : Int) := wrap_id _ (by omega) (by omega)
  have x1 : a1 < 32 := by omega
  have x2 : a2 < 32 := by omega
  have x3 : a3 < 32 := by omega
  have x4 : a4 < 32 := by omega
  have y1 : (a1 : Int) < 32 := by omega
  have y2 : (a2 : Int) < 32 := by omega
  have y3 : (a3 : Int) < 32 := by omega
  have y4 : (a4 : Int) < 32 := by omega
  have HF : Hid (four n g = [dg a1, dg a2, dg a3, dg a4]) := by show _ = _; unfold four; rw [ha1, ha2, ha3, ha4]
  have hl1 : ∀ h : a1 < ({ data := #[48, 49, 50, 51, 52, 53, 54, 55, 56, 57, 97, 98, 99, 100, 101, 102, 48, 49, 50, 51, 52, 53, 54, 55, 56, 57, 65, 66, 67, 68, 69, 70] } : ByteArray).size, ({ data := #[48, 49, 50, 51, 52, 53, 54, 55, 56, 57, 97, 98, 99, 100, 101, 102, 48, 49, 50, 51, 52, 53, 54, 55, 56, 57, 65, 66, 67, 68, 69, 70] } : ByteArray)[a1]'h = dg a1 := fun h => d32_at a1 x1 h
  have hl2 : ∀ h : a2 < ({ data := #[48, 49, 50, 51, 52, 53, 54, 55, 56, 57, 97, 98, 99, 100, 101, 102, 48, 49, 50, 51, 52, 53, 54, 55, 56, 57, 65, 66, 67, 68, 69, 70] } : ByteArray).size, ({ data := #[48, 49, 50, 51, 52, 53, 54, 55, 56, 57, 97, 98, 99, 100, 101, 102, 48, 49, 50, 51, 52, 53, 54, 55, 56, 57, 65, 66, 67, 68, 69, 70] } : ByteArray)[a2]'h = dg a2 := fun h => d32_at a2 x2 h
  have hl3 : ∀ h : a3 < ({ data := #[48, 49, 50, 51, 52, 53, 54, 55, 56, 57, 97, 98, 99, 100, 101, 102, 48, 49, 50, 51, 52, 53, 54, 55, 56, 57, 65, 66, 67, 68, 69, 70] } : ByteArray).size, ({ data := #[48, 49, 50, 51, 52, 53, 54, 55, 56, 57, 97, 98, 99, 100, 101, 102, 48, 49, 50, 51, 52, 53, 54, 55, 56, 57, 65, 66, 67, 68, 69, 70] } : ByteArray)[a3]'h = dg a3 := fun h => d32_at a3 x3 h
  have hl4 : ∀ h : a4 < ({ data := #[48, 49, 50, 51, 52, 53, 54, 55, 56, 57, 97, 98, 99, 100, 101, 102, 48, 49, 50, 51, 52, 53, 54, 55, 56, 57, 65, 66, 67, 68, 69, 70] } : ByteArray).size, ({ data := #[48, 49, 50, 51, 52, 53, 54, 55, 56, 57, 97, 98, 99, 100, 101, 102, 48, 49, 50, 51, 52, 53, 54, 55, 56, 57, 65, 66, 67, 68, 69, 70] } : ByteArray)[a4]'h = dg a4 := fun h => d32_at a4 x4 h
  have hcv := conv_six w 92 117 (dg a1) (dg a2) (dg a3) (dg a4)
  have hcd := conv_six_drew w 92 117 (dg a1) (dg a2) (dg a3) (dg a4)
  have h92 : (((92 : UInt8).toNat : Nat) : Int) = 92 := rfl
  have h117 : (((117 : UInt8).toNat : Nat) : Int) = 117 := rfl
  unfold B at hcv hcd
  rw [h92, h117] at hcv hcd
  rw [HF.out]
  generalize dg a1 = g1 at *
  generalize dg a2 = g2 at *
  generalize dg a3 = g3 at *
  generalize dg a4 = g4 at *
  clear ha1 ha2 ha3 ha4 hI hJ hn hg h92 h117 HF
  go_enter Tryd.func46, Tryd.ntmps46
  go_wp2_with fail
  go_region
  all_goals
    go_wp2_with fail
    go_ret
    exact ⟨rfl, ((Below.refl _ _).alloc (Nat.le_refl _) _).drew⟩
end Go.Proofs.YtkkgngmhdlmgnaaDoor.jw
