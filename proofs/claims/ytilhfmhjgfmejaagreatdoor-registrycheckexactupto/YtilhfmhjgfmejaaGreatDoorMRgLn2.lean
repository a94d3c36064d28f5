import Derived.Test.YtilhfmhjgfmejaaGreatDoorMRgLn1
import Derived.Test.YtilhfmhjgfmejaaGreatDoorMRgChD
namespace Go.Proofs.YtilhfmhjgfmejaaGreatDoor.rg
open Go.ChangeShapes Go.WideShapes Go.ChangeAt Go.RowKit Go.Proofs.YtilhfmhjgfmejaaGreatDoor.common Go.Maps
attribute [local go_sem ↓] Go.wp_at_zero Go.wp_at_succ

theorem infoSl : (Tryz.prog.info? 43).map (fun i => (i.zero, i.size, i.bytes)) = some (some (.slice none 0 0), 1, 24) := by kernel_rfl
theorem sizeLn : (Tryz.prog.info? 28).map (·.size) = some 15 := by kernel_rfl
/-- what lend answers -/
def LendP (t : Ten) (cs : List Cli) (us : List Usr) (w w' : World) (v : Value) : Prop := ∃ ls oN cN oU cU vL, v = .agg #[.int .i64 t.a0, .int .i64 t.a1, .int .i64 t.a2, .int .i64 t.a3, .int .i64 t.a4, .int .i64 t.a5, .int .i64 t.a6, .int .i64 t.a7, .int .i64 t.a8, .int .i64 t.a9, .slice oN cs.length cN, .slice oU us.length cU, .slice oN (cs.length + 2) cN, .slice oU (us.length + 2) cU, vL] ∧ LnO (w.heap.size + 2) cs us ls (.slice oN (cs.length + 2) cN) (.slice oU (us.length + 2) cU) vL w' ∧ Below w.heap.size w w'
theorem set_fifteen {w : World} {F : Nat} {t : TypeId} {x0 x1 x2 x3 x4 x5 x6 x7 x8 x9 x10 x11 x12 x13 x14 : Value} (h : w.heap[F]? = some (.cells #[x0, x1, x2, x3, x4, x5, x6, x7, x8, x9, x10, x11, x12, x13, x14] t)) (a0 a1 a2 a3 a4 a5 a6 a7 a8 a9 a10 a11 a12 a13 a14 : Value) : (((((((((((((((w.setCell ⟨F, 0, none⟩ a0).setCell ⟨F, 1, none⟩ a1).setCell ⟨F, 2, none⟩ a2).setCell ⟨F, 3, none⟩ a3).setCell ⟨F, 4, none⟩ a4).setCell ⟨F, 5, none⟩ a5).setCell ⟨F, 6, none⟩ a6).setCell ⟨F, 7, none⟩ a7).setCell ⟨F, 8, none⟩ a8).setCell ⟨F, 9, none⟩ a9).setCell ⟨F, 10, none⟩ a10).setCell ⟨F, 11, none⟩ a11).setCell ⟨F, 12, none⟩ a12).setCell ⟨F, 13, none⟩ a13).setCell ⟨F, 14, none⟩ a14).heap[F]? = some (.cells #[a0, a1, a2, a3, a4, a5, a6, a7, a8, a9, a10, a11, a12, a13, a14] t) := by
  have h0 : (w.setCell ⟨F, 0, none⟩ a0).heap[F]? = some (.cells #[a0, x1, x2, x3, x4, x5, x6, x7, x8, x9, x10, x11, x12, x13, x14] t) := set_of h 0 a0
  generalize w.setCell ⟨F, 0, none⟩ a0 = w0 at h0 ⊢
  have h1 : (w0.setCell ⟨F, 1, none⟩ a1).heap[F]? = some (.cells #[a0, a1, x2, x3, x4, x5, x6, x7, x8, x9, x10, x11, x12, x13, x14] t) := set_of h0 1 a1
  generalize w0.setCell ⟨F, 1, none⟩ a1 = w1 at h1 ⊢
  have h2 : (w1.setCell ⟨F, 2, none⟩ a2).heap[F]? = some (.cells #[a0, a1, a2, x3, x4, x5, x6, x7, x8, x9, x10, x11, x12, x13, x14] t) := set_of h1 2 a2
  generalize w1.setCell ⟨F, 2, none⟩ a2 = w2 at h2 ⊢
  have h3 : (w2.setCell ⟨F, 3, none⟩ a3).heap[F]? = some (.cells #[a0, a1, a2, a3, x4, x5, x6, x7, x8, x9, x10, x11, x12, x13, x14] t) := set_of h2 3 a3
  generalize w2.setCell ⟨F, 3, none⟩ a3 = w3 at h3 ⊢
  have h4 : (w3.setCell ⟨F, 4, none⟩ a4).heap[F]? = some (.cells #[a0, a1, a2, a3, a4, x5, x6, x7, x8, x9, x10, x11, x12, x13, x14] t) := set_of h3 4 a4
  generalize w3.setCell ⟨F, 4, none⟩ a4 = w4 at h4 ⊢
  have h5 : (w4.setCell ⟨F, 5, none⟩ a5).heap[F]? = some (.cells #[a0, a1, a2, a3, a4, a5, x6, x7, x8, x9, x10, x11, x12, x13, x14] t) := set_of h4 5 a5
  generalize w4.setCell ⟨F, 5, none⟩ a5 = w5 at h5 ⊢
  have h6 : (w5.setCell ⟨F, 6, none⟩ a6).heap[F]? = some (.cells #[a0, a1, a2, a3, a4, a5, a6, x7, x8, x9, x10, x11, x12, x13, x14] t) := set_of h5 6 a6
  generalize w5.setCell ⟨F, 6, none⟩ a6 = w6 at h6 ⊢
  have h7 : (w6.setCell ⟨F, 7, none⟩ a7).heap[F]? = some (.cells #[a0, a1, a2, a3, a4, a5, a6, a7, x8, x9, x10, x11, x12, x13, x14] t) := set_of h6 7 a7
  generalize w6.setCell ⟨F, 7, none⟩ a7 = w7 at h7 ⊢
  have h8 : (w7.setCell ⟨F, 8, none⟩ a8).heap[F]? = some (.cells #[a0, a1, a2, a3, a4, a5, a6, a7, a8, x9, x10, x11, x12, x13, x14] t) := set_of h7 8 a8
  generalize w7.setCell ⟨F, 8, none⟩ a8 = w8 at h8 ⊢
  have h9 : (w8.setCell ⟨F, 9, none⟩ a9).heap[F]? = some (.cells #[a0, a1, a2, a3, a4, a5, a6, a7, a8, a9, x10, x11, x12, x13, x14] t) := set_of h8 9 a9
  generalize w8.setCell ⟨F, 9, none⟩ a9 = w9 at h9 ⊢
  have h10 : (w9.setCell ⟨F, 10, none⟩ a10).heap[F]? = some (.cells #[a0, a1, a2, a3, a4, a5, a6, a7, a8, a9, a10, x11, x12, x13, x14] t) := set_of h9 10 a10
  generalize w9.setCell ⟨F, 10, none⟩ a10 = w10 at h10 ⊢
  have h11 : (w10.setCell ⟨F, 11, none⟩ a11).heap[F]? = some (.cells #[a0, a1, a2, a3, a4, a5, a6, a7, a8, a9, a10, a11, x12, x13, x14] t) := set_of h10 11 a11
  generalize w10.setCell ⟨F, 11, none⟩ a11 = w11 at h11 ⊢
  have h12 : (w11.setCell ⟨F, 12, none⟩ a12).heap[F]? = some (.cells #[a0, a1, a2, a3, a4, a5, a6, a7, a8, a9, a10, a11, a12, x13, x14] t) := set_of h11 12 a12
  generalize w11.setCell ⟨F, 12, none⟩ a12 = w12 at h12 ⊢
  have h13 : (w12.setCell ⟨F, 13, none⟩ a13).heap[F]? = some (.cells #[a0, a1, a2, a3, a4, a5, a6, a7, a8, a9, a10, a11, a12, a13, x14] t) := set_of h12 13 a13
  generalize w12.setCell ⟨F, 13, none⟩ a13 = w13 at h13 ⊢
  have h14 : (w13.setCell ⟨F, 14, none⟩ a14).heap[F]? = some (.cells #[a0, a1, a2, a3, a4, a5, a6, a7, a8, a9, a10, a11, a12, a13, a14] t) := set_of h13 14 a14
  exact h14
theorem two_cells (w : World) (a b : Value) (t : TypeId) : ∀ j u, [a, b][j]? = some u → (w.alloc (.cells #[a, b] t)).cell? ((⟨w.heap.size, 0, none⟩ : Addr).add j) = some u := bk.cells_new w [a, b] t
theorem size_alloc (w : World) (o : Obj) : (w.alloc o).heap.size = w.heap.size + 1 := by simp
theorem wrap_m2 (n : Nat) (h : n ≤ 4000000) : IntKind.i64.wrap (((n + 2 : Nat) : Int) - 2) = (n : Int) := by rw [IntKind.wrap_i64]; omega

set_option maxRecDepth 100000 in
set_option maxHeartbeats 12800000 in
theorem lend_any (w : World) (t : Ten) (vC vU : Value) (cs : List Cli) (us : List Usr) (hC : LiesC w vC cs) (hU : LiesU w vU us) (hz : SmallF cs us) :
    Calls Tryz.prog 5 #[.agg #[.int .i64 t.a0, .int .i64 t.a1, .int .i64 t.a2, .int .i64 t.a3, .int .i64 t.a4, .int .i64 t.a5, .int .i64 t.a6, .int .i64 t.a7, .int .i64 t.a8, .int .i64 t.a9, vC, vU]] w fun e w' => ∃ v, e = .returned v ∧ LendP t cs us w w' v := by
  have HUw := hide hU
  obtain ⟨i0, hi, hz0, hz1, hz2⟩ := info_parts infoSt
  obtain ⟨l0, hl, hl0, hl1, hl2⟩ := info_parts infoSl
  obtain ⟨j0, hj, hy0, hy1, hy2⟩ := info_parts infoC
  obtain ⟨k0u, hku, hku0, hku1, hku2⟩ := info_parts infoU
  have HZ := hide hz
  have hnc := hz.nc
  have hnu := hz.nu
  obtain ⟨hc0, hr0⟩ := heap_two w (.cells #[.int .i64 t.a0, .int .i64 t.a1, .int .i64 t.a2, .int .i64 t.a3, .int .i64 t.a4, .int .i64 t.a5, .int .i64 t.a6, .int .i64 t.a7, .int .i64 t.a8, .int .i64 t.a9, vC, vU] 25) (.cells #[.int .i64 0, .int .i64 0, .int .i64 0, .int .i64 0, .int .i64 0, .int .i64 0, .int .i64 0, .int .i64 0, .int .i64 0, .int .i64 0, .slice none 0 0, .slice none 0 0, .slice none 0 0, .slice none 0 0, .slice none 0 0] 28)
  have B0 : Below w.heap.size w ((w.alloc (.cells #[.int .i64 t.a0, .int .i64 t.a1, .int .i64 t.a2, .int .i64 t.a3, .int .i64 t.a4, .int .i64 t.a5, .int .i64 t.a6, .int .i64 t.a7, .int .i64 t.a8, .int .i64 t.a9, vC, vU] 25)).alloc (.cells #[.int .i64 0, .int .i64 0, .int .i64 0, .int .i64 0, .int .i64 0, .int .i64 0, .int .i64 0, .int .i64 0, .int .i64 0, .int .i64 0, .slice none 0 0, .slice none 0 0, .slice none 0 0, .slice none 0 0, .slice none 0 0] 28)) := ((Below.refl _ _).alloc (Nat.le_refl _) _).alloc (by simp) _
  have HTW := hide (twin_own ((w.alloc (.cells #[.int .i64 t.a0, .int .i64 t.a1, .int .i64 t.a2, .int .i64 t.a3, .int .i64 t.a4, .int .i64 t.a5, .int .i64 t.a6, .int .i64 t.a7, .int .i64 t.a8, .int .i64 t.a9, vC, vU] 25)).alloc (.cells #[.int .i64 0, .int .i64 0, .int .i64 0, .int .i64 0, .int .i64 0, .int .i64 0, .int .i64 0, .int .i64 0, .int .i64 0, .int .i64 0, .slice none 0 0, .slice none 0 0, .slice none 0 0, .slice none 0 0, .slice none 0 0] 28)) t vC vU cs us (hC.below B0) (hU.below B0) (by omega) (by omega) (fun x hx => by obtain ⟨_, h2, h3, _⟩ := hz.ci x hx; omega))
  have HS0 : Hid (((w.alloc (.cells #[.int .i64 t.a0, .int .i64 t.a1, .int .i64 t.a2, .int .i64 t.a3, .int .i64 t.a4, .int .i64 t.a5, .int .i64 t.a6, .int .i64 t.a7, .int .i64 t.a8, .int .i64 t.a9, vC, vU] 25)).alloc (.cells #[.int .i64 0, .int .i64 0, .int .i64 0, .int .i64 0, .int .i64 0, .int .i64 0, .int .i64 0, .int .i64 0, .int .i64 0, .int .i64 0, .slice none 0 0, .slice none 0 0, .slice none 0 0, .slice none 0 0, .slice none 0 0] 28)).heap.size = w.heap.size + 2) := by show _ = _; simp
  have HB0 := hide B0
  have HR0 := hide (range_of (l := [.int .i64 t.a0, .int .i64 t.a1, .int .i64 t.a2, .int .i64 t.a3, .int .i64 t.a4, .int .i64 t.a5, .int .i64 t.a6, .int .i64 t.a7, .int .i64 t.a8, .int .i64 t.a9, vC, vU]) hc0)
  have HC0 := hide hc0
  have HZ0 := hide hr0
  obtain ⟨oc, ck, rfl, _⟩ := hC
  obtain ⟨ou, uk, rfl, _⟩ := hU
  clear hc0 hr0 B0 hz
  go_enter Tryz.func5, Tryz.ntmps5
  go_wp2_with (refine wpList_load_mid rfl 25 _ rfl w.heap.size 0 rfl _ _ HR0.out Tryz.underlying25 rfl sizeCf ?_)
  generalize (w.alloc (.cells #[.int .i64 t.a0, .int .i64 t.a1, .int .i64 t.a2, .int .i64 t.a3, .int .i64 t.a4, .int .i64 t.a5, .int .i64 t.a6, .int .i64 t.a7, .int .i64 t.a8, .int .i64 t.a9, .slice oc cs.length ck, .slice ou us.length uk] 25)).alloc (.cells #[.int .i64 0, .int .i64 0, .int .i64 0, .int .i64 0, .int .i64 0, .int .i64 0, .int .i64 0, .int .i64 0, .int .i64 0, .int .i64 0, .slice none 0 0, .slice none 0 0, .slice none 0 0, .slice none 0 0, .slice none 0 0] 28) = W0 at *
  refine HTW.out.mono ?_
  rintro e w1 ⟨vC1, vU1, s, rfl, hoc, hap, hu1, b1⟩
  have hsz0 := HS0.out
  have hsz1 := b1.size
  obtain ⟨oC1, cC1, hvC1⟩ := form_w hoc.row
  obtain ⟨oU1, cU1, hvU1, _⟩ := hu1
  subst hvC1 hvU1
  have HX1 := hide (heap_new w1 (.cells #[.int .i64 t.a0, .int .i64 t.a1, .int .i64 t.a2, .int .i64 t.a3, .int .i64 t.a4, .int .i64 t.a5, .int .i64 t.a6, .int .i64 t.a7, .int .i64 t.a8, .int .i64 t.a9, .slice oC1 cs.length cC1, .slice oU1 us.length cU1, .slice none 0 0, .slice none 0 0, .slice none 0 0] 28))
  have BX : Below w1.heap.size w1 (w1.alloc (.cells #[.int .i64 t.a0, .int .i64 t.a1, .int .i64 t.a2, .int .i64 t.a3, .int .i64 t.a4, .int .i64 t.a5, .int .i64 t.a6, .int .i64 t.a7, .int .i64 t.a8, .int .i64 t.a9, .slice oC1 cs.length cC1, .slice oU1 us.length cU1, .slice none 0 0, .slice none 0 0, .slice none 0 0] 28)) := (Below.refl _ _).alloc (Nat.le_refl _) _
  have HL1 : Hid (Below (w.heap.size + 2) W0 (w1.alloc (.cells #[.int .i64 t.a0, .int .i64 t.a1, .int .i64 t.a2, .int .i64 t.a3, .int .i64 t.a4, .int .i64 t.a5, .int .i64 t.a6, .int .i64 t.a7, .int .i64 t.a8, .int .i64 t.a9, .slice oC1 cs.length cC1, .slice oU1 us.length cU1, .slice none 0 0, .slice none 0 0, .slice none 0 0] 28))) := by
    have := keepW b1 BX
    rw [hsz0] at this
    exact this
  have HSX : Hid (∀ (j : Nat) v, s[j]? = some v → ∀ m, Bk v m → m < w1.heap.size) := hoc.bk_lt
  have HCX : Hid (∀ m, (Value.slice oC1 cs.length cC1).ownBlock = some m → m < w1.heap.size) := fun m hm => (hoc.row.lt m hm).2
  have HZ1 : Hid ((w1.alloc (.cells #[.int .i64 t.a0, .int .i64 t.a1, .int .i64 t.a2, .int .i64 t.a3, .int .i64 t.a4, .int .i64 t.a5, .int .i64 t.a6, .int .i64 t.a7, .int .i64 t.a8, .int .i64 t.a9, .slice oC1 cs.length cC1, .slice oU1 us.length cU1, .slice none 0 0, .slice none 0 0, .slice none 0 0] 28)).heap.size = w1.heap.size + 1) := size_alloc _ _
  have HLN : Hid (LnS (w.heap.size + 2) (w1.heap.size + 1) cs s [] 0 0 (.slice oC1 cs.length cC1) (.slice none 0 0) (.slice none 0 0) (w1.alloc (.cells #[.int .i64 t.a0, .int .i64 t.a1, .int .i64 t.a2, .int .i64 t.a3, .int .i64 t.a4, .int .i64 t.a5, .int .i64 t.a6, .int .i64 t.a7, .int .i64 t.a8, .int .i64 t.a9, .slice oC1 cs.length cC1, .slice oU1 us.length cU1, .slice none 0 0, .slice none 0 0, .slice none 0 0] 28))) := by
    have hq := hoc.below BX
    have hlow : ∀ {e : TypeId} {z n : Nat} {v : Value} {xs : List Value} {Y : World}, Y.ownsRow (W0.heap.size + 3) e z v n xs → Y.ownsRow (w.heap.size + 2) e z v n xs := fun ho => own_low ho (by omega)
    refine ⟨rfl, hoc.len, hlow hq.row, fun m hm => by have := HCX.out m hm; omega, World.ownsRow_nil _ _ _ _, World.ownsRow_nil _ _ _ _, fun j x u _ h2 => by simp at h2, fun j x u _ h1 h2 => ?_, fun j u hu m hm => by have := HSX.out j u hu m hm; omega, hap, fun j u h => by simp at h⟩
    obtain ⟨hjl, rfl⟩ := List.getElem?_eq_some_iff.1 h1
    obtain ⟨hjs, rfl⟩ := List.getElem?_eq_some_iff.1 h2
    exact ⟨hlow (hq.to j hjs), hlow (hq.sc j hjs)⟩
  clear hoc hap b1 BX HTW HR0
  go_wp2_with fail
  generalize w1.alloc (.cells #[.int .i64 t.a0, .int .i64 t.a1, .int .i64 t.a2, .int .i64 t.a3, .int .i64 t.a4, .int .i64 t.a5, .int .i64 t.a6, .int .i64 t.a7, .int .i64 t.a8, .int .i64 t.a9, .slice oC1 cs.length cC1, .slice oU1 us.length cU1, .slice none 0 0, .slice none 0 0, .slice none 0 0] 28) = W1 at *
  generalize w1.heap.size = X at *
  go_loopw [4] (fun i wr => ∃ (k : Nat) (ls : List (Value × Value)) (vN vL : Value), k ≤ cs.length ∧ i = .int .i64 k ∧ Hid (LnS (w.heap.size + 2) (X + 1) cs s ls k k (.slice oC1 cs.length cC1) vN vL wr) ∧ Hid (wr.heap[X]? = some (.cells #[.int .i64 t.a0, .int .i64 t.a1, .int .i64 t.a2, .int .i64 t.a3, .int .i64 t.a4, .int .i64 t.a5, .int .i64 t.a6, .int .i64 t.a7, .int .i64 t.a8, .int .i64 t.a9, .slice oC1 cs.length cC1, .slice oU1 us.length cU1, vN, .slice none 0 0, vL] 28)) ∧ Hid (Below (w.heap.size + 2) W0 wr) ∧ Hid (X + 1 ≤ wr.heap.size)) (fun i _ => cs.length - (intOf i).toNat)
  case atStart => exact ⟨0, [], _, _, Nat.zero_le _, rfl, HLN, HX1, HL1, by show _ ≤ _; rw [HZ1.out]; exact Nat.le_refl _⟩
  case round =>
    obtain ⟨k, ls, vN, vL, hk, rfl, HN, HX, HL, HT⟩ := hrel
    clear HLN HX1 HL1 HZ1
    have p10 : wr.cell? ⟨X, 10, none⟩ = some (.slice oC1 cs.length cC1) := cell_of HX.out 10
    by_cases hlt : k < cs.length
    · have hki : (k : Int) < (cs.length : Int) := by omega
      have k0 : (0 : Int) ≤ (k : Int) := Int.natCast_nonneg _
      have hks : k < s.length := by have := HN.out.slen; omega
      obtain ⟨x, hx⟩ : ∃ x, cs[k]? = some x := ⟨_, List.getElem?_eq_getElem hlt⟩
      obtain ⟨u, hu⟩ : ∃ u, s[k]? = some u := ⟨_, List.getElem?_eq_getElem hks⟩
      have hxm : x ∈ cs := List.mem_of_getElem? hx
      obtain ⟨_, z2, z3, _⟩ := HZ.out.ci x hxm
      obtain ⟨r1, r2⟩ := HN.out.old k x u (Nat.le_refl _) hx hu
      obtain ⟨g, o, cap, hvC, hrg⟩ := HN.out.at_ hx hu
      cases hvC
      have HXX := hide hx
      have HUU := hide hu
      have HAPN := hide (HN.out.ap.ne k u hu)
      have HUX := hide (HSX.out k u hu)
      have HUL : Hid (∀ m, Bk u m → w.heap.size + 2 ≤ m) := fun m hm => by
        rcases hm with hm | hm
        · exact (r1.lt m hm).1
        · exact (r2.lt m hm).1
      obtain ⟨xi, xp, xs, xd, xt, xc⟩ := x
      obtain ⟨u1, u2⟩ := u
      obtain ⟨o1, k1, hv1⟩ := form_w r1
      obtain ⟨o2, k2, hv2⟩ := form_w r2
      dsimp only at hv1 hv2 r1 r2 hrg z2 z3 HAPN
      subst hv1 hv2
      have HRG := hide hrg
      have hT := HT.out
      have hws : w.heap.size + 2 ≤ wr.heap.size := by have := HL.out.size; have := HS0.out; omega
      -- the client in its box, the first marks
      have hK := heap_new wr (.cells #[.string xi, .bool xp, .string xs, .string xd, .slice o1 xt.length k1, .slice o2 xc.length k2] 45)
      have BK : Below wr.heap.size wr (wr.alloc (.cells #[.string xi, .bool xp, .string xs, .string xd, .slice o1 xt.length k1, .slice o2 xc.length k2] 45)) := (Below.refl _ _).alloc (Nat.le_refl _) _
      have q4 : (wr.alloc (.cells #[.string xi, .bool xp, .string xs, .string xd, .slice o1 xt.length k1, .slice o2 xc.length k2] 45)).cell? ⟨wr.heap.size, 4, none⟩ = some (.slice o1 xt.length k1) := cell_of hK 4
      have e1 : (wr.alloc (.cells #[.string xi, .bool xp, .string xs, .string xd, .slice o1 xt.length k1, .slice o2 xc.length k2] 45)).heap.size = wr.heap.size + 1 := size_alloc _ _
      have HM1 := hide (two_cells (wr.alloc (.cells #[.string xi, .bool xp, .string xs, .string xd, .slice o1 xt.length k1, .slice o2 xc.length k2] 45)) (.string mkB) (.string mkB) 9)
      rw [e1] at HM1
      have HA1 := hide (bk.own_below (bk.own_below r1 BK) ((Below.refl _ (wr.alloc (.cells #[.string xi, .bool xp, .string xs, .string xd, .slice o1 xt.length k1, .slice o2 xc.length k2] 45))).alloc (Nat.le_refl _) (.cells #[.string mkB, .string mkB] 9)))
      have HA2 := hide (bk.own_below (bk.own_below r2 BK) ((Below.refl _ (wr.alloc (.cells #[.string xi, .bool xp, .string xs, .string xd, .slice o1 xt.length k1, .slice o2 xc.length k2] 45))).alloc (Nat.le_refl _) (.cells #[.string mkB, .string mkB] 9)))
      have HK1 := hide (heap_old (wr.alloc (.cells #[.string xi, .bool xp, .string xs, .string xd, .slice o1 xt.length k1, .slice o2 xc.length k2] 45)) (.cells #[.string mkB, .string mkB] 9) hK)
      have HX1 := hide (heap_old (wr.alloc (.cells #[.string xi, .bool xp, .string xs, .string xd, .slice o1 xt.length k1, .slice o2 xc.length k2] 45)) (.cells #[.string mkB, .string mkB] 9) (heap_old wr (.cells #[.string xi, .bool xp, .string xs, .string xd, .slice o1 xt.length k1, .slice o2 xc.length k2] 45) HX.out))
      have HS1 : Hid (Stp (fun m => m = X ∨ Bk (.slice o1 xt.length k1, .slice o2 xc.length k2) m ∨ vL.ownBlock = some m ∨ vN.ownBlock = some m) wr ((wr.alloc (.cells #[.string xi, .bool xp, .string xs, .string xd, .slice o1 xt.length k1, .slice o2 xc.length k2] 45)).alloc (.cells #[.string mkB, .string mkB] 9))) := ((Stp.refl _ wr).alloc _).alloc _
      have HZ1 : Hid (((wr.alloc (.cells #[.string xi, .bool xp, .string xs, .string xd, .slice o1 xt.length k1, .slice o2 xc.length k2] 45)).alloc (.cells #[.string mkB, .string mkB] 9)).heap.size = wr.heap.size + 2) := by show _ = _; simp
      clear hK BK e1 hrg hx hu r1 r2
      go_wp2_with (first
        | (refine wpList_load_mid rfl 45 _ rfl g (o + k * 6) rfl _ _ HRG.out Tryz.underlying45 rfl sizeCl ?_)
        | (at_builtin; refine wpList_append_own_at _ rfl _ _ 43 rfl (w.heap.size + 2) 9 i0 _ 1 16 Tryz.underlying43 hi hz0 hz1 hz2 rfl (by decide) (.slice o1 xt.length k1) xt.length _ rfl HA1.out ⟨wr.heap.size + 1, 0, none⟩ 2 2 [.string mkB, .string mkB] rfl rfl HM1.out ?c2 ?c3 ?c4 ?c5 ?_))
      case c2 => first | rfl | (refine ⟨rfl, rfl, rfl, rfl, rfl, rfl, rfl, rfl⟩) | (intro u hu; simp at hu; rcases hu with rfl | rfl <;> rfl)
      case c3 => unfold maxLen; omega
      case c4 => omega
      case c5 => first | omega | (simp; omega)
      intro v5 w5 own5 hg5 _ hat5
      obtain ⟨o5, c5, rfl⟩ := form_w own5
      have hcap5 : xt.length + 2 ≤ c5 := own_cap own5 _ _ _ rfl
      have K5 := grown_at hg5 HK1.out (fun m hm => by have := HUX.out m (Or.inl hm); omega)
      have X5 := grown_at hg5 HX1.out (fun m hm => by have := HUX.out m (Or.inl hm); omega)
      have A25 := own_grown HA2.out hg5 (fun m hm hm' => HAPN.out m m hm' hm rfl)
      have hN1 := (HN.out.below ((Below.refl wr.heap.size wr).alloc (Nat.le_refl _) (.cells #[.string xi, .bool xp, .string xs, .string xd, .slice o1 xt.length k1, .slice o2 xc.length k2] 45))).below ((Below.refl _ _).alloc (Nat.le_refl _) (.cells #[.string mkB, .string mkB] 9))
      have rL5 := own_grownT hN1.rowL HA1.out (by decide) hg5
      have rN5 := own_grownT hN1.rowN HA1.out (by decide) hg5
      have S5 := HS1.out.grown hg5 (fun m hm => Or.inl (Or.inr (Or.inl (Or.inl hm))))
      have hz5 : wr.heap.size + 2 ≤ w5.heap.size := by have h := hg5.size; simp at h; omega
      have hat5' : ∀ m, (Value.slice o5 (xt.length + 2) c5).ownBlock = some m → (Value.slice o1 xt.length k1).ownBlock = some m ∨ m = wr.heap.size + 2 := fun m hm => by
        rcases hat5 with h | h
        · exact Or.inl (by rw [← h]; exact hm)
        · rw [hm] at h; simp at h; exact Or.inr (by omega)
      have q5 : w5.cell? ⟨wr.heap.size, 5, none⟩ = some (.slice o2 xc.length k2) := cell_of K5 5
      have HM5 := hide (two_cells w5 (.string mkB) (.string mkB) 9)
      have HB5 := hide (((Below.refl w5.heap.size w5).alloc (Nat.le_refl _) (.cells #[.string mkB, .string mkB] 9)))
      have HO5 := hide (bk.own_below own5 HB5.out)
      have HA5 := hide (bk.own_below A25 HB5.out)
      have HL5 := hide (bk.own_below rL5 HB5.out)
      have HN5 := hide (bk.own_below rN5 HB5.out)
      have HK5 := hide (heap_old w5 (.cells #[.string mkB, .string mkB] 9) K5)
      have HX5 := hide (heap_old w5 (.cells #[.string mkB, .string mkB] 9) X5)
      have HS5 := hide (S5.alloc (.cells #[.string mkB, .string mkB] 9))
      have HT5 := hide hat5'
      have HNR := hide HN.out.rowN
      clear own5 hg5 hat5 hat5' K5 X5 A25 hN1 rL5 rN5 S5 HM1 HA1 HA2 HK1 HX1 HS1 HRG p10 q4
      go_wp2_with (at_builtin; refine wpList_append_own_at _ rfl _ _ 43 rfl (w.heap.size + 2) 9 i0 _ 1 16 Tryz.underlying43 hi hz0 hz1 hz2 rfl (by decide) (.slice o2 xc.length k2) xc.length _ rfl HA5.out ⟨w5.heap.size, 0, none⟩ 2 2 [.string mkB, .string mkB] rfl rfl HM5.out ?d2 ?d3 ?d4 ?d5 ?_)
      case d2 => first | rfl | (refine ⟨rfl, rfl, rfl, rfl, rfl, rfl, rfl, rfl⟩) | (intro u hu; simp at hu; rcases hu with rfl | rfl <;> rfl)
      case d3 => unfold maxLen; omega
      case d4 => omega
      case d5 => first | omega | (simp; omega)
      intro v7 w7 own7 hg7 _ hat7
      obtain ⟨o7, c7, rfl⟩ := form_w own7
      have hcap7 : xc.length + 2 ≤ c7 := own_cap own7 _ _ _ rfl
      have K7 := grown_at hg7 HK5.out (fun m hm => by have := HUX.out m (Or.inr hm); omega)
      have X7 := grown_at hg7 HX5.out (fun m hm => by have := HUX.out m (Or.inr hm); omega)
      have O7 := own_grown HO5.out hg7 (fun m hm hm' => by
        rcases HT5.out m hm with h | h
        · exact HAPN.out m m h hm' rfl
        · have := HUX.out m (Or.inr hm'); omega)
      have L7 := own_grownT HL5.out HA5.out (by decide) hg7
      have N7 := own_grownT HN5.out HA5.out (by decide) hg7
      have S7 := HS5.out.grown hg7 (fun m hm => Or.inl (Or.inr (Or.inl (Or.inr hm))))
      have hz7 : wr.heap.size + 3 ≤ w7.heap.size := by have := hg7.size; rw [size_alloc] at this; omega
      have HT7 : Hid (∀ m, (Value.slice o7 (xc.length + 2) c7).ownBlock = some m → (Value.slice o2 xc.length k2).ownBlock = some m ∨ X + 1 ≤ m) := fun m hm => by
        rcases hat7 with h | h
        · exact Or.inl (by rw [← h]; exact hm)
        · rw [hm] at h; simp at h; exact Or.inr (by omega)
      obtain ⟨oL, cL, hvL⟩ := form_w HN.out.rowL
      obtain ⟨oN, cN, hvN⟩ := form_w HN.out.rowN
      subst hvL hvN
      have q14 : w7.cell? ⟨X, 14, none⟩ = some (.slice oL (2 * k) cL) := cell_of X7 14
      have HM7 := hide (two_cells w7 (.slice o5 (xt.length + 2) c5) (.slice o7 (xc.length + 2) c7) 43)
      have BW7 := (Below.refl w7.heap.size w7).alloc (Nat.le_refl _) (.cells #[.slice o5 (xt.length + 2) c5, .slice o7 (xc.length + 2) c7] 43)
      have HO7 := hide (bk.own_below O7 BW7)
      have HP7 := hide (bk.own_below own7 BW7)
      have HL7 := hide (bk.own_below L7 BW7)
      have HN7 := hide (bk.own_below N7 BW7)
      have HK7 := hide (heap_old w7 (.cells #[.slice o5 (xt.length + 2) c5, .slice o7 (xc.length + 2) c7] 43) K7)
      have HX7 := hide (heap_old w7 (.cells #[.slice o5 (xt.length + 2) c5, .slice o7 (xc.length + 2) c7] 43) X7)
      have HS7 := hide (S7.alloc (.cells #[.slice o5 (xt.length + 2) c5, .slice o7 (xc.length + 2) c7] 43))
      have HLB : Hid (∀ m, (Value.slice oL (2 * k) cL).ownBlock = some m → X + 1 ≤ m ∧ m < wr.heap.size) := HN.out.rowL.lt
      have HNB : Hid (∀ m, (Value.slice oN k cN).ownBlock = some m → X + 1 ≤ m ∧ m < wr.heap.size) := HN.out.rowN.lt
      clear own7 hg7 hat7 K7 O7 L7 N7 S7 BW7 HM5 HA5 HK5 HX5 HS5 HO5 HL5 HN5 HB5 HNR q5 X7
      go_wp2_with (at_builtin; refine wpList_append_own _ rfl _ _ 26 rfl (X + 1) 43 l0 _ 1 24 Tryz.underlying26 hl hl0 hl1 hl2 rfl (by decide) (.slice oL (2 * k) cL) (2 * k) _ rfl HL7.out ⟨w7.heap.size, 0, none⟩ 2 2 [.slice o5 (xt.length + 2) c5, .slice o7 (xc.length + 2) c7] rfl rfl HM7.out ?f2 ?f3 ?f4 ?f5 ?_)
      case f2 => first | rfl | (refine ⟨rfl, rfl, rfl, rfl, rfl, rfl, rfl, rfl⟩) | (intro u hu; simp at hu; rcases hu with rfl | rfl <;> rfl)
      case f3 => unfold maxLen; omega
      case f4 => omega
      case f5 => first | omega | (simp; omega)
      intro v8 w8 own8 hg8 _
      obtain ⟨o8, c8, rfl⟩ := form_w own8
      have K8 := grown_at hg8 HK7.out (fun m hm => by have := HLB.out m hm; omega)
      have X8 := grown_at hg8 HX7.out (fun m hm => by have := HLB.out m hm; omega)
      have O8 := own_grownT HO7.out HL7.out (by decide) hg8
      have P8 := own_grownT HP7.out HL7.out (by decide) hg8
      have N8 := own_grownT HN7.out HL7.out (by decide) hg8
      have S8 := HS7.out.grown hg8 (fun m hm => Or.inl (Or.inr (Or.inr (Or.inl hm))))
      have hz8 : wr.heap.size + 3 ≤ w8.heap.size := by have h := hg8.size; simp at h; omega
      have hXK : X ≠ wr.heap.size := by omega
      have x14 : w8.cell? ⟨X, 14, none⟩ = some (.slice oL (2 * k) cL) := cell_of X8 14
      have f14 : w8.frozen? ⟨X, 14, none⟩ = false := free_of X8 14
      have KB8 := heap_set w8 ⟨X, 14, none⟩ (.slice o8 (2 * k + 2) c8) K8 (fun e => hXK e.symm)
      have y4 : (w8.setCell ⟨X, 14, none⟩ (.slice o8 (2 * k + 2) c8)).cell? ⟨wr.heap.size, 4, none⟩ = some (.slice o1 xt.length k1) := cell_of KB8 4
      have z4 : (w8.setCell ⟨X, 14, none⟩ (.slice o8 (2 * k + 2) c8)).frozen? ⟨wr.heap.size, 4, none⟩ = false := free_of KB8 4
      have KB9 : ((w8.setCell ⟨X, 14, none⟩ (.slice o8 (2 * k + 2) c8)).setCell ⟨wr.heap.size, 4, none⟩ (.slice o5 xt.length c5)).heap[wr.heap.size]? = some (.cells #[.string xi, .bool xp, .string xs, .string xd, .slice o5 xt.length c5, .slice o2 xc.length k2] 45) := set_of KB8 4 _
      have y5 : ((w8.setCell ⟨X, 14, none⟩ (.slice o8 (2 * k + 2) c8)).setCell ⟨wr.heap.size, 4, none⟩ (.slice o5 xt.length c5)).cell? ⟨wr.heap.size, 5, none⟩ = some (.slice o2 xc.length k2) := cell_of KB9 5
      have z5 : ((w8.setCell ⟨X, 14, none⟩ (.slice o8 (2 * k + 2) c8)).setCell ⟨wr.heap.size, 4, none⟩ (.slice o5 xt.length c5)).frozen? ⟨wr.heap.size, 5, none⟩ = false := free_of KB9 5
      have KB10 : (((w8.setCell ⟨X, 14, none⟩ (.slice o8 (2 * k + 2) c8)).setCell ⟨wr.heap.size, 4, none⟩ (.slice o5 xt.length c5)).setCell ⟨wr.heap.size, 5, none⟩ (.slice o7 xc.length c7)).heap[wr.heap.size]? = some (.cells #[.string xi, .bool xp, .string xs, .string xd, .slice o5 xt.length c5, .slice o7 xc.length c7] 45) := set_of KB9 5 _
      have XB8 : (w8.setCell ⟨X, 14, none⟩ (.slice o8 (2 * k + 2) c8)).heap[X]? = some (.cells #[.int .i64 t.a0, .int .i64 t.a1, .int .i64 t.a2, .int .i64 t.a3, .int .i64 t.a4, .int .i64 t.a5, .int .i64 t.a6, .int .i64 t.a7, .int .i64 t.a8, .int .i64 t.a9, .slice (some ⟨g, o, none⟩) cs.length cC1, .slice oU1 us.length cU1, .slice oN k cN, .slice none 0 0, .slice o8 (2 * k + 2) c8] 28) := set_of X8 14 _
      have XB10 := heap_set ((w8.setCell ⟨X, 14, none⟩ (.slice o8 (2 * k + 2) c8)).setCell ⟨wr.heap.size, 4, none⟩ (.slice o5 xt.length c5)) ⟨wr.heap.size, 5, none⟩ (.slice o7 xc.length c7) (heap_set (w8.setCell ⟨X, 14, none⟩ (.slice o8 (2 * k + 2) c8)) ⟨wr.heap.size, 4, none⟩ (.slice o5 xt.length c5) XB8 hXK) hXK
      have x12 : (((w8.setCell ⟨X, 14, none⟩ (.slice o8 (2 * k + 2) c8)).setCell ⟨wr.heap.size, 4, none⟩ (.slice o5 xt.length c5)).setCell ⟨wr.heap.size, 5, none⟩ (.slice o7 xc.length c7)).cell? ⟨X, 12, none⟩ = some (.slice oN k cN) := cell_of XB10 12
      have HRK := hide (range_of (l := [.string xi, .bool xp, .string xs, .string xd, .slice o5 xt.length c5, .slice o7 xc.length c7]) KB10)
      have e10 : (((w8.setCell ⟨X, 14, none⟩ (.slice o8 (2 * k + 2) c8)).setCell ⟨wr.heap.size, 4, none⟩ (.slice o5 xt.length c5)).setCell ⟨wr.heap.size, 5, none⟩ (.slice o7 xc.length c7)).heap.size = w8.heap.size := by rw [size_set, size_set, size_set]
      have HC10 := hide (bk.cells_new (((w8.setCell ⟨X, 14, none⟩ (.slice o8 (2 * k + 2) c8)).setCell ⟨wr.heap.size, 4, none⟩ (.slice o5 xt.length c5)).setCell ⟨wr.heap.size, 5, none⟩ (.slice o7 xc.length c7)) [.string xi, .bool xp, .string xs, .string xd, .slice o5 xt.length c5, .slice o7 xc.length c7] 45)
      rw [e10] at HC10
      have nk : (Value.slice oN k cN).ownBlock ≠ some wr.heap.size := fun hm => by have := HNB.out _ hm; omega
      have HN10 := hide (own_off (own_off (own_off N8 ⟨X, 14, none⟩ (.slice o8 (2 * k + 2) c8) (Or.inl (Nat.lt_succ_self _))) ⟨wr.heap.size, 4, none⟩ (.slice o5 xt.length c5) (Or.inr (Or.inr nk))) ⟨wr.heap.size, 5, none⟩ (.slice o7 xc.length c7) (Or.inr (Or.inr nk)))
      have HL10 := hide (own_off (own_off (own_off own8 ⟨X, 14, none⟩ (.slice o8 (2 * k + 2) c8) (Or.inl (Nat.lt_succ_self _))) ⟨wr.heap.size, 4, none⟩ (.slice o5 xt.length c5) (Or.inr (Or.inr (ne_box (own_off own8 ⟨X, 14, none⟩ (.slice o8 (2 * k + 2) c8) (Or.inl (Nat.lt_succ_self _))) KB8 (by decide))))) ⟨wr.heap.size, 5, none⟩ (.slice o7 xc.length c7) (Or.inr (Or.inr (ne_box (own_off (own_off own8 ⟨X, 14, none⟩ (.slice o8 (2 * k + 2) c8) (Or.inl (Nat.lt_succ_self _))) ⟨wr.heap.size, 4, none⟩ (.slice o5 xt.length c5) (Or.inr (Or.inr (ne_box (own_off own8 ⟨X, 14, none⟩ (.slice o8 (2 * k + 2) c8) (Or.inl (Nat.lt_succ_self _))) KB8 (by decide))))) KB9 (by decide)))))
      have O9a := own_off O8 ⟨X, 14, none⟩ (.slice o8 (2 * k + 2) c8) (Or.inr (Or.inr (ne_box O8 X8 (by decide))))
      have O9b := own_off O9a ⟨wr.heap.size, 4, none⟩ (.slice o5 xt.length c5) (Or.inr (Or.inr (ne_box O9a KB8 (by decide))))
      have HO10 := hide (own_off O9b ⟨wr.heap.size, 5, none⟩ (.slice o7 xc.length c7) (Or.inr (Or.inr (ne_box O9b KB9 (by decide)))))
      have P9a := own_off P8 ⟨X, 14, none⟩ (.slice o8 (2 * k + 2) c8) (Or.inr (Or.inr (ne_box P8 X8 (by decide))))
      have P9b := own_off P9a ⟨wr.heap.size, 4, none⟩ (.slice o5 xt.length c5) (Or.inr (Or.inr (ne_box P9a KB8 (by decide))))
      have HP10 := hide (own_off P9b ⟨wr.heap.size, 5, none⟩ (.slice o7 xc.length c7) (Or.inr (Or.inr (ne_box P9b KB9 (by decide)))))
      have HS10 := hide (((S8.set ⟨X, 14, none⟩ (.slice o8 (2 * k + 2) c8) (Or.inl (Or.inl rfl))).set ⟨wr.heap.size, 4, none⟩ (.slice o5 xt.length c5) (Or.inr (Nat.le_refl _))).set ⟨wr.heap.size, 5, none⟩ (.slice o7 xc.length c7) (Or.inr (Nat.le_refl _)))
      have HX10 := hide XB10
      have w5' := wrap_m2 xt.length (by omega)
      have w7' := wrap_m2 xc.length (by omega)
      have c51 : (xt.length : Int) ≤ (c5 : Int) := by omega
      have c71 : (xc.length : Int) ≤ (c7 : Int) := by omega
      have c50 : (0 : Int) ≤ (xt.length : Int) := Int.natCast_nonneg _
      have c70 : (0 : Int) ≤ (xc.length : Int) := Int.natCast_nonneg _
      clear own8 hg8 K8 X8 O8 P8 N8 S8 KB8 KB9 KB10 XB8 XB10 O9a O9b P9a P9b HM7 HO7 HP7 HL7 HN7 HK7 HX7 HS7 q14
      go_wp2_with (first
        | (refine wpList_load_mid rfl 45 _ rfl wr.heap.size 0 rfl _ _ HRK.out Tryz.underlying45 rfl sizeCl ?_)
        | (at_builtin; refine wpList_append_own _ rfl _ _ 22 rfl (X + 1) 45 j0 _ 6 104 Tryz.underlying22 hj hy0 hy1 hy2 rfl (by decide) (.slice oN k cN) k _ rfl (HN10.out.alloc _) ⟨w8.heap.size, 0, none⟩ 1 1 [.string xi, .bool xp, .string xs, .string xd, .slice o5 xt.length c5, .slice o7 xc.length c7] rfl rfl HC10.out ?g2 ?g3 ?g4 ?g5 ?_))
      case g2 => first | rfl | (refine ⟨rfl, rfl, rfl, rfl, rfl, rfl, rfl, rfl⟩) | (intro u hu; simp at hu; rcases hu with rfl | rfl | rfl | rfl | rfl | rfl <;> rfl)
      case g3 => unfold maxLen; omega
      case g4 => omega
      case g5 => first | omega | (simp; omega)
      intro v9 w9 own9 hg9 _
      obtain ⟨o9, c9, rfl⟩ := form_w own9
      have X9 := grown_at hg9 (heap_old (((w8.setCell ⟨X, 14, none⟩ (.slice o8 (2 * k + 2) c8)).setCell ⟨wr.heap.size, 4, none⟩ (.slice o5 xt.length c5)).setCell ⟨wr.heap.size, 5, none⟩ (.slice o7 xc.length c7)) (.cells #[.string xi, .bool xp, .string xs, .string xd, .slice o5 xt.length c5, .slice o7 xc.length c7] 45) HX10.out) (fun m hm => by have := HNB.out m hm; omega)
      have x12' : w9.cell? ⟨X, 12, none⟩ = some (.slice oN k cN) := cell_of X9 12
      have f12 : w9.frozen? ⟨X, 12, none⟩ = false := free_of X9 12
      have L9 := own_grownT (HL10.out.alloc (.cells #[.string xi, .bool xp, .string xs, .string xd, .slice o5 xt.length c5, .slice o7 xc.length c7] 45)) (HN10.out.alloc _) (by decide) hg9
      have O9 := own_grownT (HO10.out.alloc (.cells #[.string xi, .bool xp, .string xs, .string xd, .slice o5 xt.length c5, .slice o7 xc.length c7] 45)) (HN10.out.alloc _) (by decide) hg9
      have P9 := own_grownT (HP10.out.alloc (.cells #[.string xi, .bool xp, .string xs, .string xd, .slice o5 xt.length c5, .slice o7 xc.length c7] 45)) (HN10.out.alloc _) (by decide) hg9
      have S10 := ((HS10.out.alloc (.cells #[.string xi, .bool xp, .string xs, .string xd, .slice o5 xt.length c5, .slice o7 xc.length c7] 45)).grown hg9 (fun m hm => Or.inl (Or.inr (Or.inr (Or.inr hm))))).set ⟨X, 12, none⟩ (.slice o9 (k + 1) c9) (Or.inl (Or.inl rfl))
      have HX11 : Hid ((w9.setCell ⟨X, 12, none⟩ (.slice o9 (k + 1) c9)).heap[X]? = some (.cells #[.int .i64 t.a0, .int .i64 t.a1, .int .i64 t.a2, .int .i64 t.a3, .int .i64 t.a4, .int .i64 t.a5, .int .i64 t.a6, .int .i64 t.a7, .int .i64 t.a8, .int .i64 t.a9, .slice (some ⟨g, o, none⟩) cs.length cC1, .slice oU1 us.length cU1, .slice o9 (k + 1) c9, .slice none 0 0, .slice o8 (2 * k + 2) c8] 28)) := set_of X9 12 _
      have HLN : Hid (LnS (w.heap.size + 2) (X + 1) cs s (ls ++ [(.slice o5 (xt.length + 2) c5, .slice o7 (xc.length + 2) c7)]) (k + 1) (k + 1) (.slice (some ⟨g, o, none⟩) cs.length cC1) (.slice o9 (k + 1) c9) (.slice o8 (2 * k + 2) c8) (w9.setCell ⟨X, 12, none⟩ (.slice o9 (k + 1) c9))) := by
        refine HN.out.next (y := (.slice o5 (xt.length + 2) c5, .slice o7 (xc.length + 2) c7)) HXX.out HUU.out (X := X) (fun hm => by have := HCX.out X hm; omega) (fun j v hv hm => by have := HSX.out j v hv X hm; omega) (fun j v hv hm => ?_) S10 (own_off own9 ⟨X, 12, none⟩ (.slice o9 (k + 1) c9) (Or.inl (Nat.lt_succ_self _))) (own_off L9 ⟨X, 12, none⟩ (.slice o9 (k + 1) c9) (Or.inl (Nat.lt_succ_self _))) ?_ ?_ (fun m hm => ?_)
        · have hjl : j < cs.length := by have := (List.getElem?_eq_some_iff.1 hv).1; have := HN.out.len; omega
          obtain ⟨n1, n2⟩ := HN.out.new j cs[j] v (List.getElem?_eq_getElem hjl) hv
          rcases hm with hm | hm
          · exact ne_box n1 HX.out (by decide) hm
          · exact ne_box n2 HX.out (by decide) hm
        · rw [sc_two]; exact own_off O9 ⟨X, 12, none⟩ (.slice o9 (k + 1) c9) (Or.inr (Or.inr (ne_box O9 X9 (by decide))))
        · rw [sc_two]; exact own_off P9 ⟨X, 12, none⟩ (.slice o9 (k + 1) c9) (Or.inr (Or.inr (ne_box P9 X9 (by decide))))
        · rcases hm with hm | hm
          · rcases HT5.out m hm with h | h
            · exact Or.inl (Or.inl h)
            · exact Or.inr (by omega)
          · rcases HT7.out m hm with h | h
            · exact Or.inl (Or.inr h)
            · exact Or.inr h
      have HLB2 : Hid (Below (w.heap.size + 2) W0 (w9.setCell ⟨X, 12, none⟩ (.slice o9 (k + 1) c9))) := HL.out.trans (S10.low (fun m hm hE => by
        have hX2 : w.heap.size + 2 ≤ X := by have := HS0.out; omega
        rcases hE with h | h | h | h
        · omega
        · have := HUL.out m h; omega
        · have := (HLB.out m h).1; omega
        · have := (HNB.out m h).1; omega) hws)
      have HT2 : Hid (X + 1 ≤ (w9.setCell ⟨X, 12, none⟩ (.slice o9 (k + 1) c9)).heap.size) := Nat.le_trans hT S10.size
      clear own9 hg9 X9 L9 O9 P9 S10 HX10 HL10 HO10 HP10 HN10 HS10 HC10 HRK x12
      go_wp2_with fail
      go_roundw
      case rel => exact ⟨k + 1, _, _, _, by omega, by go_num, HLN, HX11, HLB2, HT2⟩
      case measure => simp [intOf] <;> omega
    · have hk8 : ¬ (k : Int) < (cs.length : Int) := by omega
      obtain rfl : k = cs.length := by omega
      have hws : w.heap.size + 2 ≤ wr.heap.size := by have := HL.out.size; have := HS0.out; omega
      have hX2 : w.heap.size + 2 ≤ X := by have := HS0.out; omega
      have hT := HT.out
      have hlen := HN.out.len
      obtain ⟨oL, cL, hvL⟩ := form_w HN.out.rowL
      obtain ⟨oN, cN, hvN⟩ := form_w HN.out.rowN
      subst hvL hvN
      have rN : wr.ownsRow (X + 1) 45 6 (.slice oN cs.length cN) cs.length (cc cs (ls.map hdP)) := by have := HN.out.rowN; rw [List.take_length] at this; exact this
      have NW : Nw (w.heap.size + 2) cs ls wr := HN.out.new
      have HLEN := hide hlen
      have HNB : Hid (∀ m, (Value.slice oN cs.length cN).ownBlock = some m → X + 1 ≤ m ∧ m < wr.heap.size) := rN.lt
      have p12 : wr.cell? ⟨X, 12, none⟩ = some (.slice oN cs.length cN) := cell_of HX.out 12
      have HC1 := hide (bk.cells_new wr [.string mkB, .bool false, .string ⟨#[]⟩, .string ⟨#[]⟩, .slice none 0 0, .slice none 0 0, .string mkB, .bool false, .string ⟨#[]⟩, .string ⟨#[]⟩, .slice none 0 0, .slice none 0 0] 45)
      have HN1 := hide (rN.alloc (.cells #[.string mkB, .bool false, .string ⟨#[]⟩, .string ⟨#[]⟩, .slice none 0 0, .slice none 0 0, .string mkB, .bool false, .string ⟨#[]⟩, .string ⟨#[]⟩, .slice none 0 0, .slice none 0 0] 45))
      have HL1 := hide (HN.out.rowL.alloc (.cells #[.string mkB, .bool false, .string ⟨#[]⟩, .string ⟨#[]⟩, .slice none 0 0, .slice none 0 0, .string mkB, .bool false, .string ⟨#[]⟩, .string ⟨#[]⟩, .slice none 0 0, .slice none 0 0] 45))
      have HW1 := hide (NW.alloc (.cells #[.string mkB, .bool false, .string ⟨#[]⟩, .string ⟨#[]⟩, .slice none 0 0, .slice none 0 0, .string mkB, .bool false, .string ⟨#[]⟩, .string ⟨#[]⟩, .slice none 0 0, .slice none 0 0] 45))
      have HX1 := hide (heap_old wr (.cells #[.string mkB, .bool false, .string ⟨#[]⟩, .string ⟨#[]⟩, .slice none 0 0, .slice none 0 0, .string mkB, .bool false, .string ⟨#[]⟩, .string ⟨#[]⟩, .slice none 0 0, .slice none 0 0] 45) HX.out)
      have HB1 := hide (HL.out.alloc hws (.cells #[.string mkB, .bool false, .string ⟨#[]⟩, .string ⟨#[]⟩, .slice none 0 0, .slice none 0 0, .string mkB, .bool false, .string ⟨#[]⟩, .string ⟨#[]⟩, .slice none 0 0, .slice none 0 0] 45))
      clear rN NW hlen HN
      go_wp2_with (at_builtin; refine wpList_append_own _ rfl _ _ 22 rfl (X + 1) 45 j0 _ 6 104 Tryz.underlying22 hj hy0 hy1 hy2 rfl (by decide) (.slice oN cs.length cN) cs.length _ rfl HN1.out ⟨wr.heap.size, 0, none⟩ 2 2 [.string mkB, .bool false, .string ⟨#[]⟩, .string ⟨#[]⟩, .slice none 0 0, .slice none 0 0, .string mkB, .bool false, .string ⟨#[]⟩, .string ⟨#[]⟩, .slice none 0 0, .slice none 0 0] rfl rfl HC1.out ?m2 ?m3 ?m4 ?m5 ?_)
      case m2 => first | rfl | (refine ⟨rfl, rfl, rfl, rfl, rfl, rfl, rfl, rfl⟩) | (intro u hu; simp at hu; rcases hu with rfl | rfl | rfl | rfl | rfl | rfl | rfl | rfl | rfl | rfl | rfl | rfl <;> rfl)
      case m3 => unfold maxLen; omega
      case m4 => omega
      case m5 => first | omega | (simp; omega)
      intro v2 w2 own2 hg2 _
      obtain ⟨o2, c2, rfl⟩ := form_w own2
      have hcap2 : cs.length + 2 ≤ c2 := own_cap own2 _ _ _ rfl
      have X2 := grown_at hg2 HX1.out (fun m hm => by have := HNB.out m hm; omega)
      have L2 := own_grownT HL1.out HN1.out (by decide) hg2
      have NW2 := HW1.out.grown HN1.out (by decide) hg2
      have B2 := HB1.out.grown hg2 (by simp; omega) (fun m hm => by have := HNB.out m hm; omega)
      have y12 : w2.cell? ⟨X, 12, none⟩ = some (.slice oN cs.length cN) := cell_of X2 12
      have z12 : w2.frozen? ⟨X, 12, none⟩ = false := free_of X2 12
      have XW2 : (w2.setCell ⟨X, 12, none⟩ (.slice o2 (cs.length + 2) c2)).heap[X]? = some (.cells #[.int .i64 t.a0, .int .i64 t.a1, .int .i64 t.a2, .int .i64 t.a3, .int .i64 t.a4, .int .i64 t.a5, .int .i64 t.a6, .int .i64 t.a7, .int .i64 t.a8, .int .i64 t.a9, .slice oC1 cs.length cC1, .slice oU1 us.length cU1, .slice o2 (cs.length + 2) c2, .slice none 0 0, .slice oL (2 * cs.length) cL] 28) := set_of X2 12 _
      have HB2 := hide (B2.setCell (p := ⟨X, 12, none⟩) hX2 (.slice o2 (cs.length + 2) c2))
      have HN2 := hide (own_off own2 ⟨X, 12, none⟩ (.slice o2 (cs.length + 2) c2) (Or.inl (Nat.lt_succ_self _)))
      have HL2 := hide (own_off L2 ⟨X, 12, none⟩ (.slice o2 (cs.length + 2) c2) (Or.inl (Nat.lt_succ_self _)))
      have HW2 := hide (NW2.off (p := ⟨X, 12, none⟩) (.slice o2 (cs.length + 2) c2) X2 (by decide))
      have HX2 := hide XW2
      have p13 : (w2.setCell ⟨X, 12, none⟩ (.slice o2 (cs.length + 2) c2)).cell? ⟨X, 13, none⟩ = some (.slice none 0 0) := cell_of XW2 13
      have hcb2 := (HB2.out.block w.heap.size (by omega)).trans HC0.out
      have p11 : (w2.setCell ⟨X, 12, none⟩ (.slice o2 (cs.length + 2) c2)).cell? ⟨w.heap.size, 11, none⟩ = some (.slice ou us.length uk) := cell_of hcb2 11
      have HU2 := hide (HUw.out.below (HB0.out.trans (HB2.out.mono (by omega))))
      have hz2 : X + 1 ≤ w2.heap.size := by have h := hg2.size; simp at h; omega
      clear own2 hg2 X2 L2 NW2 B2 XW2 hcb2 HC1 HN1 HL1 HW1 HX1 HB1
      go_wp2_with (at_builtin; refine append_users _ rfl _ _ rfl (X + 1) rfl _ us rfl HU2.out ?n3 ?n4 ?n5 ?_)
      case n3 => unfold maxLen; omega
      case n4 => omega
      case n5 => first | omega | (simp; omega)
      intro v3 w3 own3 hg3
      obtain ⟨o3, c3, rfl⟩ := form_w own3
      have X3 := grown_at hg3 HX2.out (fun m hm => by cases hm)
      have nn : ∀ {v : Value} (m : Nat), v.ownBlock = some m → (none : Option Nat) ≠ some m := fun m _ h => by cases h
      have N3 := own_grown HN2.out hg3 (fun m hm => nn m hm)
      have L3 := own_grown HL2.out hg3 (fun m hm => nn m hm)
      have NW3 : Nw (w.heap.size + 2) cs ls w3 := fun j x u h1 h2 => ⟨own_grown (HW2.out j x u h1 h2).1 hg3 (fun m hm => nn m hm), own_grown (HW2.out j x u h1 h2).2 hg3 (fun m hm => nn m hm)⟩
      have B3 := HB2.out.grown hg3 (by rw [size_set]; omega) (fun m hm => by cases hm)
      have y13 : w3.cell? ⟨X, 13, none⟩ = some (.slice none 0 0) := cell_of X3 13
      have z13 : w3.frozen? ⟨X, 13, none⟩ = false := free_of X3 13
      have XW3 : (w3.setCell ⟨X, 13, none⟩ (.slice o3 us.length c3)).heap[X]? = some (.cells #[.int .i64 t.a0, .int .i64 t.a1, .int .i64 t.a2, .int .i64 t.a3, .int .i64 t.a4, .int .i64 t.a5, .int .i64 t.a6, .int .i64 t.a7, .int .i64 t.a8, .int .i64 t.a9, .slice oC1 cs.length cC1, .slice oU1 us.length cU1, .slice o2 (cs.length + 2) c2, .slice o3 us.length c3, .slice oL (2 * cs.length) cL] 28) := set_of X3 13 _
      have e3 : (w3.setCell ⟨X, 13, none⟩ (.slice o3 us.length c3)).heap.size = w3.heap.size := size_set _ _ _
      have hz3 : X + 1 ≤ w3.heap.size := by have h := hg3.size; rw [size_set] at h; omega
      have q13 : (w3.setCell ⟨X, 13, none⟩ (.slice o3 us.length c3)).cell? ⟨X, 13, none⟩ = some (.slice o3 us.length c3) := cell_of XW3 13
      have HC3 := hide (bk.cells_new (w3.setCell ⟨X, 13, none⟩ (.slice o3 us.length c3)) [.string mkB, .string ⟨#[]⟩, .string ⟨#[]⟩, .string mkB, .string ⟨#[]⟩, .string ⟨#[]⟩] 47)
      rw [e3] at HC3
      have HU3 := hide ((own_off own3 ⟨X, 13, none⟩ (.slice o3 us.length c3) (Or.inl (Nat.lt_succ_self _))).alloc (.cells #[.string mkB, .string ⟨#[]⟩, .string ⟨#[]⟩, .string mkB, .string ⟨#[]⟩, .string ⟨#[]⟩] 47))
      have HN3 := hide ((own_off N3 ⟨X, 13, none⟩ (.slice o3 us.length c3) (Or.inl (Nat.lt_succ_self _))).alloc (.cells #[.string mkB, .string ⟨#[]⟩, .string ⟨#[]⟩, .string mkB, .string ⟨#[]⟩, .string ⟨#[]⟩] 47))
      have HL3 := hide ((own_off L3 ⟨X, 13, none⟩ (.slice o3 us.length c3) (Or.inl (Nat.lt_succ_self _))).alloc (.cells #[.string mkB, .string ⟨#[]⟩, .string ⟨#[]⟩, .string mkB, .string ⟨#[]⟩, .string ⟨#[]⟩] 47))
      have HW3 := hide ((NW3.off (p := ⟨X, 13, none⟩) (.slice o3 us.length c3) X3 (by decide)).alloc (.cells #[.string mkB, .string ⟨#[]⟩, .string ⟨#[]⟩, .string mkB, .string ⟨#[]⟩, .string ⟨#[]⟩] 47))
      have HB3 := hide ((B3.setCell (p := ⟨X, 13, none⟩) hX2 (.slice o3 us.length c3)).alloc (by rw [size_set]; omega) (.cells #[.string mkB, .string ⟨#[]⟩, .string ⟨#[]⟩, .string mkB, .string ⟨#[]⟩, .string ⟨#[]⟩] 47))
      have HX3 := hide (heap_old (w3.setCell ⟨X, 13, none⟩ (.slice o3 us.length c3)) (.cells #[.string mkB, .string ⟨#[]⟩, .string ⟨#[]⟩, .string mkB, .string ⟨#[]⟩, .string ⟨#[]⟩] 47) XW3)
      have HUB : Hid (∀ m, (Value.slice o3 us.length c3).ownBlock = some m → X + 1 ≤ m) := fun m hm => (own3.lt m hm).1
      clear own3 hg3 X3 N3 L3 NW3 B3 XW3 HN2 HL2 HW2 HX2 HB2 HU2 nn
      go_wp2_with (at_builtin; refine wpList_append_own _ rfl _ _ 23 rfl (X + 1) 47 k0u _ 3 48 Tryz.underlying23 hku hku0 hku1 hku2 rfl (by decide) (.slice o3 us.length c3) us.length _ rfl HU3.out ⟨w3.heap.size, 0, none⟩ 2 2 [.string mkB, .string ⟨#[]⟩, .string ⟨#[]⟩, .string mkB, .string ⟨#[]⟩, .string ⟨#[]⟩] rfl rfl HC3.out ?r2 ?r3 ?r4 ?r5 ?_)
      case r2 => first | rfl | (refine ⟨rfl, rfl, rfl, rfl, rfl, rfl, rfl, rfl⟩) | (intro u hu; simp at hu; rcases hu with rfl | rfl | rfl | rfl | rfl | rfl <;> rfl)
      case r3 => unfold maxLen; omega
      case r4 => omega
      case r5 => first | omega | (simp; omega)
      intro v4 w4 own4 hg4 _
      obtain ⟨o4, c4, rfl⟩ := form_w own4
      have hcap4 : us.length + 2 ≤ c4 := own_cap own4 _ _ _ rfl
      have X4 := grown_at hg4 HX3.out (fun m hm => by have := HUB.out m hm; omega)
      have N4 := own_grownT HN3.out HU3.out (by decide) hg4
      have L4 := own_grownT HL3.out HU3.out (by decide) hg4
      have NW4 := HW3.out.grown HU3.out (by decide) hg4
      have B4 := HB3.out.grown hg4 (by simp; omega) (fun m hm => by have := HUB.out m hm; omega)
      have y13' : w4.cell? ⟨X, 13, none⟩ = some (.slice o3 us.length c3) := cell_of X4 13
      have z13' : w4.frozen? ⟨X, 13, none⟩ = false := free_of X4 13
      have XW4 : (w4.setCell ⟨X, 13, none⟩ (.slice o4 (us.length + 2) c4)).heap[X]? = some (.cells #[.int .i64 t.a0, .int .i64 t.a1, .int .i64 t.a2, .int .i64 t.a3, .int .i64 t.a4, .int .i64 t.a5, .int .i64 t.a6, .int .i64 t.a7, .int .i64 t.a8, .int .i64 t.a9, .slice oC1 cs.length cC1, .slice oU1 us.length cU1, .slice o2 (cs.length + 2) c2, .slice o4 (us.length + 2) c4, .slice oL (2 * cs.length) cL] 28) := set_of X4 13 _
      have XW5 : ((w4.setCell ⟨X, 13, none⟩ (.slice o4 (us.length + 2) c4)).setCell ⟨X, 10, none⟩ (.slice o2 cs.length c2)).heap[X]? = some (.cells #[.int .i64 t.a0, .int .i64 t.a1, .int .i64 t.a2, .int .i64 t.a3, .int .i64 t.a4, .int .i64 t.a5, .int .i64 t.a6, .int .i64 t.a7, .int .i64 t.a8, .int .i64 t.a9, .slice o2 cs.length c2, .slice oU1 us.length cU1, .slice o2 (cs.length + 2) c2, .slice o4 (us.length + 2) c4, .slice oL (2 * cs.length) cL] 28) := set_of XW4 10 _
      have XW6 : (((w4.setCell ⟨X, 13, none⟩ (.slice o4 (us.length + 2) c4)).setCell ⟨X, 10, none⟩ (.slice o2 cs.length c2)).setCell ⟨X, 11, none⟩ (.slice o4 us.length c4)).heap[X]? = some (.cells #[.int .i64 t.a0, .int .i64 t.a1, .int .i64 t.a2, .int .i64 t.a3, .int .i64 t.a4, .int .i64 t.a5, .int .i64 t.a6, .int .i64 t.a7, .int .i64 t.a8, .int .i64 t.a9, .slice o2 cs.length c2, .slice o4 us.length c4, .slice o2 (cs.length + 2) c2, .slice o4 (us.length + 2) c4, .slice oL (2 * cs.length) cL] 28) := set_of XW5 11 _
      have BW4 := B4.setCell (p := ⟨X, 13, none⟩) hX2 (.slice o4 (us.length + 2) c4)
      have BW5 := BW4.setCell (p := ⟨X, 10, none⟩) hX2 (.slice o2 cs.length c2)
      have BW6 := BW5.setCell (p := ⟨X, 11, none⟩) hX2 (.slice o4 us.length c4)
      have a12 : (w4.setCell ⟨X, 13, none⟩ (.slice o4 (us.length + 2) c4)).cell? ⟨X, 12, none⟩ = some (.slice o2 (cs.length + 2) c2) := cell_of XW4 12
      have a10 : (w4.setCell ⟨X, 13, none⟩ (.slice o4 (us.length + 2) c4)).cell? ⟨w.heap.size, 10, none⟩ = some (.slice oc cs.length ck) := cell_of ((BW4.block w.heap.size (by omega)).trans HC0.out) 10
      have b10 : (w4.setCell ⟨X, 13, none⟩ (.slice o4 (us.length + 2) c4)).cell? ⟨X, 10, none⟩ = some (.slice oC1 cs.length cC1) := cell_of XW4 10
      have d10 : (w4.setCell ⟨X, 13, none⟩ (.slice o4 (us.length + 2) c4)).frozen? ⟨X, 10, none⟩ = false := free_of XW4 10
      have a13 : ((w4.setCell ⟨X, 13, none⟩ (.slice o4 (us.length + 2) c4)).setCell ⟨X, 10, none⟩ (.slice o2 cs.length c2)).cell? ⟨X, 13, none⟩ = some (.slice o4 (us.length + 2) c4) := cell_of XW5 13
      have a11 : ((w4.setCell ⟨X, 13, none⟩ (.slice o4 (us.length + 2) c4)).setCell ⟨X, 10, none⟩ (.slice o2 cs.length c2)).cell? ⟨w.heap.size, 11, none⟩ = some (.slice ou us.length uk) := cell_of ((BW5.block w.heap.size (by omega)).trans HC0.out) 11
      have b11 : ((w4.setCell ⟨X, 13, none⟩ (.slice o4 (us.length + 2) c4)).setCell ⟨X, 10, none⟩ (.slice o2 cs.length c2)).cell? ⟨X, 11, none⟩ = some (.slice oU1 us.length cU1) := cell_of XW5 11
      have d11 : ((w4.setCell ⟨X, 13, none⟩ (.slice o4 (us.length + 2) c4)).setCell ⟨X, 10, none⟩ (.slice o2 cs.length c2)).frozen? ⟨X, 11, none⟩ = false := free_of XW5 11
      have ox : ∀ {e : TypeId} {z n : Nat} {v : Value} {xs : List Value}, w4.ownsRow (X + 1) e z v n xs → (((w4.setCell ⟨X, 13, none⟩ (.slice o4 (us.length + 2) c4)).setCell ⟨X, 10, none⟩ (.slice o2 cs.length c2)).setCell ⟨X, 11, none⟩ (.slice o4 us.length c4)).ownsRow (w.heap.size + 2) e z v n xs := fun ho => own_low (own_off (own_off (own_off ho ⟨X, 13, none⟩ (.slice o4 (us.length + 2) c4) (Or.inl (Nat.lt_succ_self _))) ⟨X, 10, none⟩ (.slice o2 cs.length c2) (Or.inl (Nat.lt_succ_self _))) ⟨X, 11, none⟩ (.slice o4 us.length c4) (Or.inl (Nat.lt_succ_self _))) (by omega)
      have HO : Hid (LnO (w.heap.size + 2) cs us ls (.slice o2 (cs.length + 2) c2) (.slice o4 (us.length + 2) c4) (.slice oL (2 * cs.length) cL) (((w4.setCell ⟨X, 13, none⟩ (.slice o4 (us.length + 2) c4)).setCell ⟨X, 10, none⟩ (.slice o2 cs.length c2)).setCell ⟨X, 11, none⟩ (.slice o4 us.length c4))) := ⟨HLEN.out, ox N4, ox own4, ox L4, ((NW4.off (p := ⟨X, 13, none⟩) (.slice o4 (us.length + 2) c4) X4 (by decide)).off (p := ⟨X, 10, none⟩) (.slice o2 cs.length c2) XW4 (by decide)).off (p := ⟨X, 11, none⟩) (.slice o4 us.length c4) XW5 (by decide)⟩
      have HX6 := hide XW6
      have HB6 := hide BW6
      have g2 : (cs.length : Int) ≤ (c2 : Int) := by omega
      have g4 : (us.length : Int) ≤ (c4 : Int) := by omega
      have g0 : (0 : Int) ≤ (cs.length : Int) := Int.natCast_nonneg _
      have g1 : (0 : Int) ≤ (us.length : Int) := Int.natCast_nonneg _
      clear own4 hg4 X4 N4 L4 NW4 B4 XW4 XW5 XW6 BW4 BW5 BW6 HU3 HN3 HL3 HW3 HB3 HX3 HC3 HUB ox
      go_upto_region 17 with fail
      generalize (((w4.setCell ⟨X, 13, none⟩ (.slice o4 (us.length + 2) c4)).setCell ⟨X, 10, none⟩ (.slice o2 cs.length c2)).setCell ⟨X, 11, none⟩ (.slice o4 us.length c4)) = Z at *
      have hR0 := (HB6.out.block (w.heap.size + 1) (by omega)).trans HZ0.out
      have r0 : Z.cell? ⟨w.heap.size + 1, 0, none⟩ = some (.int .i64 0) := cell_of hR0 0
      have s0 : Z.frozen? ⟨w.heap.size + 1, 0, none⟩ = false := free_of hR0 0
      have r1 : Z.cell? ⟨w.heap.size + 1, 0 + 1, none⟩ = some (.int .i64 0) := cell_of hR0 1
      have s1 : Z.frozen? ⟨w.heap.size + 1, 0 + 1, none⟩ = false := free_of hR0 1
      have r2 : Z.cell? ⟨w.heap.size + 1, 0 + 2, none⟩ = some (.int .i64 0) := cell_of hR0 2
      have s2 : Z.frozen? ⟨w.heap.size + 1, 0 + 2, none⟩ = false := free_of hR0 2
      have r3 : Z.cell? ⟨w.heap.size + 1, 0 + 3, none⟩ = some (.int .i64 0) := cell_of hR0 3
      have s3 : Z.frozen? ⟨w.heap.size + 1, 0 + 3, none⟩ = false := free_of hR0 3
      have r4 : Z.cell? ⟨w.heap.size + 1, 0 + 4, none⟩ = some (.int .i64 0) := cell_of hR0 4
      have s4 : Z.frozen? ⟨w.heap.size + 1, 0 + 4, none⟩ = false := free_of hR0 4
      have r5 : Z.cell? ⟨w.heap.size + 1, 0 + 5, none⟩ = some (.int .i64 0) := cell_of hR0 5
      have s5 : Z.frozen? ⟨w.heap.size + 1, 0 + 5, none⟩ = false := free_of hR0 5
      have r6 : Z.cell? ⟨w.heap.size + 1, 0 + 6, none⟩ = some (.int .i64 0) := cell_of hR0 6
      have s6 : Z.frozen? ⟨w.heap.size + 1, 0 + 6, none⟩ = false := free_of hR0 6
      have r7 : Z.cell? ⟨w.heap.size + 1, 0 + 7, none⟩ = some (.int .i64 0) := cell_of hR0 7
      have s7 : Z.frozen? ⟨w.heap.size + 1, 0 + 7, none⟩ = false := free_of hR0 7
      have r8 : Z.cell? ⟨w.heap.size + 1, 0 + 8, none⟩ = some (.int .i64 0) := cell_of hR0 8
      have s8 : Z.frozen? ⟨w.heap.size + 1, 0 + 8, none⟩ = false := free_of hR0 8
      have r9 : Z.cell? ⟨w.heap.size + 1, 0 + 9, none⟩ = some (.int .i64 0) := cell_of hR0 9
      have s9 : Z.frozen? ⟨w.heap.size + 1, 0 + 9, none⟩ = false := free_of hR0 9
      have r10 : Z.cell? ⟨w.heap.size + 1, 0 + 10, none⟩ = some (.slice none 0 0) := cell_of hR0 10
      have s10 : Z.frozen? ⟨w.heap.size + 1, 0 + 10, none⟩ = false := free_of hR0 10
      have r11 : Z.cell? ⟨w.heap.size + 1, 0 + 11, none⟩ = some (.slice none 0 0) := cell_of hR0 11
      have s11 : Z.frozen? ⟨w.heap.size + 1, 0 + 11, none⟩ = false := free_of hR0 11
      have r12 : Z.cell? ⟨w.heap.size + 1, 0 + 12, none⟩ = some (.slice none 0 0) := cell_of hR0 12
      have s12 : Z.frozen? ⟨w.heap.size + 1, 0 + 12, none⟩ = false := free_of hR0 12
      have r13 : Z.cell? ⟨w.heap.size + 1, 0 + 13, none⟩ = some (.slice none 0 0) := cell_of hR0 13
      have s13 : Z.frozen? ⟨w.heap.size + 1, 0 + 13, none⟩ = false := free_of hR0 13
      have r14 : Z.cell? ⟨w.heap.size + 1, 0 + 14, none⟩ = some (.slice none 0 0) := cell_of hR0 14
      have s14 : Z.frozen? ⟨w.heap.size + 1, 0 + 14, none⟩ = false := free_of hR0 14
      have HRG := hide (range_of (l := [.int .i64 t.a0, .int .i64 t.a1, .int .i64 t.a2, .int .i64 t.a3, .int .i64 t.a4, .int .i64 t.a5, .int .i64 t.a6, .int .i64 t.a7, .int .i64 t.a8, .int .i64 t.a9, .slice o2 cs.length c2, .slice o4 us.length c4, .slice o2 (cs.length + 2) c2, .slice o4 (us.length + 2) c4, .slice oL (2 * cs.length) cL]) HX6.out)
      go_wp2_with (refine wpList_load_mid rfl 28 _ rfl X 0 rfl _ _ HRG.out Tryz.underlying28 rfl sizeLn ?_)
      have hwl : w.heap.size ≤ w.heap.size + 1 := Nat.le_succ _
      have HST := ((((((((((((((((Stp.refl (fun m => m = w.heap.size + 1) Z).set ⟨w.heap.size + 1, 0, none⟩ (.int .i64 t.a0) (Or.inl rfl)).set ⟨w.heap.size + 1, 1, none⟩ (.int .i64 t.a1) (Or.inl rfl)).set ⟨w.heap.size + 1, 2, none⟩ (.int .i64 t.a2) (Or.inl rfl)).set ⟨w.heap.size + 1, 3, none⟩ (.int .i64 t.a3) (Or.inl rfl)).set ⟨w.heap.size + 1, 4, none⟩ (.int .i64 t.a4) (Or.inl rfl)).set ⟨w.heap.size + 1, 5, none⟩ (.int .i64 t.a5) (Or.inl rfl)).set ⟨w.heap.size + 1, 6, none⟩ (.int .i64 t.a6) (Or.inl rfl)).set ⟨w.heap.size + 1, 7, none⟩ (.int .i64 t.a7) (Or.inl rfl)).set ⟨w.heap.size + 1, 8, none⟩ (.int .i64 t.a8) (Or.inl rfl)).set ⟨w.heap.size + 1, 9, none⟩ (.int .i64 t.a9) (Or.inl rfl)).set ⟨w.heap.size + 1, 10, none⟩ (.slice o2 cs.length c2) (Or.inl rfl)).set ⟨w.heap.size + 1, 11, none⟩ (.slice o4 us.length c4) (Or.inl rfl)).set ⟨w.heap.size + 1, 12, none⟩ (.slice o2 (cs.length + 2) c2) (Or.inl rfl)).set ⟨w.heap.size + 1, 13, none⟩ (.slice o4 (us.length + 2) c4) (Or.inl rfl)).set ⟨w.heap.size + 1, 14, none⟩ (.slice oL (2 * cs.length) cL) (Or.inl rfl))
      have HB7 : Below w.heap.size w _ := (HB0.out.trans (HB6.out.mono (by omega))).trans (HST.low (B := w.heap.size) (fun m hm hE => by omega) (by have := HB6.out.size; have := HS0.out; omega))
      have HO7 := HO.out.keep (fun m hm1 hm2 => HST.block m hm2 (fun hE => by omega))
      have HR9 := set_fifteen hR0 (.int .i64 t.a0) (.int .i64 t.a1) (.int .i64 t.a2) (.int .i64 t.a3) (.int .i64 t.a4) (.int .i64 t.a5) (.int .i64 t.a6) (.int .i64 t.a7) (.int .i64 t.a8) (.int .i64 t.a9) (.slice o2 cs.length c2) (.slice o4 us.length c4) (.slice o2 (cs.length + 2) c2) (.slice o4 (us.length + 2) c4) (.slice oL (2 * cs.length) cL)
      refine bodyPost_ret (results_c rfl _ rfl (range_of (l := [.int .i64 t.a0, .int .i64 t.a1, .int .i64 t.a2, .int .i64 t.a3, .int .i64 t.a4, .int .i64 t.a5, .int .i64 t.a6, .int .i64 t.a7, .int .i64 t.a8, .int .i64 t.a9, .slice o2 cs.length c2, .slice o4 us.length c4, .slice o2 (cs.length + 2) c2, .slice o4 (us.length + 2) c4, .slice oL (2 * cs.length) cL]) HR9) Tryz.underlying28 rfl sizeLn) rfl ?_
      exact ⟨_, rfl, ls, o2, c2, o4, c4, _, rfl, HO7, HB7⟩
end Go.Proofs.YtilhfmhjgfmejaaGreatDoor.rg
