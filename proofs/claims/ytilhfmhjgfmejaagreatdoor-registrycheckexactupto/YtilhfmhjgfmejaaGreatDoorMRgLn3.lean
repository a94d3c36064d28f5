import Derived.Test.YtilhfmhjgfmejaaGreatDoorMRgLn2
import Derived.Test.YtilhfmhjgfmejaaGreatDoorMRgSame
namespace Go.Proofs.YtilhfmhjgfmejaaGreatDoor.rg
open Go.ChangeShapes Go.WideShapes Go.ChangeAt Go.RowKit Go.Proofs.YtilhfmhjgfmejaaGreatDoor.common Go.Maps
attribute [local go_sem ↓] Go.wp_at_zero Go.wp_at_succ

theorem range_pre {w : World} {F : Nat} {a : Array Value} {t : TypeId} (h : w.heap[F]? = some (.cells a t)) (l : List Value) (hl : ∀ (j : Nat) (v : Value), l[j]? = some v → a[j]? = some v) : w.rangeAt F 0 l := fun j v hv => by
  rw [Nat.zero_add]
  simp only [World.cell?, h]
  simpa using hl j v hv
theorem pre_of {l m : List Value} : ∀ (j : Nat) (v : Value), l[j]? = some v → (l ++ m).toArray[j]? = some v := fun j v hv => by
  have : (l ++ m)[j]? = some v := by
    rw [List.getElem?_append_left ((List.getElem?_eq_some_iff.1 hv).1)]
    exact hv
  simpa using this
/-- a head of a row -/
theorem own_head {w : World} {base : Nat} {e : TypeId} {z n k : Nat} {oa : Option Addr} {cap : Nat} {xs ys : List Value} (h : w.ownsRow base e z (.slice oa (n + k) cap) (n + k) (xs ++ ys)) (hx : xs.length = n * z) (hk : 0 < k) : w.ownsRow base e z (.slice oa n cap) n xs := by
  refine ⟨hx, ?_⟩
  rcases h.2 with ⟨_, h0⟩ | ⟨g, c, cur, hv, hg, hh, h1, h2, h3, h4⟩
  · omega
  · cases hv
    refine Or.inr ⟨g, _, cur, rfl, hg, hh, by omega, h2, h3, ?_⟩
    have h5 := congrArg (List.take (n * z)) h4
    rw [List.take_take, Nat.min_eq_left (Nat.mul_le_mul_right _ (Nat.le_add_right _ _)), ← hx, List.take_left' rfl] at h5
    rw [← hx]
    exact h5
theorem own_pos {w : World} {base : Nat} {e : TypeId} {size : Nat} {v : Value} {n : Nat} {xs : List Value} (h : w.ownsRow base e size v n xs) (hn : 0 < n) : ∃ g cap, v = .slice (some ⟨g, 0, none⟩) n cap := by
  rcases h.2 with ⟨_, h0⟩ | ⟨g, cap, cur, h, _⟩
  · omega
  · exact ⟨g, cap, h⟩
theorem head_two {w : World} {base : Nat} {v : Value} {l : List ByteArray} (h : w.ownsRow base 9 1 v (l.length + 2) (ss.sc (l ++ [mkB, mkB]))) : w.ownsRow base 9 1 (hd2 v) l.length (ss.sc l) := by
  obtain ⟨g, cap, rfl⟩ := own_pos h (by omega)
  rw [sc_two] at h
  exact own_head h (by simp [ss.sc]) (by omega)
section
variable {B0 : Nat} {cs : List Cli} {us : List Usr} {ls : List (Value × Value)} {oN oU : Option Addr} {cN cU : Nat} {vL : Value} {w : World}
theorem LnO.own (h : LnO B0 cs us ls (.slice oN (cs.length + 2) cN) (.slice oU (us.length + 2) cU) vL w) : OwnC B0 w (.slice oN cs.length cN) cs (ls.map hdP) := by
  refine ⟨by simp [h.len], own_head h.rowN (cc_len _ _ (by simp [h.len])) (by omega), fun i hi => ?_, fun i hi => ?_⟩
  · have hil : i < ls.length := by simpa using hi
    have := (h.new i (cs[i]'(by have := h.len; omega)) ls[i] (List.getElem?_eq_getElem _) (List.getElem?_eq_getElem hil)).1
    have h2 := head_two this
    simpa [hdP] using h2
  · have hil : i < ls.length := by simpa using hi
    have := (h.new i (cs[i]'(by have := h.len; omega)) ls[i] (List.getElem?_eq_getElem _) (List.getElem?_eq_getElem hil)).2
    have h2 := head_two this
    simpa [hdP] using h2
theorem LnO.liesU (h : LnO B0 cs us ls (.slice oN (cs.length + 2) cN) (.slice oU (us.length + 2) cU) vL w) : LiesU w (.slice oU us.length cU) us := liesU_of_own (own_head h.rowU (uc_len us) (by omega))
theorem OwnC.caps {v : Value} {s : List (Value × Value)} (h : OwnC B0 w v cs s) : KeepsC CapV w v cs := by
  intro i hi b o n cap vR hv hc
  have his : i < s.length := by have := h.len; omega
  obtain ⟨_, _, _, _, g4, _⟩ := cc_get cs s h.len i hi
  rcases h.row.2 with ⟨_, h0⟩ | ⟨g, c, cur, hv2, _⟩
  · omega
  · have k4 := h.row.cells (g := g) (by rw [hv2]; rfl) _ _ g4
    rw [hv] at hv2
    cases hv2
    rw [Addr.add_mid, Nat.zero_add] at k4
    rw [Nat.zero_add] at hc
    rw [hc] at k4
    cases k4
    exact own_cap (h.to i his)
/-- the marks behind the clients and the users -/
theorem LnO.marksN (h : LnO B0 cs us ls (.slice oN (cs.length + 2) cN) (.slice oU (us.length + 2) cU) vL w) : ∃ b o, oN = some ⟨b, o, none⟩ ∧ w.cell? ⟨b, o + cs.length * 6, none⟩ = some (.string mkB) ∧ w.cell? ⟨b, o + (cs.length + 1) * 6, none⟩ = some (.string mkB) := by
  obtain ⟨g, cap, hv⟩ := own_pos h.rowN (by omega)
  cases hv
  have hc := h.rowN.cells (g := g) rfl
  have hl := cc_len cs (ls.map hdP) (by simp [h.len])
  refine ⟨g, 0, rfl, ?_, ?_⟩
  · have := hc (cs.length * 6) (.string mkB) (by rw [List.getElem?_append_right (by rw [hl]; exact Nat.le_refl _), hl, Nat.sub_self]; rfl)
    rw [Addr.add_mid] at this
    exact this
  · have := hc ((cs.length + 1) * 6) (.string mkB) (by rw [List.getElem?_append_right (by rw [hl]; omega), hl, show (cs.length + 1) * 6 - cs.length * 6 = 6 by omega]; rfl)
    rw [Addr.add_mid] at this
    exact this
theorem LnO.marksU (h : LnO B0 cs us ls (.slice oN (cs.length + 2) cN) (.slice oU (us.length + 2) cU) vL w) : ∃ b o, oU = some ⟨b, o, none⟩ ∧ w.cell? ⟨b, o + us.length * 3, none⟩ = some (.string mkB) ∧ w.cell? ⟨b, o + (us.length + 1) * 3, none⟩ = some (.string mkB) := by
  obtain ⟨g, cap, hv⟩ := own_pos h.rowU (by omega)
  cases hv
  have hc := h.rowU.cells (g := g) rfl
  have hl := uc_len us
  refine ⟨g, 0, rfl, ?_, ?_⟩
  · have := hc (us.length * 3) (.string mkB) (by rw [List.getElem?_append_right (by rw [hl]; exact Nat.le_refl _), hl, Nat.sub_self]; rfl)
    rw [Addr.add_mid] at this
    exact this
  · have := hc ((us.length + 1) * 3) (.string mkB) (by rw [List.getElem?_append_right (by rw [hl]; omega), hl, show (us.length + 1) * 3 - us.length * 3 = 3 by omega]; rfl)
    rw [Addr.add_mid] at this
    exact this
theorem str_marks {v : Value} {l : List ByteArray} (h : w.ownsRow B0 9 1 v (l.length + 2) (ss.sc (l ++ [mkB, mkB]))) : ∃ g o cap, v = .slice (some ⟨g, o, none⟩) (l.length + 2) cap ∧ w.cell? ⟨g, o + l.length, none⟩ = some (.string mkB) ∧ w.cell? ⟨g, o + (l.length + 1), none⟩ = some (.string mkB) := by
  obtain ⟨g, cap, rfl⟩ := own_pos h (by omega)
  have hc := h.cells (g := g) rfl
  have hl : (ss.sc l).length = l.length := by simp [ss.sc]
  refine ⟨g, 0, cap, rfl, ?_, ?_⟩
  · have := hc l.length (.string mkB) (by rw [sc_two, List.getElem?_append_right (by rw [hl]; exact Nat.le_refl _), hl, Nat.sub_self]; rfl)
    rw [Addr.add_mid] at this
    exact this
  · have := hc (l.length + 1) (.string mkB) (by rw [sc_two, List.getElem?_append_right (by rw [hl]; omega), hl, show l.length + 1 - l.length = 1 by omega]; rfl)
    rw [Addr.add_mid] at this
    exact this
/-- the marks behind each list -/
theorem LnO.marksL {vN vU : Value} (h : LnO B0 cs us ls vN vU vL w) (hz : ∀ x ∈ cs, x.to.length ≤ 1048576 ∧ x.sc.length ≤ 1048576) {oL : Option Addr} {cL : Nat} (hv : vL = .slice oL (2 * cs.length) cL) (i : Nat) (hi : i < 2 * cs.length) : ∃ gL oo, oL = some ⟨gL, oo, none⟩ ∧ ∃ g o n cap, w.cell? ⟨gL, oo + i, none⟩ = some (.slice (some ⟨g, o, none⟩) (n + 2) cap) ∧ w.cell? ⟨g, o + n, none⟩ = some (.string mkB) ∧ w.cell? ⟨g, o + (n + 1), none⟩ = some (.string mkB) ∧ n ≤ 1048576 := by
  obtain ⟨gL, cap, hv2⟩ := own_pos h.rowL (by omega)
  rw [hv] at hv2
  cases hv2
  subst hv
  have hil : i < (fl ls).length := by rw [fl_len, h.len]; exact hi
  have hc := h.rowL.cells (g := gL) rfl i _ (List.getElem?_eq_getElem hil)
  rw [Addr.add_mid] at hc
  obtain ⟨j, u, hu, hvu⟩ := fl_get ls i _ (List.getElem?_eq_getElem hil)
  have hjl : j < cs.length := by have := (List.getElem?_eq_some_iff.1 hu).1; have := h.len; omega
  obtain ⟨r1, r2⟩ := h.new j cs[j] u (List.getElem?_eq_getElem hjl) hu
  obtain ⟨z1, z2⟩ := hz cs[j] (List.getElem_mem hjl)
  refine ⟨gL, 0, rfl, ?_⟩
  rcases hvu with hvu | hvu
  · obtain ⟨g, o, cap, e, m1, m2⟩ := str_marks r1
    exact ⟨g, o, _, cap, by rw [hc, hvu, e], m1, m2, z1⟩
  · obtain ⟨g, o, cap, e, m1, m2⟩ := str_marks r2
    exact ⟨g, o, _, cap, by rw [hc, hvu, e], m1, m2, z2⟩
end
theorem LnO.below {B0 : Nat} {cs : List Cli} {us : List Usr} {ls : List (Value × Value)} {vN vU vL : Value} {w w' : World} (h : LnO B0 cs us ls vN vU vL w) (hb : Below w.heap.size w w') : LnO B0 cs us ls vN vU vL w' := h.keep (fun m _ hm => hb.block m hm)
theorem wrap_m (N M d : Nat) (h : N = M + d) (hN : N ≤ 4000000) : IntKind.i64.wrap ((N : Int) - (d : Int)) = (M : Int) := by rw [IntKind.wrap_i64]; omega

set_option maxRecDepth 100000 in
set_option maxHeartbeats 6400000 in
theorem returned_any (w : World) (t : Ten) (vC vU : Value) (cs : List Cli) (us : List Usr) (ls : List (Value × Value)) (oN oU : Option Addr) (cN cU : Nat) (vL : Value) (B0 : Nat) (hO : LnO B0 cs us ls (.slice oN (cs.length + 2) cN) (.slice oU (us.length + 2) cU) vL w) (hC : LiesC w vC cs) (hU : LiesU w vU us) (hz : SmallF cs us) :
    Calls Tryz.prog 8 #[.agg #[.int .i64 t.a0, .int .i64 t.a1, .int .i64 t.a2, .int .i64 t.a3, .int .i64 t.a4, .int .i64 t.a5, .int .i64 t.a6, .int .i64 t.a7, .int .i64 t.a8, .int .i64 t.a9, .slice oN cs.length cN, .slice oU us.length cU, .slice oN (cs.length + 2) cN, .slice oU (us.length + 2) cU, vL], .agg #[.int .i64 t.a0, .int .i64 t.a1, .int .i64 t.a2, .int .i64 t.a3, .int .i64 t.a4, .int .i64 t.a5, .int .i64 t.a6, .int .i64 t.a7, .int .i64 t.a8, .int .i64 t.a9, vC, vU]] w fun e w' => e = .returned (.bool true) ∧ Below w.heap.size w w' := by
  obtain ⟨oL, cL, hvL⟩ := form_w hO.rowL
  subst hvL
  have hnc := hz.nc
  have hnu := hz.nu
  have HO := hide hO
  have HCw := hide hC
  have HUw := hide hU
  have HZL : Hid (∀ x ∈ cs, x.to.length ≤ 1048576 ∧ x.sc.length ≤ 1048576) := fun x hx => ⟨(hz.ci x hx).2.1, (hz.ci x hx).2.2.1⟩
  obtain ⟨oc, ck, rfl, _⟩ := hC
  obtain ⟨ou, uk, rfl, _⟩ := hU
  obtain ⟨hx, hc⟩ := heap_two w (.cells #[.int .i64 t.a0, .int .i64 t.a1, .int .i64 t.a2, .int .i64 t.a3, .int .i64 t.a4, .int .i64 t.a5, .int .i64 t.a6, .int .i64 t.a7, .int .i64 t.a8, .int .i64 t.a9, .slice oN cs.length cN, .slice oU us.length cU, .slice oN (cs.length + 2) cN, .slice oU (us.length + 2) cU, .slice oL (2 * cs.length) cL] 28) (.cells #[.int .i64 t.a0, .int .i64 t.a1, .int .i64 t.a2, .int .i64 t.a3, .int .i64 t.a4, .int .i64 t.a5, .int .i64 t.a6, .int .i64 t.a7, .int .i64 t.a8, .int .i64 t.a9, .slice oc cs.length ck, .slice ou us.length uk] 25)
  have BA : Below w.heap.size w ((w.alloc (.cells #[.int .i64 t.a0, .int .i64 t.a1, .int .i64 t.a2, .int .i64 t.a3, .int .i64 t.a4, .int .i64 t.a5, .int .i64 t.a6, .int .i64 t.a7, .int .i64 t.a8, .int .i64 t.a9, .slice oN cs.length cN, .slice oU us.length cU, .slice oN (cs.length + 2) cN, .slice oU (us.length + 2) cU, .slice oL (2 * cs.length) cL] 28)).alloc (.cells #[.int .i64 t.a0, .int .i64 t.a1, .int .i64 t.a2, .int .i64 t.a3, .int .i64 t.a4, .int .i64 t.a5, .int .i64 t.a6, .int .i64 t.a7, .int .i64 t.a8, .int .i64 t.a9, .slice oc cs.length ck, .slice ou us.length uk] 25)) := ((Below.refl _ _).alloc (Nat.le_refl _) _).alloc (by simp) _
  have HBA := hide BA
  have HX := hide hx
  have HC := hide hc
  have p10 : ((w.alloc (.cells #[.int .i64 t.a0, .int .i64 t.a1, .int .i64 t.a2, .int .i64 t.a3, .int .i64 t.a4, .int .i64 t.a5, .int .i64 t.a6, .int .i64 t.a7, .int .i64 t.a8, .int .i64 t.a9, .slice oN cs.length cN, .slice oU us.length cU, .slice oN (cs.length + 2) cN, .slice oU (us.length + 2) cU, .slice oL (2 * cs.length) cL] 28)).alloc (.cells #[.int .i64 t.a0, .int .i64 t.a1, .int .i64 t.a2, .int .i64 t.a3, .int .i64 t.a4, .int .i64 t.a5, .int .i64 t.a6, .int .i64 t.a7, .int .i64 t.a8, .int .i64 t.a9, .slice oc cs.length ck, .slice ou us.length uk] 25)).cell? ⟨w.heap.size + 1, 10, none⟩ = some (.slice oc cs.length ck) := cell_of hc 10
  have p11 : ((w.alloc (.cells #[.int .i64 t.a0, .int .i64 t.a1, .int .i64 t.a2, .int .i64 t.a3, .int .i64 t.a4, .int .i64 t.a5, .int .i64 t.a6, .int .i64 t.a7, .int .i64 t.a8, .int .i64 t.a9, .slice oN cs.length cN, .slice oU us.length cU, .slice oN (cs.length + 2) cN, .slice oU (us.length + 2) cU, .slice oL (2 * cs.length) cL] 28)).alloc (.cells #[.int .i64 t.a0, .int .i64 t.a1, .int .i64 t.a2, .int .i64 t.a3, .int .i64 t.a4, .int .i64 t.a5, .int .i64 t.a6, .int .i64 t.a7, .int .i64 t.a8, .int .i64 t.a9, .slice oc cs.length ck, .slice ou us.length uk] 25)).cell? ⟨w.heap.size + 1, 11, none⟩ = some (.slice ou us.length uk) := cell_of hc 11
  have p14 : ((w.alloc (.cells #[.int .i64 t.a0, .int .i64 t.a1, .int .i64 t.a2, .int .i64 t.a3, .int .i64 t.a4, .int .i64 t.a5, .int .i64 t.a6, .int .i64 t.a7, .int .i64 t.a8, .int .i64 t.a9, .slice oN cs.length cN, .slice oU us.length cU, .slice oN (cs.length + 2) cN, .slice oU (us.length + 2) cU, .slice oL (2 * cs.length) cL] 28)).alloc (.cells #[.int .i64 t.a0, .int .i64 t.a1, .int .i64 t.a2, .int .i64 t.a3, .int .i64 t.a4, .int .i64 t.a5, .int .i64 t.a6, .int .i64 t.a7, .int .i64 t.a8, .int .i64 t.a9, .slice oc cs.length ck, .slice ou us.length uk] 25)).cell? ⟨w.heap.size, 14, none⟩ = some (.slice oL (2 * cs.length) cL) := cell_of hx 14
  have HRX : Hid (((w.alloc (.cells #[.int .i64 t.a0, .int .i64 t.a1, .int .i64 t.a2, .int .i64 t.a3, .int .i64 t.a4, .int .i64 t.a5, .int .i64 t.a6, .int .i64 t.a7, .int .i64 t.a8, .int .i64 t.a9, .slice oN cs.length cN, .slice oU us.length cU, .slice oN (cs.length + 2) cN, .slice oU (us.length + 2) cU, .slice oL (2 * cs.length) cL] 28)).alloc (.cells #[.int .i64 t.a0, .int .i64 t.a1, .int .i64 t.a2, .int .i64 t.a3, .int .i64 t.a4, .int .i64 t.a5, .int .i64 t.a6, .int .i64 t.a7, .int .i64 t.a8, .int .i64 t.a9, .slice oc cs.length ck, .slice ou us.length uk] 25)).rangeAt w.heap.size 0 [.int .i64 t.a0, .int .i64 t.a1, .int .i64 t.a2, .int .i64 t.a3, .int .i64 t.a4, .int .i64 t.a5, .int .i64 t.a6, .int .i64 t.a7, .int .i64 t.a8, .int .i64 t.a9, .slice oN cs.length cN, .slice oU us.length cU]) := range_pre hx _ (pre_of (m := [.slice oN (cs.length + 2) cN, .slice oU (us.length + 2) cU, .slice oL (2 * cs.length) cL]))
  have HRC := hide (range_of (l := [.int .i64 t.a0, .int .i64 t.a1, .int .i64 t.a2, .int .i64 t.a3, .int .i64 t.a4, .int .i64 t.a5, .int .i64 t.a6, .int .i64 t.a7, .int .i64 t.a8, .int .i64 t.a9, .slice oc cs.length ck, .slice ou us.length uk]) hc)
  have HZ := hide hz
  clear BA hx hc hO hz
  go_enter Tryz.func8, Tryz.ntmps8
  go_wp2_with fail
  generalize (w.alloc (.cells #[.int .i64 t.a0, .int .i64 t.a1, .int .i64 t.a2, .int .i64 t.a3, .int .i64 t.a4, .int .i64 t.a5, .int .i64 t.a6, .int .i64 t.a7, .int .i64 t.a8, .int .i64 t.a9, .slice oN cs.length cN, .slice oU us.length cU, .slice oN (cs.length + 2) cN, .slice oU (us.length + 2) cU, .slice oL (2 * cs.length) cL] 28)).alloc (.cells #[.int .i64 t.a0, .int .i64 t.a1, .int .i64 t.a2, .int .i64 t.a3, .int .i64 t.a4, .int .i64 t.a5, .int .i64 t.a6, .int .i64 t.a7, .int .i64 t.a8, .int .i64 t.a9, .slice oc cs.length ck, .slice ou us.length uk] 25) = V at *
  have HOV := hide (HO.out.below HBA.out)
  obtain ⟨n2, hn2⟩ : ∃ n2, n2 = 2 * cs.length := ⟨_, rfl⟩
  have hn2b : n2 ≤ 4000000 := by omega
  have HML := hide (fun i hi => HOV.out.marksL HZL.out rfl (oL := oL) (cL := cL) i hi)
  rw [← hn2] at HML p14
  clear hn2
  go_loopw [7] (fun i wr => ∃ k : Nat, k ≤ n2 ∧ i = .int .i64 k ∧ Hid (wr = V)) (fun i _ => n2 - (intOf i).toNat)
  case atStart => exact ⟨0, Nat.zero_le _, rfl, rfl⟩
  case round =>
    obtain ⟨k, hk, rfl, hV⟩ := hrel
    obtain rfl := hV.out.symm
    clear hV
    by_cases hlt : k < n2
    · have k1 : (k : Int) < (n2 : Int) := by omega
      have k0 : (0 : Int) ≤ (k : Int) := Int.natCast_nonneg _
      obtain ⟨gL, oo, rfl, g, o, n, cap, c0, c1, c2, hn⟩ := HML.out k hlt
      obtain ⟨N, hN⟩ : ∃ N, N = n + 2 := ⟨_, rfl⟩
      obtain ⟨M, hM⟩ : ∃ M, M = n + 1 := ⟨_, rfl⟩
      rw [← hN] at c0
      rw [← hM] at c2
      have w1 : IntKind.i64.wrap ((N : Int) - 1) = (M : Int) := wrap_m N M 1 (by omega) (by omega)
      have w2 : IntKind.i64.wrap ((N : Int) - 2) = (n : Int) := wrap_m N n 2 (by omega) (by omega)
      have w3 : wrap64 ((N : Int) - 1) = (M : Int) := by unfold wrap64; omega
      have w4 : wrap64 ((N : Int) - 2) = (n : Int) := by unfold wrap64; omega
      have m1 : (M : Int) < (N : Int) := by omega
      have m2 : (n : Int) < (N : Int) := by omega
      have m0 : (0 : Int) ≤ (M : Int) := Int.natCast_nonneg _
      have m3 : (0 : Int) ≤ (n : Int) := Int.natCast_nonneg _
      clear hN hM
      go_wp2_with fail
      go_roundw
      case rel => exact ⟨k + 1, by omega, by go_num, hide trivial⟩
      case measure => simp [intOf]; omega
    · have k1 : ¬ (k : Int) < (n2 : Int) := by omega
      have HSC := hide (sameConfig_any V t (.slice oN cs.length cN) (.slice oU us.length cU) (.slice oc cs.length ck) (.slice ou us.length uk) cs us HOV.out.own.lies HOV.out.liesU (HCw.out.below HBA.out) (HUw.out.below HBA.out) (by omega) (by omega) (fun x hx => by have := HZL.out x hx; omega))
      go_wp2_with (first
        | (refine wpList_load_mid rfl 25 (.tmp 51) rfl w.heap.size 0 rfl _ _ HRX.out Tryz.underlying25 rfl sizeCf ?_)
        | (refine wpList_load_mid rfl 25 (.tmp 3) rfl (w.heap.size + 1) 0 rfl _ _ HRC.out Tryz.underlying25 rfl sizeCf ?_))
      refine HSC.out.mono ?_
      rintro e w3 ⟨rfl, b3⟩
      have hx3 := (b3.block _ (Array.getElem?_eq_some_iff.1 HX.out).1).trans HX.out
      have q12 : w3.cell? ⟨w.heap.size, 12, none⟩ = some (.slice oN (cs.length + 2) cN) := cell_of hx3 12
      have q13 : w3.cell? ⟨w.heap.size, 13, none⟩ = some (.slice oU (us.length + 2) cU) := cell_of hx3 13
      obtain ⟨b, o, rfl, d1, d2⟩ := (HOV.out.below b3).marksN
      obtain ⟨b', o', rfl, d3, d4⟩ := (HOV.out.below b3).marksU
      have HB3 := hide (keepW HBA.out b3)
      obtain ⟨n, hn⟩ : ∃ n, n = cs.length := ⟨_, rfl⟩
      obtain ⟨m, hm⟩ : ∃ m, m = us.length := ⟨_, rfl⟩
      have g0 : (cs.length : Int) < ((cs.length + 2 : Nat) : Int) := by omega
      have g1 : (cs.length : Int) + 1 < ((cs.length + 2 : Nat) : Int) := by omega
      have g2 : (us.length : Int) < ((us.length + 2 : Nat) : Int) := by omega
      have g3 : (us.length : Int) + 1 < ((us.length + 2 : Nat) : Int) := by omega
      have g4 : (0 : Int) ≤ (cs.length : Int) := Int.natCast_nonneg _
      have g5 : (0 : Int) ≤ (us.length : Int) := Int.natCast_nonneg _
      clear hx3 b3 hn hm
      go_wp2_with fail
      go_ret
      exact ⟨rfl, HB3.out⟩
end Go.Proofs.YtilhfmhjgfmejaaGreatDoor.rg
