import Derived.Test.YtkamnkldgeaaaaaDoorDkOwn
import Derived.BigQuiet
namespace Go.Proofs.YtkamnkldgeaaaaaDoor.dk
open Go.ChangeShapes Go.WideShapes Go.ChangeAt Go.RowKit Go.Proofs.YtkamnkldgeaaaaaDoor.common

theorem set_of {w : World} {F : Nat} {a : Array Value} {t : TypeId} (h : w.heap[F]? = some (.cells a t)) (j : Nat) (v : Value) : (w.setCell ⟨F, j, none⟩ v).heap[F]? = some (.cells (a.setIfInBounds j v) t) := by
  simp [World.setCell, Array.getElem?_modify, h]
/-- a line cut at its end -/
theorem Ln.cut {w : World} {e : TypeId} {gb : Option Nat} {ao : Option Addr} {m cap : Nat} {xs : List Value} (h : Ln w e 1 gb (.slice ao m cap) m xs) (n : Nat) (hn : n ≤ m) :
    ∃ gb', (gb' = none ∨ gb' = gb) ∧ Ln w e 1 gb' (.slice ao n n) n (xs.take n) := by
  have hl := h.1
  by_cases h0 : n = 0
  · subst h0
    exact ⟨none, Or.inl rfl, by simp, Or.inl ⟨rfl, rfl, _, rfl⟩⟩
  · rcases h.2 with ⟨_, h1, _⟩ | ⟨g, o, c, rfl, hv, hc, h2, h3, hm, h4, h5⟩
    · omega
    · cases hv
      refine ⟨some g, Or.inr rfl, by rw [List.length_take]; omega, Or.inr ⟨g, o, n, rfl, rfl, hc, by omega, Nat.le_refl _, by omega, fun j hj => h4 j (by omega), fun j u hu => h5 j u ?_⟩⟩
      rw [List.getElem?_take] at hu
      split at hu
      · exact hu
      · cases hu
theorem ne_of_type {w : World} {p : Nat} {a : Array Value} (h : w.heap[p]? = some (.cells a 55)) {e : TypeId} {size : Nat} {gb : Option Nat} {v : Value} {n : Nat} {xs : List Value} (hl : Ln w e size gb v n xs) (hne : e ≠ 55) : ∀ g, gb = some g → g ≠ p := fun g hg e1 => by
  obtain ⟨_, cur, hc⟩ := hl.lt g hg
  rw [e1, h] at hc
  simp at hc
  exact hne hc.2.symm
theorem Lk.ne {w : World} {p : Nat} {gb ga : Option Nat} {vb va : Value} {x : St} (h : Lk w p gb ga vb va x) : (∀ g, gb = some g → g ≠ p) ∧ (∀ g, ga = some g → g ≠ p) ∧ ∀ g, gb = some g → ga ≠ some g := by
  refine ⟨ne_of_type h.cell h.bytes (by decide), ne_of_type h.cell h.arms (by decide), fun g hg ha => ?_⟩
  obtain ⟨_, c1, h1⟩ := h.bytes.lt g hg
  obtain ⟨_, c2, h2⟩ := h.arms.lt g ha
  rw [h1] at h2
  simp at h2

theorem Lk.at0 {w : World} {p : Nat} {gb ga gb' : Option Nat} {vb va vb' : Value} {x : St} (h : Lk w p gb ga vb va x) (b : List UInt8) (hl : Ln w 5 1 gb' vb' b.length (b.map B)) : Lk (w.setCell ⟨p, 0, none⟩ vb') p gb' ga vb' va ⟨b, x.s, x.r, x.a, x.d⟩ := by
  have h1 := ne_of_type h.cell hl (by decide)
  have h2 := h.ne.2.1
  exact ⟨set_of h.cell 0 vb', hl.keep fun g hg => set_other _ _ _ _ (h1 g hg), h.arms.keep fun g hg => set_other _ _ _ _ (h2 g hg)⟩
theorem Lk.at1 {w : World} {p : Nat} {gb ga : Option Nat} {vb va : Value} {x : St} (h : Lk w p gb ga vb va x) (n : Nat) : Lk (w.setCell ⟨p, 1, none⟩ (.int .i64 (n : Int))) p gb ga vb va ⟨x.b, n, x.r, x.a, x.d⟩ :=
  ⟨set_of h.cell 1 _, h.bytes.keep fun g hg => set_other _ _ _ _ (h.ne.1 g hg), h.arms.keep fun g hg => set_other _ _ _ _ (h.ne.2.1 g hg)⟩
theorem Lk.at3 {w : World} {p : Nat} {gb ga ga' : Option Nat} {vb va va' : Value} {x : St} (h : Lk w p gb ga vb va x) (a : List (Nat × Int)) (hl : Ln w 74 2 ga' va' a.length (acs a)) : Lk (w.setCell ⟨p, 3, none⟩ va') p gb ga' vb va' ⟨x.b, x.s, x.r, a, x.d⟩ := by
  have h1 := ne_of_type h.cell hl (by decide)
  exact ⟨set_of h.cell 3 va', h.bytes.keep fun g hg => set_other _ _ _ _ (h.ne.1 g hg), hl.keep fun g hg => set_other _ _ _ _ (h1 g hg)⟩
theorem Lk.at4 {w : World} {p : Nat} {gb ga : Option Nat} {vb va : Value} {x : St} (h : Lk w p gb ga vb va x) (d : Bool) : Lk (w.setCell ⟨p, 4, none⟩ (.bool d)) p gb ga vb va ⟨x.b, x.s, x.r, x.a, d⟩ :=
  ⟨set_of h.cell 4 _, h.bytes.keep fun g hg => set_other _ _ _ _ (h.ne.1 g hg), h.arms.keep fun g hg => set_other _ _ _ _ (h.ne.2.1 g hg)⟩
theorem Lk.drewN {w : World} {p : Nat} {gb ga : Option Nat} {vb va : Value} {x : St} (h : Lk w p gb ga vb va x) (n : Nat) : Lk (w.drewN n) p gb ga vb va x := h.keep fun _ _ => rfl
theorem Lk.drew {w : World} {p : Nat} {gb ga : Option Nat} {vb va : Value} {x : St} (h : Lk w p gb ga vb va x) : Lk w.drew p gb ga vb va x := h.keep fun _ _ => rfl
theorem Lk.below {w w' : World} {p : Nat} {gb ga : Option Nat} {vb va : Value} {x : St} (h : Lk w p gb ga vb va x) (hb : Below w.heap.size w w') : Lk w' p gb ga vb va x := h.keep fun k hk => hb.block k (h.lt k hk)
theorem Ln.cap {w : World} {e : TypeId} {size : Nat} {gb : Option Nat} {ao : Option Addr} {n cap : Nat} {xs : List Value} (h : Ln w e size gb (.slice ao n cap) n xs) : n ≤ cap := by
  rcases h.2 with ⟨_, h0, _, _⟩ | ⟨g, o, c, _, hv, _, _, h3, _⟩
  · omega
  · cases hv; exact h3

set_option maxRecDepth 100000 in
set_option maxHeartbeats 800000 in
theorem cut_any (w : World) (p : Nat) (gb ga : Option Nat) (vb va : Value) (x : St) (h : Lk w p gb ga vb va x) (n : Nat) (hn : n ≤ x.b.length) :
    Calls Tryd.prog 47 #[ptr p, .int .i64 (n : Int)] w fun e w' => e = .returned (.tuple #[]) ∧ ∃ gb' vb', (gb' = none ∨ gb' = gb) ∧ w' = w.setCell ⟨p, 0, none⟩ vb' ∧ Ln w 5 1 gb' vb' n ((x.b.take n).map B) := by
  obtain ⟨ao, cap, rfl⟩ := h.bytes.len
  have hcap : n ≤ cap := Nat.le_trans hn h.bytes.cap
  obtain ⟨gb', hg, hl⟩ := h.bytes.cut n hn
  rw [← List.map_take] at hl
  have c0 : w.cell? ⟨p, 0, none⟩ = some (.slice ao x.b.length cap) := cell_of h.cell 0
  have f0 : w.frozen? ⟨p, 0, none⟩ = false := free_of h.cell 0
  have HL := hide hl
  have HG := hide hg
  clear h hl hg
  go_enter Tryd.func47, Tryd.ntmps47
  go_wp2
  go_end0
  exact ⟨rfl, gb', _, HG.out, rfl, HL.out⟩

theorem Ln.capm {w : World} {e : TypeId} {size : Nat} {gb : Option Nat} {ao : Option Addr} {n cap : Nat} {xs : List Value} (h : Ln w e size gb (.slice ao n cap) n xs) : cap ≤ maxLen := by
  rcases h.2 with ⟨_, _, _, hv⟩ | ⟨g, o, c, _, hv, _, _, _, hm, _⟩
  · cases hv; exact Nat.zero_le _
  · cases hv; exact hm
/-- how the disk lies behind a method that may cut its bytes -/
def Cut (w : World) (p : Nat) (gb ga : Option Nat) (va : Value) (x : St) (w' : World) : Prop := ∃ gb' vb', (gb' = none ∨ gb' = gb) ∧ Lk w' p gb' ga vb' va x ∧ Fr [p] w w' ∧ w'.heap.size = w.heap.size
set_option maxRecDepth 100000 in
set_option maxHeartbeats 800000 in
theorem fail_any (w : World) (p : Nat) (gb ga : Option Nat) (vb va : Value) (x : St) (k : Int) (h : Lk w p gb ga vb va x) (hs : x.s ≤ x.b.length) (hm : x.b.length ≤ 281474976710656) :
    Calls Tryd.prog 44 #[ptr p, .int .i64 k] w fun e w' => e = .returned (.tuple #[]) ∧ Cut w p gb ga va (x.fail k) w' := by
  obtain ⟨ao, cap, rfl⟩ := h.bytes.len
  have HK := hide h
  have c0 : w.cell? ⟨p, 0, none⟩ = some (.slice ao x.b.length cap) := cell_of h.cell 0
  have c1 : w.cell? ⟨p, 1, none⟩ = some (.int .i64 (x.s : Int)) := cell_of h.cell 1
  clear h
  have hlf := (x.left_le k hs)
  have hcase : (k < 0 ∧ (x.s : Int) = (x.left k : Int)) ∨ (0 ≤ k ∧ k ≤ (x.b.length : Int) - (x.s : Int) ∧ (x.s : Int) + k = (x.left k : Int)) ∨ (0 ≤ k ∧ (x.b.length : Int) - (x.s : Int) < k ∧ (x.s : Int) + ((x.b.length : Int) - (x.s : Int)) = (x.left k : Int)) := by
    unfold St.left
    omega
  have HF : Hid (x.fail k = ⟨x.b.take (x.left k), x.left k, x.r, x.a, true⟩) := rfl
  have HLL : Hid ((x.b.take (x.left k)).length = x.left k) := by show _ = _; rw [List.length_take]; omega
  have hl2 : x.left k ≤ x.b.length := hlf.2
  clear hlf
  generalize x.left k = L at *
  go_enter Tryd.func44, Tryd.ntmps44
  go_wp2_with fail
  go_quiet (fail)
  rcases hcase with ⟨h1, h2⟩ | ⟨h1, h3, h2⟩ | ⟨h1, h3, h2⟩
  all_goals
    have HE := hide h2
    clear h2
    go_wp2_with fail
    try rw [HE.out]
    refine (cut_any (w.drewN nq) p gb ga _ va x (HK.out.drewN nq) L hl2).mono ?_
    rintro e w1 ⟨rfl, gb', vb', hg', rfl, hl'⟩
    have hl3 : Ln (w.drewN nq) 5 1 gb' vb' (x.b.take L).length ((x.b.take L).map B) := by rw [HLL.out]; exact hl'
    have hk1 := (HK.out.drewN nq).at0 (x.b.take L) hl3
    obtain ⟨ao', cap', rfl⟩ := hl'.len
    have hk2 := hk1.at1 L
    have hk3 := hk2.at4 true
    have HFR := hide ((((Fr.refl [p] w).drewN nq).set ⟨p, 0, none⟩ (.slice ao' L cap') (Or.inl (List.mem_singleton.2 rfl))))
    have HG := hide hg'
    have HKK := hide hk3
    have HZ : Hid (((w.drewN nq).setCell ⟨p, 0, none⟩ (.slice ao' L cap')).heap.size = w.heap.size) := size_set _ _ _
    have d0 : ((w.drewN nq).setCell ⟨p, 0, none⟩ (.slice ao' L cap')).cell? ⟨p, 0, none⟩ = some (.slice ao' L cap') := cell_of hk1.cell 0
    have d1 : ((w.drewN nq).setCell ⟨p, 0, none⟩ (.slice ao' L cap')).cell? ⟨p, 1, none⟩ = some (.int .i64 (x.s : Int)) := cell_of hk1.cell 1
    have d2 : ((w.drewN nq).setCell ⟨p, 0, none⟩ (.slice ao' L cap')).frozen? ⟨p, 1, none⟩ = false := free_of hk1.cell 1
    have d3 : (((w.drewN nq).setCell ⟨p, 0, none⟩ (.slice ao' L cap')).setCell ⟨p, 1, none⟩ (.int .i64 (L : Int))).cell? ⟨p, 4, none⟩ = some (.bool x.d) := cell_of hk2.cell 4
    have d4 : (((w.drewN nq).setCell ⟨p, 0, none⟩ (.slice ao' L cap')).setCell ⟨p, 1, none⟩ (.int .i64 (L : Int))).frozen? ⟨p, 4, none⟩ = false := free_of hk2.cell 4
    clear hl' hl3 hk1 hk2 hk3 hg'
    generalize (w.drewN nq).setCell ⟨p, 0, none⟩ (.slice ao' L cap') = W at *
    go_wp2
    go_end0
    refine ⟨rfl, gb', _, HG.out, by rw [HF.out]; exact HKK.out, (HFR.out.set _ _ (Or.inl (List.mem_singleton.2 rfl))).set _ _ (Or.inl (List.mem_singleton.2 rfl)), by rw [size_set, size_set]; exact HZ.out⟩
end Go.Proofs.YtkamnkldgeaaaaaDoor.dk
