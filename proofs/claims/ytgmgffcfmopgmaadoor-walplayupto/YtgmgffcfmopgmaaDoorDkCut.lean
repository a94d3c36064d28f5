import Derived.Test.YtgmgffcfmopgmaaDoorRows
import Derived.Test.YtgmgffcfmopgmaaDoorDkMath
import Derived.Test.YtgmgffcfmopgmaaDoorRdKit
import Derived.Test.YtgmgffcfmopgmaaDoorRanges
import Derived.WalkKit
import Derived.WalkSpells
import Derived.WalkLawsBesides
import Derived.Outline
import Derived.Laws.BitsAllLaws
import Derived.Laws.IdiomStrings
import Derived.Deep.OwnRows
import Derived.Deep.MidRow
import Derived.Deep.AppendSrc
import Derived.Laws.IdiomCopy
import Derived.Lib.AppendZerosOnto
import Derived.Laws.CopyOwn
import Derived.BigQuiet
namespace Go.Proofs.YtgmgffcfmopgmaaDoor.dk
open Go.ChangeShapes Go.WideShapes Go.ChangeAt Go.RowKit Go.Proofs.YtgmgffcfmopgmaaDoor.common

theorem infoA : (Tryd.prog.info? 86).map (fun i => (i.zero, i.size, i.bytes)) = some (some (.agg #[.int .i64 0, .int .i64 0]), 2, 16) := by kernel_rfl
/-- the cells of arms -/
def acs (l : List (Nat × Int)) : List Value := l.flatMap fun a => [.int .i64 (a.1 : Int), .int .i64 a.2]
theorem acs_cons (a : Nat × Int) (l : List (Nat × Int)) : acs (a :: l) = [.int .i64 (a.1 : Int), .int .i64 a.2] ++ acs l := rfl
theorem acs_snoc (a : Nat × Int) (l : List (Nat × Int)) : acs (l ++ [a]) = acs l ++ [.int .i64 (a.1 : Int), .int .i64 a.2] := by simp [acs, List.flatMap_append]

/-- a disk in memory: its own cells, its bytes, its arms; F: the blocks that are its own -/
structure Lk (w : World) (p : Nat) (gb ga : Option Nat) (vb va : Value) (x : St) : Prop where
  cell : w.heap[p]? = some (.cells #[vb, .int .i64 (x.s : Int), .int .i64 (x.r : Int), va, .bool x.d] 76)
  bytes : Ln w 5 1 gb vb x.b.length (x.b.map B)
  arms : Ln w 86 2 ga va x.a.length (acs x.a)
def fp (p : Nat) (gb ga : Option Nat) : List Nat := p :: (gb.toList ++ ga.toList)
theorem fp_p (p : Nat) (gb ga : Option Nat) : p ∈ fp p gb ga := List.mem_cons_self ..
theorem fp_b {p g : Nat} {gb ga : Option Nat} (h : gb = some g) : g ∈ fp p gb ga := by subst h; simp [fp]
theorem fp_a {p g : Nat} {gb ga : Option Nat} (h : ga = some g) : g ∈ fp p gb ga := by subst h; simp [fp]
theorem fp_cases {p k : Nat} {gb ga : Option Nat} (h : k ∈ fp p gb ga) : k = p ∨ gb = some k ∨ ga = some k := by
  rcases List.mem_cons.1 h with h | h
  · exact Or.inl h
  · rcases List.mem_append.1 h with h | h
    · exact Or.inr (Or.inl (by simpa using h))
    · exact Or.inr (Or.inr (by simpa using h))
def Dk (w : World) (p : Nat) (F : List Nat) (x : St) : Prop := ∃ gb ga vb va, F = fp p gb ga ∧ Lk w p gb ga vb va x
theorem Lk.keep {w w' : World} {p : Nat} {gb ga : Option Nat} {vb va : Value} {x : St} (h : Lk w p gb ga vb va x) (hk : ∀ k ∈ fp p gb ga, w'.heap[k]? = w.heap[k]?) : Lk w' p gb ga vb va x :=
  ⟨(hk p (fp_p _ _ _)).trans h.cell, h.bytes.keep fun g hg => hk g (fp_b hg), h.arms.keep fun g hg => hk g (fp_a hg)⟩
theorem Lk.lt {w : World} {p : Nat} {gb ga : Option Nat} {vb va : Value} {x : St} (h : Lk w p gb ga vb va x) : ∀ k ∈ fp p gb ga, k < w.heap.size := fun k hk => by
  rcases fp_cases hk with rfl | hb | ha
  · exact (Array.getElem?_eq_some_iff.1 h.cell).1
  · exact (h.bytes.lt k hb).1
  · exact (h.arms.lt k ha).1
theorem Dk.keep {w w' : World} {p : Nat} {F : List Nat} {x : St} (h : Dk w p F x) (hk : ∀ k ∈ F, w'.heap[k]? = w.heap[k]?) : Dk w' p F x := by
  obtain ⟨gb, ga, vb, va, rfl, h⟩ := h
  exact ⟨gb, ga, vb, va, rfl, h.keep hk⟩
theorem Dk.lt {w : World} {p : Nat} {F : List Nat} {x : St} (h : Dk w p F x) : ∀ k ∈ F, k < w.heap.size := by
  obtain ⟨gb, ga, vb, va, rfl, h⟩ := h
  exact h.lt
theorem Dk.mem {w : World} {p : Nat} {F : List Nat} {x : St} (h : Dk w p F x) : p ∈ F := by
  obtain ⟨gb, ga, vb, va, rfl, h⟩ := h
  exact fp_p _ _ _
theorem Dk.below {w w' : World} {p : Nat} {F : List Nat} {x : St} (h : Dk w p F x) (hb : Below w.heap.size w w') : Dk w' p F x := h.keep fun k hk => hb.block k (h.lt k hk)
theorem Dk.other {w w' : World} {p : Nat} {F G : List Nat} {x : St} (h : Dk w p F x) (hf : Fr G w w') (hn : ∀ k ∈ F, k ∉ G) : Dk w' p F x := h.keep fun k hk => hf.block k (h.lt k hk) (hn k hk)
/-- a disk behind a call on it -/
def Mv (w : World) (p : Nat) (F : List Nat) (x : St) (w' : World) : Prop := ∃ F', Dk w' p F' x ∧ Fr F w w' ∧ ∀ k ∈ F', k ∈ F ∨ w.heap.size ≤ k
theorem Dk.stay {w : World} {p : Nat} {F : List Nat} {x : St} (h : Dk w p F x) {w' : World} (hb : Below w.heap.size w w') : Mv w p F x w' := ⟨F, h.below hb, Fr.of hb, fun _ hk => Or.inl hk⟩
theorem Mv.next {w w1 w2 : World} {p : Nat} {F : List Nat} {x : St} (h : Mv w p F x w1) (hb : Below w1.heap.size w1 w2) : Mv w p F x w2 := by
  obtain ⟨F', h1, h2, h3⟩ := h
  exact ⟨F', h1.below hb, h2.next hb, h3⟩
theorem Mv.trans {w w1 w2 : World} {p : Nat} {F F1 : List Nat} {x : St} (hf : Fr F w w1) (hs : ∀ k ∈ F1, k ∈ F ∨ w.heap.size ≤ k) (h : Mv w1 p F1 x w2) : Mv w p F x w2 := by
  obtain ⟨F2, h1, h2, h3⟩ := h
  refine ⟨F2, h1, hf.trans h2 hs, fun k hk => ?_⟩
  rcases h3 k hk with h4 | h4
  · exact hs k h4
  · exact Or.inr (Nat.le_trans hf.size h4)
end Go.Proofs.YtgmgffcfmopgmaaDoor.dk

namespace Go.Proofs.YtgmgffcfmopgmaaDoor.dk
open Go.ChangeShapes Go.WideShapes Go.ChangeAt Go.RowKit Go.Proofs.YtgmgffcfmopgmaaDoor.common
set_option maxRecDepth 100000 in
set_option maxHeartbeats 800000 in
theorem own_any (w : World) (v : Value) (l : List UInt8) (h : Rd w v l) (hl : l.length ≤ 281474976710656) :
    Calls Tryd.prog 40 #[v] w fun e w' => e = .returned (.slice (some ⟨w.heap.size, 0, none⟩) l.length l.length) ∧ Nw w' w.heap.size l ∧ Below w.heap.size w w' := by
  obtain ⟨oa, cap, rfl, h⟩ := h
  obtain ⟨i0, hi, hz0, hz1, hz2⟩ := info_parts info8
  obtain ⟨cur, hcur⟩ : ∃ cur, cur = (madeCells #[.int .u8 0] l.length).toList := ⟨_, rfl⟩
  have hA : (w.alloc (.cells (madeCells #[.int .u8 0] l.length) 5)).heap[w.heap.size]? = some (.cells cur.toArray 5 (0, 0)) := by rw [hcur]; exact heap_alloc_new _ _
  have hCL : cur.length = l.length := by rw [hcur]; exact made_len _
  have hcp := copy_run (w.alloc (.cells (madeCells #[.int .u8 0] l.length) 5)) w.heap.size 0 l.length l.length oa cap l (fun h0 => by
    obtain ⟨g, o, e, hg, hr⟩ := h h0
    exact ⟨g, o, e, by simp; omega, range_block hr (heap_alloc_old _ _ hg)⟩) (Nat.le_refl _) (there_of hA 0 _ (by omega))
  have HN : Hid (Nw ((w.alloc (.cells (madeCells #[.int .u8 0] l.length) 5)).setCells w.heap.size 0 (l.map B)) w.heap.size l) := by
    show _ = _
    rw [sets_here hA (l.map B) 0 (by rw [List.length_map]; omega), List.take_zero, List.nil_append, List.drop_eq_nil_of_le (by rw [List.length_map]; omega), List.append_nil]
  have HB : Hid (Below w.heap.size w ((w.alloc (.cells (madeCells #[.int .u8 0] l.length) 5)).setCells w.heap.size 0 (l.map B))) :=
    (((Fr.refl [] w).alloc _).sets w.heap.size 0 _ (Or.inr (Nat.le_refl _))).below (fun k hk => by cases hk) (Nat.le_refl _)
  clear h hA hCL hcur
  generalize l.length = n at *
  go_enter Tryd.func40, Tryd.ntmps40
  go_wp2_with (refine wpList_make_row _ rfl _ _ 22 rfl 5 i0 (.int .u8 0) Tryd.underlying22 hi hz0 hz1 rfl .i64 .i64 n ?c1 ?c2 ?c3 ?c4 ?_)
  case c1 => rfl
  case c2 => rfl
  case c3 => rw [hz2]; omega
  case c4 => omega
  clear hz0 hz1 hz2 hi
  generalize (w.alloc (.cells (madeCells #[.int .u8 0] n) 5)).setCells w.heap.size 0 (l.map B) = W at *
  go_wp2
  go_ret
  exact ⟨rfl, HN.out, HB.out⟩
end Go.Proofs.YtgmgffcfmopgmaaDoor.dk

namespace Go.Proofs.YtgmgffcfmopgmaaDoor.dk
open Go.ChangeShapes Go.WideShapes Go.ChangeAt Go.RowKit Go.Proofs.YtgmgffcfmopgmaaDoor.common

theorem set_of {w : World} {F : Nat} {a : Array Value} {t : TypeId} (h : w.heap[F]? = some (.cells a t)) (j : Nat) (v : Value) : (w.setCell ⟨F, j, none⟩ v).heap[F]? = some (.cells (a.setIfInBounds j v) t) := by
  simp [World.setCell, Array.getElem?_modify, h]
/-- a line cut at its end -/
theorem Ln.cut {w : World} {e : TypeId} {gb : Option Nat} {ao : Option Addr} {m cap : Nat} {xs : List Value} (h : Ln w e 1 gb (.slice ao m cap) m xs) (n : Nat) (hn : n ≤ m) :
    ∃ gb', (gb' = none ∨ gb' = gb) ∧ Ln w e 1 gb' (.slice ao n n) n (xs.take n) := by
  have hl := h.1
  by_cases h0 : n = 0
  · subst h0
    exact ⟨none, Or.inl rfl, by simp, Or.inl ⟨rfl, rfl, _, rfl⟩⟩
  · rcases h.2 with ⟨_, h1, _⟩ | ⟨g, o, c, rfl, hv, hc, h2, h3, hm, h4, h5⟩
    · omega
    · cases hv
      refine ⟨some g, Or.inr rfl, by rw [List.length_take]; omega, Or.inr ⟨g, o, n, rfl, rfl, hc, by omega, Nat.le_refl _, by omega, fun j hj => h4 j (by omega), fun j u hu => h5 j u ?_⟩⟩
      rw [List.getElem?_take] at hu
      split at hu
      · exact hu
      · cases hu
theorem ne_of_type {w : World} {p : Nat} {a : Array Value} (h : w.heap[p]? = some (.cells a 76)) {e : TypeId} {size : Nat} {gb : Option Nat} {v : Value} {n : Nat} {xs : List Value} (hl : Ln w e size gb v n xs) (hne : e ≠ 76) : ∀ g, gb = some g → g ≠ p := fun g hg e1 => by
  obtain ⟨_, cur, hc⟩ := hl.lt g hg
  rw [e1, h] at hc
  simp at hc
  exact hne hc.2.symm
theorem Lk.ne {w : World} {p : Nat} {gb ga : Option Nat} {vb va : Value} {x : St} (h : Lk w p gb ga vb va x) : (∀ g, gb = some g → g ≠ p) ∧ (∀ g, ga = some g → g ≠ p) ∧ ∀ g, gb = some g → ga ≠ some g := by
  refine ⟨ne_of_type h.cell h.bytes (by decide), ne_of_type h.cell h.arms (by decide), fun g hg ha => ?_⟩
  obtain ⟨_, c1, h1⟩ := h.bytes.lt g hg
  obtain ⟨_, c2, h2⟩ := h.arms.lt g ha
  rw [h1] at h2
  simp at h2

theorem Lk.at0 {w : World} {p : Nat} {gb ga gb' : Option Nat} {vb va vb' : Value} {x : St} (h : Lk w p gb ga vb va x) (b : List UInt8) (hl : Ln w 5 1 gb' vb' b.length (b.map B)) : Lk (w.setCell ⟨p, 0, none⟩ vb') p gb' ga vb' va ⟨b, x.s, x.r, x.a, x.d⟩ := by
  have h1 := ne_of_type h.cell hl (by decide)
  have h2 := h.ne.2.1
  exact ⟨set_of h.cell 0 vb', hl.keep fun g hg => set_other _ _ _ _ (h1 g hg), h.arms.keep fun g hg => set_other _ _ _ _ (h2 g hg)⟩
theorem Lk.at1 {w : World} {p : Nat} {gb ga : Option Nat} {vb va : Value} {x : St} (h : Lk w p gb ga vb va x) (n : Nat) : Lk (w.setCell ⟨p, 1, none⟩ (.int .i64 (n : Int))) p gb ga vb va ⟨x.b, n, x.r, x.a, x.d⟩ :=
  ⟨set_of h.cell 1 _, h.bytes.keep fun g hg => set_other _ _ _ _ (h.ne.1 g hg), h.arms.keep fun g hg => set_other _ _ _ _ (h.ne.2.1 g hg)⟩
theorem Lk.at3 {w : World} {p : Nat} {gb ga ga' : Option Nat} {vb va va' : Value} {x : St} (h : Lk w p gb ga vb va x) (a : List (Nat × Int)) (hl : Ln w 86 2 ga' va' a.length (acs a)) : Lk (w.setCell ⟨p, 3, none⟩ va') p gb ga' vb va' ⟨x.b, x.s, x.r, a, x.d⟩ := by
  have h1 := ne_of_type h.cell hl (by decide)
  exact ⟨set_of h.cell 3 va', h.bytes.keep fun g hg => set_other _ _ _ _ (h.ne.1 g hg), hl.keep fun g hg => set_other _ _ _ _ (h1 g hg)⟩
theorem Lk.at4 {w : World} {p : Nat} {gb ga : Option Nat} {vb va : Value} {x : St} (h : Lk w p gb ga vb va x) (d : Bool) : Lk (w.setCell ⟨p, 4, none⟩ (.bool d)) p gb ga vb va ⟨x.b, x.s, x.r, x.a, d⟩ :=
  ⟨set_of h.cell 4 _, h.bytes.keep fun g hg => set_other _ _ _ _ (h.ne.1 g hg), h.arms.keep fun g hg => set_other _ _ _ _ (h.ne.2.1 g hg)⟩
theorem Lk.drewN {w : World} {p : Nat} {gb ga : Option Nat} {vb va : Value} {x : St} (h : Lk w p gb ga vb va x) (n : Nat) : Lk (w.drewN n) p gb ga vb va x := h.keep fun _ _ => rfl
theorem Lk.drew {w : World} {p : Nat} {gb ga : Option Nat} {vb va : Value} {x : St} (h : Lk w p gb ga vb va x) : Lk w.drew p gb ga vb va x := h.keep fun _ _ => rfl
theorem Lk.below {w w' : World} {p : Nat} {gb ga : Option Nat} {vb va : Value} {x : St} (h : Lk w p gb ga vb va x) (hb : Below w.heap.size w w') : Lk w' p gb ga vb va x := h.keep fun k hk => hb.block k (h.lt k hk)
theorem Ln.cap {w : World} {e : TypeId} {size : Nat} {gb : Option Nat} {ao : Option Addr} {n cap : Nat} {xs : List Value} (h : Ln w e size gb (.slice ao n cap) n xs) : n ≤ cap := by
  rcases h.2 with ⟨_, h0, _, _⟩ | ⟨g, o, c, _, hv, _, _, h3, _⟩
  · omega
  · cases hv; exact h3

set_option maxRecDepth 100000 in
set_option maxHeartbeats 800000 in
theorem cut_any (w : World) (p : Nat) (gb ga : Option Nat) (vb va : Value) (x : St) (h : Lk w p gb ga vb va x) (n : Nat) (hn : n ≤ x.b.length) :
    Calls Tryd.prog 69 #[ptr p, .int .i64 (n : Int)] w fun e w' => e = .returned (.tuple #[]) ∧ ∃ gb' vb', (gb' = none ∨ gb' = gb) ∧ w' = w.setCell ⟨p, 0, none⟩ vb' ∧ Ln w 5 1 gb' vb' n ((x.b.take n).map B) := by
  obtain ⟨ao, cap, rfl⟩ := h.bytes.len
  have hcap : n ≤ cap := Nat.le_trans hn h.bytes.cap
  obtain ⟨gb', hg, hl⟩ := h.bytes.cut n hn
  rw [← List.map_take] at hl
  have c0 : w.cell? ⟨p, 0, none⟩ = some (.slice ao x.b.length cap) := cell_of h.cell 0
  have f0 : w.frozen? ⟨p, 0, none⟩ = false := free_of h.cell 0
  have HL := hide hl
  have HG := hide hg
  clear h hl hg
  go_enter Tryd.func69, Tryd.ntmps69
  go_wp2
  go_end0
  exact ⟨rfl, gb', _, HG.out, rfl, HL.out⟩

theorem Ln.capm {w : World} {e : TypeId} {size : Nat} {gb : Option Nat} {ao : Option Addr} {n cap : Nat} {xs : List Value} (h : Ln w e size gb (.slice ao n cap) n xs) : cap ≤ maxLen := by
  rcases h.2 with ⟨_, _, _, hv⟩ | ⟨g, o, c, _, hv, _, _, _, hm, _⟩
  · cases hv; exact Nat.zero_le _
  · cases hv; exact hm
/-- how the disk lies behind a method that may cut its bytes -/
def Cut (w : World) (p : Nat) (gb ga : Option Nat) (va : Value) (x : St) (w' : World) : Prop := ∃ gb' vb', (gb' = none ∨ gb' = gb) ∧ Lk w' p gb' ga vb' va x ∧ Fr [p] w w' ∧ w'.heap.size = w.heap.size
set_option maxRecDepth 100000 in
set_option maxHeartbeats 800000 in
theorem fail_any (w : World) (p : Nat) (gb ga : Option Nat) (vb va : Value) (x : St) (k : Int) (h : Lk w p gb ga vb va x) (hs : x.s ≤ x.b.length) (hm : x.b.length ≤ 281474976710656) :
    Calls Tryd.prog 43 #[ptr p, .int .i64 k] w fun e w' => e = .returned (.tuple #[]) ∧ Cut w p gb ga va (x.fail k) w' := by
  obtain ⟨ao, cap, rfl⟩ := h.bytes.len
  have HK := hide h
  have c0 : w.cell? ⟨p, 0, none⟩ = some (.slice ao x.b.length cap) := cell_of h.cell 0
  have c1 : w.cell? ⟨p, 1, none⟩ = some (.int .i64 (x.s : Int)) := cell_of h.cell 1
  clear h
  have hlf := (x.left_le k hs)
  have hcase : (k < 0 ∧ (x.s : Int) = (x.left k : Int)) ∨ (0 ≤ k ∧ k ≤ (x.b.length : Int) - (x.s : Int) ∧ (x.s : Int) + k = (x.left k : Int)) ∨ (0 ≤ k ∧ (x.b.length : Int) - (x.s : Int) < k ∧ (x.s : Int) + ((x.b.length : Int) - (x.s : Int)) = (x.left k : Int)) := by
    unfold St.left
    omega
  have HF : Hid (x.fail k = ⟨x.b.take (x.left k), x.left k, x.r, x.a, true⟩) := rfl
  have HLL : Hid ((x.b.take (x.left k)).length = x.left k) := by show _ = _; rw [List.length_take]; omega
  have hl2 : x.left k ≤ x.b.length := hlf.2
  clear hlf
  generalize x.left k = L at *
  go_enter Tryd.func43, Tryd.ntmps43
  go_wp2_with fail
  go_quiet (fail)
  rcases hcase with ⟨h1, h2⟩ | ⟨h1, h3, h2⟩ | ⟨h1, h3, h2⟩
  all_goals
    have HE := hide h2
    clear h2
    go_wp2_with fail
    try rw [HE.out]
    refine (cut_any (w.drewN nq) p gb ga _ va x (HK.out.drewN nq) L hl2).mono ?_
    rintro e w1 ⟨rfl, gb', vb', hg', rfl, hl'⟩
    have hl3 : Ln (w.drewN nq) 5 1 gb' vb' (x.b.take L).length ((x.b.take L).map B) := by rw [HLL.out]; exact hl'
    have hk1 := (HK.out.drewN nq).at0 (x.b.take L) hl3
    obtain ⟨ao', cap', rfl⟩ := hl'.len
    have hk2 := hk1.at1 L
    have hk3 := hk2.at4 true
    have HFR := hide ((((Fr.refl [p] w).drewN nq).set ⟨p, 0, none⟩ (.slice ao' L cap') (Or.inl (List.mem_singleton.2 rfl))))
    have HG := hide hg'
    have HKK := hide hk3
    have HZ : Hid (((w.drewN nq).setCell ⟨p, 0, none⟩ (.slice ao' L cap')).heap.size = w.heap.size) := size_set _ _ _
    have d0 : ((w.drewN nq).setCell ⟨p, 0, none⟩ (.slice ao' L cap')).cell? ⟨p, 0, none⟩ = some (.slice ao' L cap') := cell_of hk1.cell 0
    have d1 : ((w.drewN nq).setCell ⟨p, 0, none⟩ (.slice ao' L cap')).cell? ⟨p, 1, none⟩ = some (.int .i64 (x.s : Int)) := cell_of hk1.cell 1
    have d2 : ((w.drewN nq).setCell ⟨p, 0, none⟩ (.slice ao' L cap')).frozen? ⟨p, 1, none⟩ = false := free_of hk1.cell 1
    have d3 : (((w.drewN nq).setCell ⟨p, 0, none⟩ (.slice ao' L cap')).setCell ⟨p, 1, none⟩ (.int .i64 (L : Int))).cell? ⟨p, 4, none⟩ = some (.bool x.d) := cell_of hk2.cell 4
    have d4 : (((w.drewN nq).setCell ⟨p, 0, none⟩ (.slice ao' L cap')).setCell ⟨p, 1, none⟩ (.int .i64 (L : Int))).frozen? ⟨p, 4, none⟩ = false := free_of hk2.cell 4
    clear hl' hl3 hk1 hk2 hk3 hg'
    generalize (w.drewN nq).setCell ⟨p, 0, none⟩ (.slice ao' L cap') = W at *
    go_wp2
    go_end0
    refine ⟨rfl, gb', _, HG.out, by rw [HF.out]; exact HKK.out, (HFR.out.set _ _ (Or.inl (List.mem_singleton.2 rfl))).set _ _ (Or.inl (List.mem_singleton.2 rfl)), by rw [size_set, size_set]; exact HZ.out⟩
end Go.Proofs.YtgmgffcfmopgmaaDoor.dk
