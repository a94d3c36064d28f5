import Derived.Test.YtdkbjefphihplaaKeptWalks
import Derived.Test.YtdkbjefphihplaaLookWalks2
import Derived.Test.YtdkbjefphihplaaTurnList
namespace Go.Proofs.Ytdkbjefphihplaa.lst
open Go.ChangeShapes Go.WideShapes Go.ChangeAt Go.RowKit Go.Proofs.Ytdkbjefphihplaa.common
attribute [local go_sem ↓] Go.wp_at_zero Go.wp_at_succ

theorem cellsAsked : Try.prog.cellsOf 32 = 2 := by kernel_rfl

/-- a struct of two cells, laid in memory -/
structure Two (w0 w : World) (b : Nat) (x y : Value) : Prop where
  c0 : w.cell? ⟨b, 0, none⟩ = some x
  c1 : w.cell? ⟨b, 1, none⟩ = some y
  bl : Below w0.heap.size w0 w
  lt : b < w.heap.size

theorem two_new (w : World) (x y : Value) (t : TypeId) : Two w (w.alloc (.cells #[x, y] t)) w.heap.size x y := by
  refine ⟨?_, ?_, (Below.refl _ _).alloc (Nat.le_refl _) _, by simp⟩
  · exact range_new w #[x, y] t 0 x rfl
  · exact range_new w #[x, y] t 1 y rfl

theorem Two.next {w0 w w' : World} {b : Nat} {x y : Value} (h : Two w0 w b x y) (hb : Below w.heap.size w w') : Two w0 w' b x y :=
  ⟨(hb.cell h.lt).trans h.c0, (hb.cell h.lt).trans h.c1, h.bl.trans (hb.mono h.bl.size), Nat.lt_of_lt_of_le h.lt hb.size⟩

set_option maxRecDepth 100000 in
set_option maxHeartbeats 6400000 in
theorem lawLookups (v : Value) (l : List PB) (n : ByteArray) (w : World) (hl : Lies w v l) (hs : (l.length + 2) * 32 ≤ 140737488355328) (hp : ∀ p ∈ l, p.1.size ≤ 140737488355328 ∧ p.2.size ≤ 140737488355328) (hnn : n.size ≤ 140737488355328) :
    Calls Try.prog 4 #[.agg #[v, .string n]] w fun e w' => e = .returned (.bool true) ∧ Below w.heap.size w w' := by
  have H0 := hide (two_new w v (.string n) 32)
  have HL := hide (hl.below H0.out.bl)
  obtain ⟨ov, cv, rfl, _⟩ := hl
  have HP : Hid (∀ p ∈ l, p.1.size ≤ 140737488355328) := fun p h => (hp p h).1
  have HPM : Hid (∀ p ∈ l.map (fun p => (p.2, p.1)), p.1.size ≤ 140737488355328) := by
    intro p h
    obtain ⟨q, hq, rfl⟩ := List.mem_map.1 h
    exact (hp q hq).2
  have HNN := hide hnn
  clear hp hnn
  go_enter Try.func4, Try.ntmps4
  go_wp2_with fail
  generalize w.alloc (.cells #[.slice ov l.length cv, .string n] 32) = W at *
  refine (spare_any _ l W HL.out hs).mono ?_
  rintro x w1 ⟨g, cap, rfl, hg0, hg, hcap, hrow, hb1⟩
  have H1 := hide (H0.out.next hb1)
  have HL1 := hide (HL.out.below hb1)
  have HR1 := hide hrow
  have HG1 := hide hg
  have HFL : Hid (Lies w1 (.slice (some ⟨g, 0, none⟩) l.length cap) l) := by
    have := hrow.lies hg l.length cap (by rw [List.length_append]; omega)
    rw [List.take_left] at this
    exact this
  have HB1 := hide hb1
  have HL0 := HL
  clear hb1 hrow HL
  have x0 : ∀ X, Below W.heap.size W X → X.cell? ⟨w.heap.size, 0, none⟩ = some (.slice ov l.length cv) := fun X hX => (H0.out.next hX).c0
  have x1 : ∀ X, Below W.heap.size W X → X.cell? ⟨w.heap.size, 1, none⟩ = some (.string n) := fun X hX => (H0.out.next hX).c1
  have k0 : (0 : Int) ≤ (l.length : Int) := Int.natCast_nonneg _
  have k4 : (l.length : Int) ≤ (cap : Int) := by omega
  have k5 : l.length ≤ cap := by omega
  have hll : l.length ≤ 4611686018427387000 := by omega
  have hb1 := HB1.out
  go_wp2_with fail
  go_region_held3 (fun X => Below W.heap.size W X)
    (first
      | exact Below.refl _ _
      | assumption
      | exact keepD (by assumption) (by assumption)
      | exact Below.drew (by assumption)
      | exact (Below.refl _ _).drew
      | exact keepT hg0 (by assumption) (by assumption)
      | exact Below.drew (keepT hg0 (by assumption) (by assumption)))
    ((go_at_call 5; refine (look_any _ l n _ (HFL.out.below ((Below.refl _ _).drew)) (by omega) HP.out).mono ?_; rintro x w2 ⟨rfl, hb2⟩))
  have HR2 := hide (HR1.out.below ((Below.refl _ _).drew.trans hb2) HG1.out)
  have HG2 : Hid (g < w2.heap.size) := Nat.lt_of_lt_of_le HG1.out hb2.size
  have HB2 : Hid (Below W.heap.size W w2) := by assumption
  have HL2 := hide (HL1.out.below ((Below.refl _ _).drew.trans hb2))
  clear hb2 hb1 HR1 HG1 HFL HL1 HB1
  have hb1 := HB2.out
  go_wp2_with fail
  go_region_held3 (fun X => Below W.heap.size W X)
    (first
      | exact Below.refl _ _
      | assumption
      | exact keepD (by assumption) (by assumption)
      | exact Below.drew (by assumption)
      | exact (Below.refl _ _).drew
      | exact keepT hg0 (by assumption) (by assumption)
      | exact Below.drew (keepT hg0 (by assumption) (by assumption)))
    (first
      | (go_at_call 9; refine (copied_any _ l _ (HL2.out.below ((Below.refl _ _).drew)) (by omega)).mono ?_; rintro x w3 ⟨v3, rfl, ho3, hb3⟩)
      | (go_at_call 8; refine (refLook_any _ l n _ (lies_of_own ho3) (by omega) HP.out HNN.out).mono ?_; rintro x w4 ⟨rfl, hb4⟩))
  have HR4 := hide ((HR2.out.below ((Below.refl _ _).drew.trans hb3) HG2.out).below hb4 (Nat.lt_of_lt_of_le HG2.out hb3.size))
  have HG4 : Hid (g < w4.heap.size) := Nat.lt_of_lt_of_le (Nat.lt_of_lt_of_le HG2.out hb3.size) hb4.size
  have HB4 : Hid (Below W.heap.size W w4) := by assumption
  have HL4 := hide ((HL2.out.below ((Below.refl _ _).drew.trans hb3)).below hb4)
  clear hb3 hb4 hb1 HR2 HG2 HB2 HL2 ho3
  have hb1 := HB4.out
  have y0 := x0 _ hb1
  generalize (lookOf l (lowB n)).1 = gf
  generalize (lookOf l (lowB n)).2 = gn
  go_wp2_with fail
  refine (kept_any g cap _ l _ HR4.out HG4.out HL4.out hcap (by omega)).mono ?_
  rintro x w5 ⟨rfl, hb5⟩
  have HR5 := hide (HR4.out.below hb5 HG4.out)
  have HG5 : Hid (g < w5.heap.size) := Nat.lt_of_lt_of_le HG4.out hb5.size
  have HB5 : Hid (Below W.heap.size W w5) := HB4.out.trans (hb5.mono HB4.out.size)
  have HL5 := hide (HL4.out.below hb5)
  clear hb5 hb1 HR4 HG4 HB4 HL4 y0
  have hb1 := HB5.out
  go_wp2_with fail
  go_region_held3 (fun X => Below W.heap.size W X)
    (first
      | exact Below.refl _ _
      | assumption
      | exact keepD (by assumption) (by assumption)
      | exact Below.drew (by assumption)
      | exact (Below.refl _ _).drew
      | exact keepT hg0 (by assumption) (by assumption)
      | exact Below.drew (keepT hg0 (by assumption) (by assumption)))
    (first
      | (go_at_call 11; refine (turn_any g l.length cap l [(bh, bh), (bh, bh)] _ rfl HR5.out.drew (by omega)).mono ?_; rintro x w6 ⟨rfl, hr6, hb6⟩)
      | (go_at_call 5; refine (look_any _ (l.map fun p => (p.2, p.1)) n _ (lies_map l hr6 (Nat.lt_of_lt_of_le HG5.out hb6.size) cap) (by rw [List.length_map]; omega) HPM.out).mono ?_; rintro x w7 ⟨rfl, hb7⟩))
  have HB7 : Hid (Below W.heap.size W w7) := by assumption
  have HL7 : Hid (Lies w7 (.slice ov l.length cv) l) := HL0.out.below HB7.out
  clear hb6 hb7 hr6 hb1 HR5 HG5 HB5 HL5
  have hb1 := HB7.out
  go_wp2_with fail
  go_region_held3 (fun X => Below W.heap.size W X)
    (first
      | exact Below.refl _ _
      | assumption
      | exact keepD (by assumption) (by assumption)
      | exact Below.drew (by assumption)
      | exact (Below.refl _ _).drew
      | exact keepT HB7.out.size (by assumption) hb9
      | exact Below.drew (keepT HB7.out.size (by assumption) hb9))
    (first
      | (go_at_call 9; refine (copied_any _ l _ (HL7.out.below ((Below.refl _ _).drew)) (by omega)).mono ?_; rintro x w8 ⟨v8, rfl, ho8, hb8⟩)
      | (go_at_call 11; refine (turn_own _ l _ ho8 (by omega)).mono ?_; rintro x w9 ⟨rfl, hl9, hb9⟩)
      | (go_at_call 8; refine (refLook_any _ (l.map fun p => (p.2, p.1)) n _ hl9 (by rw [List.length_map]; omega) HPM.out HNN.out).mono ?_; rintro x w10 ⟨rfl, hb10⟩))
  have HB10 : Hid (Below W.heap.size W w10) := by assumption
  clear hb8 hb9 hb10 hl9 ho8 hb1
  generalize (lookOf (l.map fun p => (p.2, p.1)) (lowB n)).1 = hf
  generalize (lookOf (l.map fun p => (p.2, p.1)) (lowB n)).2 = hn
  go_wp2_with fail
  go_ret
  exact ⟨by simp, H0.out.bl.trans (HB10.out.mono H0.out.bl.size)⟩

end Go.Proofs.Ytdkbjefphihplaa.lst
