import Derived.Test.YtlbhiefamnpphaaDoorJdR6
namespace Go.Proofs.YtlbhiefamnpphaaDoor.jc
open Go.ChangeShapes Go.WideShapes Go.ChangeAt Go.RowKit Go.Proofs.YtlbhiefamnpphaaDoor.common Go.Proofs.YtlbhiefamnpphaaDoor.Jc

theorem fm_is {n : Nat} {x : Dt} (h : Is n x) (hn : n ≤ 253402300799) : Fm x ∧ 1000 ≤ x.y := by
  have hy := h.year hn
  have hd := (md_most x.y x.m h.ok.m0 h.ok.m1).2
  refine ⟨⟨by rw [h.w]; omega, h.ok.m0, h.ok.m1, ?_, ?_, ?_, ?_, by omega⟩, ?_⟩
  · have := h.ok.d1; omega
  · have := h.ok.h1; omega
  · have := h.ok.i1; omega
  · have := h.ok.s1; omega
  · have := h.ok.y0; omega
theorem cell_fr {w w' : World} {g : Nat} {v : Value} (h : w.cell? ⟨g, 0, none⟩ = some v) (hb : Below w.heap.size w w') : w'.cell? ⟨g, 0, none⟩ = some v := (hb.cell (World.block_lt_of_cell? _ _ h)).trans h

set_option maxRecDepth 100000 in
set_option maxHeartbeats 3200000 in
theorem fixdate_ok (n : Nat) (w : World) (hT : MTab w) (hp : Pow w.heap.size w) (hw : WTab w) (ho : OTab w) (hn : n ≤ 253402300799) : Calls Tryd.prog 8 #[.int .i64 (n : Int)] w fun e w' => ∃ x : Dt, e = .returned (.tuple #[.string (tx (imfL x)), .nilIface]) ∧ Is n x ∧ Below w.heap.size w w' := by
  have HS := hide (isSecond_any (n : Int) w)
  have hsb : secB (n : Int) = true := by unfold secB; simp; omega
  rw [hsb] at HS
  have HD := hide (dateOf_any n w hT (by omega))
  have HX : Hid (∀ x w1, Is n x → Below w.heap.size w w1 → Calls Tryd.prog 14 #[dv x] w1 fun e w' => e = .returned (.string (tx (imfL x))) ∧ Below w1.heap.size w1 w') := fun x w1 hx hb => fixdateOf_any x w1 (hp.up hb hb.size) (hw.fr hb) (ho.fr hb) (fm_is hx hn).1 (fm_is hx hn).2
  clear hT hp hw ho hsb hn
  go_enter Tryd.func8, Tryd.ntmps8
  go_wp2_with fail
  refine HS.out.mono ?_
  rintro e w0 ⟨rfl, rfl⟩
  go_wp2_with fail
  refine HD.out.mono ?_
  rintro e w1 ⟨x, rfl, hx, b1⟩
  have HX1 := hide (HX.out x w1 hx b1)
  have HI := hide hx
  have HB1 := hide b1
  clear hx b1 HX
  go_wp2_with fail
  refine HX1.out.mono ?_
  rintro e w2 ⟨rfl, b2⟩
  have HB2 := hide (keepW HB1.out b2 HB1.out.size)
  clear b2
  go_wp2_with fail
  go_ret2
  exact ⟨x, rfl, HI.out, HB2.out⟩

set_option maxRecDepth 100000 in
set_option maxHeartbeats 3200000 in
theorem fixdate_no (n : Int) (eA : Value) (w : World) (hA : w.cell? ⟨0, 0, none⟩ = some eA) (hn : secB n = false) : Calls Tryd.prog 8 #[.int .i64 n] w fun e w' => e = .returned (.tuple #[.string ⟨#[]⟩, eA]) ∧ Below w.heap.size w w' := by
  have HS := hide (isSecond_any n w)
  rw [hn] at HS
  clear hn
  go_enter Tryd.func8, Tryd.ntmps8
  go_wp2_with fail
  refine HS.out.mono ?_
  rintro e w0 ⟨rfl, rfl⟩
  go_wp2_with fail
  go_quiet (fail)
  go_wp2_with fail
  go_ret2
  exact ⟨rfl, below_drewN (Below.refl _ _) _⟩

end Go.Proofs.YtlbhiefamnpphaaDoor.jc
