import Derived.Test.YtilhfmhjgfmejaaGreatDoorMRgChC
namespace Go.Proofs.YtilhfmhjgfmejaaGreatDoor.rg
open Go.ChangeShapes Go.WideShapes Go.ChangeAt Go.RowKit Go.Proofs.YtilhfmhjgfmejaaGreatDoor.common Go.Maps
attribute [local go_sem ↓] Go.wp_at_zero Go.wp_at_succ

/-- what registry.Check asks of variables -/
structure CEnv (e : Nat → Addr) (w : World) : Prop where
  arg : w.cell? ⟨1, 0, none⟩ = some (eV (e 0))
  two : w.cell? ⟨2, 0, none⟩ = some (eV (e 3))
  t : TEnv (e 1) (e 2) w
  nt : NTab w
theorem CEnv.below {e : Nat → Addr} {w w' : World} (h : CEnv e w) (hb : Below w.heap.size w w') : CEnv e w' :=
  ⟨(hb.cell (World.block_lt_of_cell? _ _ h.arg)).trans h.arg, (hb.cell (World.block_lt_of_cell? _ _ h.two)).trans h.two, h.t.below hb, h.nt.below hb⟩
/-- a configuration whose parts are not too long to be looked at -/
structure SmallF (cs : List Cli) (us : List Usr) : Prop where
  nc : cs.length ≤ 1048576
  nu : us.length ≤ 1048576
  ci : ∀ x ∈ cs, x.id.size ≤ 1048576 ∧ x.to.length ≤ 1048576 ∧ x.sc.length ≤ 1048576 ∧ (∀ s ∈ x.sc, s.size ≤ 1048576) ∧ ∀ s ∈ x.to, s.size ≤ 1048576
  ui : ∀ u ∈ us, u.name.size ≤ 1048576
/-- what Check answers -/
def chV (e : Nat → Addr) (t : Ten) (cs : List Cli) (us : List Usr) : Value := if manyB cs us then eV (e 2) else if fitB t cs us then (if twB cs us then eV (e 3) else .nilIface) else eV (e 0)
def chI (t : Ten) (cs : List Cli) (us : List Usr) : Int := if manyB cs us then 3 else if fitB t cs us then (if twB cs us then 4 else 0) else 1

set_option maxRecDepth 100000 in
set_option maxHeartbeats 3200000 in
theorem check_any (w : World) (t : Ten) (vC vU : Value) (cs : List Cli) (us : List Usr) (e : Nat → Addr) (hC : LiesC w vC cs) (hU : LiesU w vU us) (hK : KeepsC CapV w vC cs) (he : CEnv e w) (hz : SmallF cs us) :
    Calls Tryz.prog 6 #[.agg #[.int .i64 t.a0, .int .i64 t.a1, .int .i64 t.a2, .int .i64 t.a3, .int .i64 t.a4, .int .i64 t.a5, .int .i64 t.a6, .int .i64 t.a7, .int .i64 t.a8, .int .i64 t.a9, vC, vU]] w fun x w' => x = .returned (chV e t cs us) ∧ Below w.heap.size w w' := by
  have HE := hide he
  have HMA := hide (fun Y (hY : Below w.heap.size w Y) => hasTooMany_any Y t vC vU cs us (hC.below hY) (hU.below hY) (by have := hz.nc; omega))
  have HFI := hide (fun Y (hY : Below w.heap.size w Y) => isFit_any Y t vC vU cs us (e 1) (e 2) (hC.below hY) (hU.below hY) (he.below hY).t (he.below hY).nt (by have := hz.nc; omega) (by have := hz.nu; omega) (fun x hx => by obtain ⟨h1, h2, h3, h4, _⟩ := hz.ci x hx; exact ⟨by omega, by omega, by omega, fun s hs => by have := h4 s hs; omega⟩) (fun u hu => by have := hz.ui u hu; omega))
  have HTW := hide (fun Y (hY : Below w.heap.size w Y) => hasTwice_any Y t vC vU cs us (hC.below hY) (hU.below hY) (hK.below hC hY) hz.nc hz.nu (fun x hx => by have := (hz.ci x hx).2.1; omega))
  obtain ⟨oC, cC, rfl, _⟩ := hC
  obtain ⟨oU, cU, rfl, _⟩ := hU
  have hb := heap_new w (.cells #[.int .i64 t.a0, .int .i64 t.a1, .int .i64 t.a2, .int .i64 t.a3, .int .i64 t.a4, .int .i64 t.a5, .int .i64 t.a6, .int .i64 t.a7, .int .i64 t.a8, .int .i64 t.a9, .slice oC cs.length cC, .slice oU us.length cU] 25)
  have HB : Hid (Below w.heap.size w (w.alloc (.cells #[.int .i64 t.a0, .int .i64 t.a1, .int .i64 t.a2, .int .i64 t.a3, .int .i64 t.a4, .int .i64 t.a5, .int .i64 t.a6, .int .i64 t.a7, .int .i64 t.a8, .int .i64 t.a9, .slice oC cs.length cC, .slice oU us.length cU] 25))) := (Below.refl _ _).alloc (Nat.le_refl _) _
  have HP : Hid (∀ Y, Below (w.alloc (.cells #[.int .i64 t.a0, .int .i64 t.a1, .int .i64 t.a2, .int .i64 t.a3, .int .i64 t.a4, .int .i64 t.a5, .int .i64 t.a6, .int .i64 t.a7, .int .i64 t.a8, .int .i64 t.a9, .slice oC cs.length cC, .slice oU us.length cU] 25)).heap.size (w.alloc (.cells #[.int .i64 t.a0, .int .i64 t.a1, .int .i64 t.a2, .int .i64 t.a3, .int .i64 t.a4, .int .i64 t.a5, .int .i64 t.a6, .int .i64 t.a7, .int .i64 t.a8, .int .i64 t.a9, .slice oC cs.length cC, .slice oU us.length cU] 25)) Y → Y.rangeAt w.heap.size 0 [.int .i64 t.a0, .int .i64 t.a1, .int .i64 t.a2, .int .i64 t.a3, .int .i64 t.a4, .int .i64 t.a5, .int .i64 t.a6, .int .i64 t.a7, .int .i64 t.a8, .int .i64 t.a9, .slice oC cs.length cC, .slice oU us.length cU]) := fun Y hY => range_of ((hY.block w.heap.size (Array.getElem?_eq_some_iff.1 hb).1).trans hb)
  obtain ⟨R, hR⟩ : ∃ R, R = chV e t cs us := ⟨_, rfl⟩
  rw [← hR]
  unfold chV at hR
  have HR := hide hR
  generalize manyB cs us = q1 at *
  generalize fitB t cs us = q2 at *
  generalize twB cs us = q3 at *
  clear hb hK he hz hR
  go_enter Tryz.func6, Tryz.ntmps6
  have HR0 := hide (HP.out _ (Below.refl _ _))
  go_wp2_with (refine wpList_load_mid rfl 25 _ rfl w.heap.size 0 rfl _ _ HR0.out Tryz.underlying25 rfl sizeCf ?_)
  generalize w.alloc (.cells #[.int .i64 t.a0, .int .i64 t.a1, .int .i64 t.a2, .int .i64 t.a3, .int .i64 t.a4, .int .i64 t.a5, .int .i64 t.a6, .int .i64 t.a7, .int .i64 t.a8, .int .i64 t.a9, .slice oC cs.length cC, .slice oU us.length cU] 25) = V at *
  refine (HMA.out V HB.out).mono ?_
  rintro x w1 ⟨rfl, b1⟩
  have HV1 := hide b1
  have HB1 := hide (keepW HB.out b1)
  have HE1 := hide (HE.out.below HB1.out)
  have HR1 := hide (HP.out w1 b1)
  clear b1 HR0
  cases q1 with
  | true =>
    have c2 := HE1.out.t.sc.many
    go_wp2_with fail
    go_ret
    exact ⟨by rw [HR.out] <;> rfl, HB1.out⟩
  | false =>
    go_wp2_with (refine wpList_load_mid rfl 25 _ rfl w.heap.size 0 rfl _ _ HR1.out Tryz.underlying25 rfl sizeCf ?_)
    refine (HFI.out w1 HB1.out).mono ?_
    rintro x w2 ⟨rfl, b2⟩
    have HV2 := hide (keepW HV1.out b2)
    have HB2 := hide (keepW HB1.out b2)
    have HE2 := hide (HE.out.below HB2.out)
    have HR2 := hide (HP.out w2 HV2.out)
    clear b2 HR1
    cases q2 with
    | false =>
      have c2 := HE2.out.arg
      go_wp2_with fail
      go_ret
      exact ⟨by rw [HR.out] <;> rfl, HB2.out⟩
    | true =>
      go_wp2_with (refine wpList_load_mid rfl 25 _ rfl w.heap.size 0 rfl _ _ HR2.out Tryz.underlying25 rfl sizeCf ?_)
      refine (HTW.out w2 HB2.out).mono ?_
      rintro x w3 ⟨rfl, b3⟩
      have HB3 := hide (keepW HB2.out b3)
      have c3 := (HE.out.below HB3.out).two
      clear b3 HR2
      cases q3 with
      | true =>
        go_wp2_with fail
        go_ret
        exact ⟨by rw [HR.out] <;> rfl, HB3.out⟩
      | false =>
        go_wp2_with fail
        go_ret
        exact ⟨by rw [HR.out] <;> rfl, HB3.out⟩
end Go.Proofs.YtilhfmhjgfmejaaGreatDoor.rg
