import Derived.Test.YtlbhiefamnpphaaDoorJeW7
import Derived.Test.YtlbhiefamnpphaaDoorJeM2
namespace Go.Proofs.YtlbhiefamnpphaaDoor.je
open Go.ChangeShapes Go.WideShapes Go.ChangeAt Go.RowKit Go.Proofs.YtlbhiefamnpphaaDoor.common Go.Proofs.YtlbhiefamnpphaaDoor.Jc Go.Proofs.YtlbhiefamnpphaaDoor.jc
attribute [local go_sem ↓] Go.wp_at_zero Go.wp_at_succ

/-- the program's answer as a value -/
def prV (eT : Value) : Option Nat → Value
  | some n => .tuple #[.int .i64 (n : Int), .nilIface]
  | none => .tuple #[.int .i64 0, eT]
theorem cell_al {w : World} {g : Nat} {v : Value} (h : w.cell? ⟨g, 0, none⟩ = some v) {w' : World} (hb : Below w.heap.size w w') : w'.cell? ⟨g, 0, none⟩ = some v := cell_fr h hb

theorem fldY (a b c d f g h : Int) (W : World) : (Instr.field 26 (.agg #[.int .i64 a, .int .i64 b, .int .i64 c, .int .i64 d, .int .i64 f, .int .i64 g, .int .i64 h]) 0).run Tryd.prog W = .ok (.int .i64 a) W := by kernel_rfl

set_option maxRecDepth 100000 in
set_option maxHeartbeats 3200000 in
theorem readDate_no (l : List UInt8) (n : Int) (eA : Value) (w : World) (hA : w.cell? ⟨0, 0, none⟩ = some eA) (hn : secB n = false) : Calls Tryd.prog 10 #[.string (tx l), .int .i64 n] w fun e w' => e = .returned (.tuple #[.int .i64 0, eA]) ∧ Below w.heap.size w w' := by
  have HS := hide (isSecond_any n w)
  rw [hn] at HS
  clear hn
  generalize tx l = T at *
  go_enter Tryd.func10, Tryd.ntmps10
  go_wp2_with fail
  refine HS.out.mono ?_
  rintro e w0 ⟨rfl, rfl⟩
  go_wp2_with fail
  go_region
  all_goals (go_wp2_with fail)
  all_goals go_ret2
  all_goals exact ⟨rfl, (Below.refl _ _).drew⟩

set_option maxRecDepth 100000 in
set_option maxHeartbeats 6400000 in
theorem readDateP_any (l : List UInt8) (n : Nat) (x : Dt) (eT : Value) (hx : Is n x) (hn : n ≤ 253402300799) (w : World) (hM : MTab w) (hw : WTab w) (hf : FTab w) (ho : OTab w) (hE : w.cell? ⟨2, 0, none⟩ = some eT) :
    Calls Tryd.prog 10 #[.string (tx l), .int .i64 (n : Int)] w fun e w' => ∃ q, e = .returned (prV eT (prS q)) ∧ RdO l (min (x.y + 50) 9999) q ∧ Below w.heap.size w w' := by
  have hs : secB (n : Int) = true := by unfold secB; simp; omega
  have HS := hide (isSecond_any (n : Int) w)
  rw [hs] at HS
  have HD := hide (dateOf_any n w hM (by omega))
  have HX := hide hx
  have HRF : Hid (∀ W, Below w.heap.size w W → Calls Tryd.prog 16 #[.string (tx l), .int .i64 (x.y : Int)] W fun e w' => ∃ q, e = .returned (rdV q) ∧ RdO l (min (x.y + 50) 9999) q ∧ Below W.heap.size W w') := fun W hW => readForms_any l x.y _ rfl hx.ok.y0 (hx.year hn) W (hw.fr hW) (hf.fr hW) (ho.fr hW)
  have HMT : Hid (∀ W, Below w.heap.size w W → MTab W) := fun W hW => hM.fr hW
  have HET : Hid (∀ W, Below w.heap.size w W → W.cell? ⟨2, 0, none⟩ = some eT) := fun W hW => cell_fr hE hW
  clear hs hx hM hw hf ho hE
  generalize tx l = T at *
  go_enter Tryd.func10, Tryd.ntmps10
  go_wp2_with fail
  refine HS.out.mono ?_
  rintro e w0 ⟨rfl, rfl⟩
  go_wp2_with fail
  refine HD.out.mono ?_
  rintro e w1 ⟨z, rfl, hz, b1⟩
  have ez := hz.one HX.out
  subst ez
  have HB1 := hide b1
  have HR1 := hide (HRF.out _ b1)
  have hfy := fldY z.y z.m z.d z.h z.i z.s z.w w1
  clear b1 hz HRF HD HS
  unfold dv
  go_wp2_with fail
  refine HR1.out.mono ?_
  rintro e w2 ⟨q, rfl, hq, b2⟩
  have HQ := hide hq
  have HB2 := hide (keepW HB1.out b2 HB1.out.size)
  clear hq b2 HR1 HB1
  cases q with
  | none =>
    have BA : Below w0.heap.size w0 (w2.alloc (.cells #[.int .i64 0, .int .i64 0, .int .i64 0, .int .i64 0, .int .i64 0, .int .i64 0, .int .i64 0] 26)) := HB2.out.alloc HB2.out.size _
    have ce := HET.out _ BA
    have HBA := hide BA
    clear BA HET HMT
    unfold rdV dv
    go_wp2_with fail
    go_region
    all_goals (go_wp2_with fail)
    all_goals go_ret2
    all_goals exact ⟨none, rfl, HQ.out, HBA.out.drew⟩
  | some d =>
    have BA : Below w0.heap.size w0 (w2.alloc (ob d)) := HB2.out.alloc HB2.out.size _
    have ho1 := heap_new w2 (ob d)
    have HBA := hide BA
    obtain ⟨p0, p1, p2, p3, p4, p5, p6⟩ := obc ho1
    have HID := hide (isDate_any d.y d.m d.d d.h d.i d.s d.w (w2.alloc (ob d)) (HMT.out _ BA))
    have HOB := hide ho1
    cases hd : dateB d.y d.m d.d d.h d.i d.s d.w with
    | false =>
      rw [hd] at HID
      have HP : Hid (prS (some d) = none) := by show _ = _; unfold prS; simp only; rw [hd]; rfl
      clear BA ho1 hd
      unfold rdV dv
      unfold dI at HID
      go_wp2_with fail
      refine HID.out.mono ?_
      rintro e w3 ⟨rfl, b3⟩
      have HB3 := hide (keepW HBA.out b3 HBA.out.size)
      have ce := HET.out _ HB3.out
      clear b3 p0 p1 p2 p3 p4 p5 p6 HID HMT HET
      go_wp2_with fail
      go_region
      all_goals (go_wp2_with fail)
      all_goals go_ret2
      all_goals exact ⟨some d, by rw [HP.out]; rfl, HQ.out, HB3.out.drew⟩
    | true =>
      rw [hd] at HID
      have hm := mo_of (by unfold dateB at hd; simp only [Bool.and_eq_true] at hd; exact hd.1)
      have HP : Hid (prS (some d) = some d.sec) := by show _ = _; unfold prS; simp only; rw [hd]; rfl
      have HSO : Hid (∀ W, MTab W → Calls Tryd.prog 18 #[dI d.y d.m d.d d.h d.i d.s d.w] W fun q w' => q = .returned (.int .i64 (d.sec : Int)) ∧ Below W.heap.size W w') := fun W hW => by
        have k := secondOf_any d.y d.m d.d d.h d.i d.s d.w _ W hW hm
        rw [dt_nat] at k
        exact k
      clear BA ho1 hd hm
      unfold rdV dv
      unfold dI at HID HSO
      go_wp2_with fail
      refine HID.out.mono ?_
      rintro e w3 ⟨rfl, b3⟩
      have HB3 := hide (keepW HBA.out b3 HBA.out.size)
      obtain ⟨r0, r1, r2, r3, r4, r5, r6⟩ := obc (ob_fr HOB.out b3)
      have HSO3 := hide (HSO.out _ (HMT.out _ HB3.out))
      clear b3 p0 p1 p2 p3 p4 p5 p6 HID HMT HET HSO HOB
      go_wp2_with fail
      refine HSO3.out.mono ?_
      rintro e w4 ⟨rfl, b4⟩
      have HB4 := hide (keepW HB3.out b4 HB3.out.size)
      clear b4
      go_wp2_with fail
      go_ret2
      exact ⟨some d, by rw [HP.out]; rfl, HQ.out, HB4.out⟩
end Go.Proofs.YtlbhiefamnpphaaDoor.je
