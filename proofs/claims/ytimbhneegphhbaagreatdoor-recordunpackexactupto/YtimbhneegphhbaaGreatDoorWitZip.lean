import Derived.Test.YtimbhneegphhbaaGreatDoorRcDec
import Derived.Test.YtimbhneegphhbaaGreatDoorRcDecL
import Derived.Test.YtimbhneegphhbaaGreatDoorStrBase
import Derived.Lay
import Derived.Deep.DeepWitnessRowRef
namespace Go.Proofs.YtimbhneegphhbaaGreatDoor.rc
open Go.ChangeShapes Go.WideShapes Go.ChangeAt Go.RowKit Go.Proofs.YtimbhneegphhbaaGreatDoor.common Go.Proofs.YtimbhneegphhbaaGreatDoor.ss
attribute [local go_sem ↓] Go.wp_at_zero Go.wp_at_succ

set_option maxRecDepth 100000 in
set_option maxHeartbeats 6400000 in
theorem sameRecs_any (l : List Rec) (va vb : Value) (w : World) (ha : LiesR w va l) (hb : LiesR w vb l) (hs : ∀ r ∈ l, r.ss.length ≤ 4611686018427387904) (hn : l.length ≤ 4611686018427387904) :
    Calls Tryz.prog 10 #[va, vb] w fun e w' => e = .returned (.bool true) ∧ Below w.heap.size w w' := by
  obtain ⟨oa, ca, hva⟩ : ∃ oa ca, va = .slice oa l.length ca := by obtain ⟨a, b, h, _⟩ := ha; exact ⟨a, b, h⟩
  obtain ⟨ob, cb, hvb⟩ : ∃ ob cb, vb = .slice ob l.length cb := by obtain ⟨a, b, h, _⟩ := hb; exact ⟨a, b, h⟩
  have HA : Hid (∀ X, Below w.heap.size w X → LiesR X va l) := fun X hX => ha.below hX
  have HB : Hid (∀ X, Below w.heap.size w X → LiesR X vb l) := fun X hX => hb.below hX
  have HS := hide hs
  clear ha hb hs
  subst hva hvb
  go_enter Tryz.func10, Tryz.ntmps10
  go_wp2_with fail
  go_loopw [5] (fun i wr => ∃ k : Nat, k ≤ l.length ∧ i = .int .i64 k ∧ Below w.heap.size w wr) (fun i _ => l.length - (intOf i).toNat)
  case atStart => exact ⟨0, Nat.zero_le _, rfl, Below.refl _ _⟩
  case round =>
    obtain ⟨k, hk, rfl, hbl⟩ := hrel
    have HBL := hide hbl
    by_cases hlt : k < l.length
    · have j0 : (0 : Int) ≤ (k : Int) := Int.natCast_nonneg _
      have j1 : (k : Int) < (l.length : Int) := by omega
      obtain ⟨_, _, hq, hcc⟩ := HA.out wr hbl
      cases hq
      obtain ⟨g, o, vi, rfl, hg, hrg, hli⟩ := hcc k hlt
      obtain ⟨_, _, hq, hcc2⟩ := HB.out wr hbl
      cases hq
      obtain ⟨g2, o2, vi2, rfl, hg2, hrg2, hli2⟩ := hcc2 k hlt
      obtain ⟨os, cs, rfl⟩ := Lies.len hli
      obtain ⟨os2, cs2, rfl⟩ := Lies.len hli2
      have hsm := HS.out _ (List.getElem_mem hlt)
      generalize l[k]'hlt = r at *
      obtain ⟨f, hf, hg9⟩ := class_of wr
      have HSA : Hid (∀ n, Calls Tryz.prog 15 #[.agg (rcs r (.slice os r.ss.length cs)), .agg (rcs r (.slice os2 r.ss.length cs2))] (f n) fun e w' => e = .returned (.bool true) ∧ ∃ m, w' = f m) := fun n => (sameRec_any r _ _ (f n) (hli.below (hf n)) (hli2.below (hf n)) hsm).mono (fun e w1 h => ⟨h.1, w1, (hg9 _ (keepW (hf n) h.2)).symm⟩)
      have e00 : ∀ n, (f n).cell? ⟨g, o + k * 9, none⟩ = some (.int .i64 r.k) := fun n => ((hf n).cell (p := ⟨g, o + k * 9, none⟩) hg).trans (hrg 0 _ rfl)
      have e01 : ∀ n, (f n).cell? ⟨g, o + k * 9 + 1, none⟩ = some (.string r.id) := fun n => ((hf n).cell (p := ⟨g, o + k * 9 + 1, none⟩) hg).trans (hrg 1 _ rfl)
      have e02 : ∀ n, (f n).cell? ⟨g, o + k * 9 + 2, none⟩ = some (.string r.us) := fun n => ((hf n).cell (p := ⟨g, o + k * 9 + 2, none⟩) hg).trans (hrg 2 _ rfl)
      have e03 : ∀ n, (f n).cell? ⟨g, o + k * 9 + 3, none⟩ = some (.string r.cl) := fun n => ((hf n).cell (p := ⟨g, o + k * 9 + 3, none⟩) hg).trans (hrg 3 _ rfl)
      have e04 : ∀ n, (f n).cell? ⟨g, o + k * 9 + 4, none⟩ = some (.string r.rd) := fun n => ((hf n).cell (p := ⟨g, o + k * 9 + 4, none⟩) hg).trans (hrg 4 _ rfl)
      have e05 : ∀ n, (f n).cell? ⟨g, o + k * 9 + 5, none⟩ = some (.string r.ch) := fun n => ((hf n).cell (p := ⟨g, o + k * 9 + 5, none⟩) hg).trans (hrg 5 _ rfl)
      have e06 : ∀ n, (f n).cell? ⟨g, o + k * 9 + 6, none⟩ = some (.string r.cd) := fun n => ((hf n).cell (p := ⟨g, o + k * 9 + 6, none⟩) hg).trans (hrg 6 _ rfl)
      have e07 : ∀ n, (f n).cell? ⟨g, o + k * 9 + 7, none⟩ = some (.slice os r.ss.length cs) := fun n => ((hf n).cell (p := ⟨g, o + k * 9 + 7, none⟩) hg).trans (hrg 7 _ rfl)
      have e08 : ∀ n, (f n).cell? ⟨g, o + k * 9 + 8, none⟩ = some (.int .i64 r.at_) := fun n => ((hf n).cell (p := ⟨g, o + k * 9 + 8, none⟩) hg).trans (hrg 8 _ rfl)
      have e10 : ∀ n, (f n).cell? ⟨g2, o2 + k * 9, none⟩ = some (.int .i64 r.k) := fun n => ((hf n).cell (p := ⟨g2, o2 + k * 9, none⟩) hg2).trans (hrg2 0 _ rfl)
      have e11 : ∀ n, (f n).cell? ⟨g2, o2 + k * 9 + 1, none⟩ = some (.string r.id) := fun n => ((hf n).cell (p := ⟨g2, o2 + k * 9 + 1, none⟩) hg2).trans (hrg2 1 _ rfl)
      have e12 : ∀ n, (f n).cell? ⟨g2, o2 + k * 9 + 2, none⟩ = some (.string r.us) := fun n => ((hf n).cell (p := ⟨g2, o2 + k * 9 + 2, none⟩) hg2).trans (hrg2 2 _ rfl)
      have e13 : ∀ n, (f n).cell? ⟨g2, o2 + k * 9 + 3, none⟩ = some (.string r.cl) := fun n => ((hf n).cell (p := ⟨g2, o2 + k * 9 + 3, none⟩) hg2).trans (hrg2 3 _ rfl)
      have e14 : ∀ n, (f n).cell? ⟨g2, o2 + k * 9 + 4, none⟩ = some (.string r.rd) := fun n => ((hf n).cell (p := ⟨g2, o2 + k * 9 + 4, none⟩) hg2).trans (hrg2 4 _ rfl)
      have e15 : ∀ n, (f n).cell? ⟨g2, o2 + k * 9 + 5, none⟩ = some (.string r.ch) := fun n => ((hf n).cell (p := ⟨g2, o2 + k * 9 + 5, none⟩) hg2).trans (hrg2 5 _ rfl)
      have e16 : ∀ n, (f n).cell? ⟨g2, o2 + k * 9 + 6, none⟩ = some (.string r.cd) := fun n => ((hf n).cell (p := ⟨g2, o2 + k * 9 + 6, none⟩) hg2).trans (hrg2 6 _ rfl)
      have e17 : ∀ n, (f n).cell? ⟨g2, o2 + k * 9 + 7, none⟩ = some (.slice os2 r.ss.length cs2) := fun n => ((hf n).cell (p := ⟨g2, o2 + k * 9 + 7, none⟩) hg2).trans (hrg2 7 _ rfl)
      have e18 : ∀ n, (f n).cell? ⟨g2, o2 + k * 9 + 8, none⟩ = some (.int .i64 r.at_) := fun n => ((hf n).cell (p := ⟨g2, o2 + k * 9 + 8, none⟩) hg2).trans (hrg2 8 _ rfl)
      have HD : Hid (wr.drew = f wr.drew) := (hg9 _ (Below.refl _ _).drew).symm
      have HFB := hide hf
      haveI : Nonempty World := ⟨w⟩
      clear hbl hcc hrg hli hcc2 hrg2 hli2 hf hg9 hg hg2
      go_wp2_with fail
      refine wp_region_cls f (by kernel_rfl) (by kernel_rfl) _ HD.out ?_
      repeat (go_big_quiet_step (with_reducible exact HSA.out _))
      refine wpQuiet_nil ?_
      rintro _ ⟨nq, rfl⟩
      go_wp2_with fail
      go_roundw
      case rel => exact ⟨k + 1, by omega, by go_num, keepW HBL.out (HFB.out nq)⟩
      case measure => simp [intOf]; omega
    · obtain rfl : k = l.length := by omega
      clear hbl
      have j1 : ¬ (l.length : Int) < (l.length : Int) := by omega
      go_wp2_with fail
      go_ret
      exact ⟨rfl, HBL.out⟩
end Go.Proofs.YtimbhneegphhbaaGreatDoor.rc

namespace Go.Proofs.YtimbhneegphhbaaGreatDoor.rc
open Go.ChangeShapes Go.WideShapes Go.ChangeAt Go.RowKit Go.Proofs.YtimbhneegphhbaaGreatDoor.common Go.Proofs.YtimbhneegphhbaaGreatDoor.dk
attribute [local go_sem ↓] Go.wp_at_zero Go.wp_at_succ

set_option maxRecDepth 100000 in
set_option maxHeartbeats 12800000 in
theorem lawUnpack (l : List UInt8) (v : Value) (w : World) (e : Nat → Addr) (hv : Lo w.heap.size w v l) (hl : l.length ≤ 1048576) (he : Env (e 1) (e 2) (errw.E e 0) w) (hE : errw.Errs w e) (ht : HTab w) :
    Calls Tryz.prog 5 #[v] w fun x w' => x = .returned (.bool true) ∧ Below w.heap.size w w' := by
  have HENV : Hid (∀ X, Below w.heap.size w X → Env (e 1) (e 2) (errw.E e 0) X ∧ errw.Errs X e ∧ HTab X) := fun X hX => ⟨he.below hX, hE.below hX, ht.below hX⟩
  have HV := hide hv
  have HLB := hide (lentBytes_any l v w hv.rd hl)
  obtain ⟨ov, cv, hvv⟩ : ∃ ov cv, v = .slice ov l.length cv := by obtain ⟨a, b, h, _⟩ := hv; exact ⟨a, b, h⟩
  subst hvv
  clear hv he hE ht
  go_enter Tryz.func5, Tryz.ntmps5
  go_wp2_with fail
  refine HLB.out.mono ?_
  rintro x w1 ⟨va, rfl, owna, b1⟩
  have hlen : (l ++ m77).length = l.length + 4 := by simp
  obtain ⟨g, cap, rfl, hg0, hg, hc, hr⟩ := row_bytes owna (by simp)
  rw [hlen] at hc
  have hlo : Lo w1.heap.size w1 (.slice (some ⟨g, 0, none⟩) l.length cap) l := by
    have h1 := rd_part (k := 0) (n := l.length) (cap := cap) hr hg (by rw [hlen]; omega)
    rw [List.drop_zero, List.take_left] at h1
    obtain ⟨oa, c, hq, h2⟩ := h1
    cases hq
    exact ⟨_, cap, rfl, by omega, fun h0 => by obtain ⟨g', o', e1, e2, e3⟩ := h2 h0; exact ⟨g', o', e1, e2, e2, e3⟩⟩
  have HOA : Hid (w1.ownsRow w.heap.size 5 1 (.slice (some ⟨g, 0, none⟩) (l.length + 4) cap) (l ++ m77).length ((l ++ m77).map B)) := by
    show World.ownsRow _ _ _ _ _ _ _
    rw [hlen] at owna ⊢
    exact owna
  have HB1 := hide b1
  have HDE := hide (unpack_any l _ (e 1) (e 2) e w1 hlo hl (HENV.out w1 b1).1 ((HENV.out w1 b1).2.1.cell 1 (by decide)))
  unfold UnOut at HDE
  rw [hlen]
  have k0 : (0 : Int) ≤ (l.length : Int) := Int.natCast_nonneg _
  have k1 : (l.length : Int) ≤ (cap : Int) := by omega
  clear owna b1 hlen hc hr hlo HLB
  go_wp2_with fail
  refine HDE.out.mono ?_
  rintro x w2 ⟨o1, v1, rfl, lie1, b2, hd1⟩
  obtain ⟨R1, hR1⟩ : ∃ R1, R1 = o1.getD [] := ⟨_, rfl⟩
  obtain ⟨E1, hE1⟩ : ∃ E1, E1 = (if o1.isSome then Value.nilIface else errw.E e 1) := ⟨_, rfl⟩
  rw [← hR1] at lie1
  rw [← hE1]
  obtain ⟨oo1, cc1, hv1⟩ : ∃ oo1 cc1, v1 = .slice oo1 R1.length cc1 := by obtain ⟨a, b, h, _⟩ := lie1; exact ⟨a, b, h⟩
  subst hv1
  have HB2 := hide (keepW HB1.out b2)
  have HOA2 := hide (own_below HOA.out b2)
  have HL1 := hide lie1
  have HDF := hide (refUnpack_any l (.slice ov l.length cv) w2 (by
    obtain ⟨oa, c, hq, hcap, h2⟩ := HV.out
    cases hq
    exact ⟨_, _, rfl, hcap, fun h0 => by obtain ⟨g', o', e1, e2, e3, e4⟩ := h2 h0; exact ⟨g', o', e1, Nat.lt_of_lt_of_le e2 HB2.out.size, Nat.lt_of_lt_of_le e3 HB2.out.size, range_block e4 (HB2.out.block g' e3)⟩⟩) hl (HENV.out w2 HB2.out).2.2)
  unfold UnOut at HDF
  have HD1 := hide hd1
  have HR1 := hide hR1
  have HE1 := hide hE1
  clear lie1 b2 hd1 hR1 hE1 HDE HOA
  go_wp2_with fail
  refine HDF.out.mono ?_
  rintro x w3 ⟨o2, v2, rfl, lie2, b3, hd2⟩
  have h12 : o2 = o1 := hd2.one HD1.out
  subst h12
  rw [← HR1.out] at lie2
  obtain ⟨oo2, cc2, hv2⟩ : ∃ oo2 cc2, v2 = .slice oo2 R1.length cc2 := by obtain ⟨a, b, h, _⟩ := lie2; exact ⟨a, b, h⟩
  subst hv2
  obtain ⟨E2, hE2⟩ : ∃ E2 : Int, E2 = (if o2.isSome then 0 else 2) := ⟨_, rfl⟩
  have hE2v : (if o2.isSome then Value.int .i64 0 else .int .i64 2) = .int .i64 E2 := by rw [hE2]; cases o2 <;> rfl
  rw [hE2v]
  have hgood : GoodL R1 ∧ R1.length ≤ 4 := by
    rw [HR1.out]
    cases o2 with
    | none => exact ⟨fun r hr => (by cases hr), Nat.zero_le _⟩
    | some y => exact ⟨(HD1.out.is y rfl).2.2.1, (HD1.out.is y rfl).2.1⟩
  have HB3 := hide (keepW HB2.out b3)
  have HSR := hide (sameRecs_any R1 _ _ w3 (HL1.out.below b3) lie2 (fun r hr => by have := (hgood.1 r hr).2.2; omega) (by omega))
  have HOA3 := hide (own_below HOA2.out b3)
  have HE2 := hide hE2
  clear lie2 b3 hd2 hE2 hE2v HDF HL1 HOA2 hgood
  go_wp2_with fail
  refine HSR.out.mono ?_
  rintro x w4 ⟨rfl, b4⟩
  have HB4 := hide (keepW HB3.out b4)
  have HNU : Hid (Calls Tryz.prog 11 #[E1] w4 fun x w' => x = .returned (.int .i64 E2) ∧ w' = w4) := by
    show Calls _ _ _ _ _
    rw [HE1.out, HE2.out]
    cases o2 with
    | none => exact errw.num_1 w4 e (HENV.out w4 HB4.out).2.1
    | some r => exact errw.num_nil w4
  have HWH := hide (whole_any l g cap w.heap.size (.slice ov l.length cv) w4 (own_below HOA3.out b4) (HV.out.rd.below HB4.out) hl)
  clear b4 HSR HOA3
  go_wp2_with (first
    | (go_at_call 11; refine HNU.out.mono ?_; rintro x w9 ⟨rfl, h9⟩; obtain rfl := h9.symm)
    | (go_at_call 16; refine HWH.out.mono ?_; rintro x w5 ⟨rfl, b5⟩))
  go_ret
  exact ⟨by simp, keepW HB4.out b5⟩
end Go.Proofs.YtimbhneegphhbaaGreatDoor.rc

namespace Go.Proofs.YtimbhneegphhbaaGreatDoor.fd
open Go
section
variable {H : Type} {enc : TypeId × Value → H}
/-- there is an input that fits, at a world whose shape is told in one pass -/
theorem witness_row_zip {C : Checked} {os : Os} {f : FuncId} {fn : Func} {s : OpenSpec} {conds : List PathCond} {apart : Bool} {laid : List (String × DataW Unit)} (modest : Bool) (w0 : World) (args : Array Value) (hos : w0.os = os)
    (hv : (w0.forCall (fun _ _ => 0) ⟨#[], args, []⟩).variablesZipB C.prog = true)
    (hr : ((w0.forCall (fun _ _ => 0) ⟨#[], args, []⟩).heap.toList.drop C.prog.globals.size).take ((begin C.prog (fun _ _ => 0) default).world.heap.size - C.prog.globals.size) =
      (begin C.prog (fun _ _ => 0) default).world.heap.toList.drop C.prog.globals.size)
    (hok : Input.okWideB C.prog (w0.forCall (fun _ _ => 0) ⟨#[], args, []⟩) f ⟨#[], args, []⟩ = true)
    (hrow : s.preRow enc C.prog fn conds apart laid (w0.forCall (fun _ _ => 0) ⟨#[], args, []⟩).memory args) :
    ∃ (w : World) (tape : Tape) (i : Input), w.os = os ∧ (w.forCall tape i).Shaped C.prog ∧ i.vars = [] ∧ Input.okWide C.prog (w.forCall tape i) .any w.heap.size f i ∧
      s.preRow enc C.prog fn conds apart laid (w.forCall tape i).memory i.args ∧ ({ modest := modest } : Assume).holds C.prog (lone (Frame.enter C.prog f i.args .normal) [] (w.forCall tape i)) :=
  ⟨w0, fun _ _ => 0, ⟨#[], args, []⟩, hos, World.shaped_of_ZipB hv hr, (Input.okWide_of_okWideB (base := 0) hok).1, (Input.okWide_of_okWideB hok).2, hrow, by
    simp only [Assume.holds]
    exact ⟨by simp, by simp, fun _ => Modest.zero, by simp, by simp⟩⟩
end
end Go.Proofs.YtimbhneegphhbaaGreatDoor.fd
