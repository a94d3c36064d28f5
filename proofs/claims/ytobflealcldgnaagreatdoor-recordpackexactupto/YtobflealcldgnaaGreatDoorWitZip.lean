import Derived.Test.YtobflealcldgnaaGreatDoorRcTwins
import Derived.Test.YtobflealcldgnaaGreatDoorRdSame
import Derived.Test.YtobflealcldgnaaGreatDoorStrBase
import Derived.Lay
import Derived.Deep.DeepWitnessRowRef
namespace Go.Proofs.YtobflealcldgnaaGreatDoor.rc
open Go.ChangeShapes Go.WideShapes Go.ChangeAt Go.RowKit Go.Proofs.YtobflealcldgnaaGreatDoor.common Go.Proofs.YtobflealcldgnaaGreatDoor.ss
attribute [local go_sem ↓] Go.wp_at_zero Go.wp_at_succ

/-- the mark -/
def r77 : Rec := ⟨77, ⟨#[]⟩, ⟨#[]⟩, ⟨#[]⟩, ⟨#[]⟩, ⟨#[]⟩, ⟨#[]⟩, [], 0⟩
theorem pkL_len (l : List Rec) (hz : ∀ r ∈ l, r.Small ∧ r.Low) : (pkL l).length ≤ 200000000 := by
  unfold pkL
  by_cases h4 : 4 < l.length
  · rw [if_pos h4]; simp
  rw [if_neg h4]
  by_cases h0 : l.length = 0
  · rw [if_pos h0]; simp
  rw [if_neg h0]
  cases hp : pkOk l with
  | false => simp
  | true =>
    have hall : ∀ r ∈ l, mayB r = true := by unfold pkOk at hp; exact List.all_eq_true.1 hp
    have h1 := flat_one l (fun r hr => ⟨(hz r hr).2, (fine_of (hall r hr) (hz r hr).2).2.2.len⟩)
    have h2 : (numL l.length).length ≤ 10 := (numF_len 9 _).2
    have h3 := Nat.mul_le_mul_right 30000010 (show l.length ≤ 4 by omega)
    simp only [if_true, List.length_append]
    omega
theorem pkE_cases (l : List Rec) : pkE l = 0 ∨ pkE l = 1 ∨ pkE l = 3 := by
  unfold pkE
  split
  · exact Or.inr (Or.inr rfl)
  split
  · exact Or.inr (Or.inl rfl)
  split
  · exact Or.inl rfl
  · exact Or.inr (Or.inl rfl)
abbrev c77 : Array Value := #[.int .i64 77, .string ⟨#[]⟩, .string ⟨#[]⟩, .string ⟨#[]⟩, .string ⟨#[]⟩, .string ⟨#[]⟩, .string ⟨#[]⟩, .slice none 0 0, .int .i64 0]
abbrev l77 : List Value := [.int .i64 77, .string ⟨#[]⟩, .string ⟨#[]⟩, .string ⟨#[]⟩, .string ⟨#[]⟩, .string ⟨#[]⟩, .string ⟨#[]⟩, .slice none 0 0, .int .i64 0]
theorem e77a : rcs r77 (.slice none 0 0) = c77 := rfl
theorem e77l : rcl9 r77 (.slice none 0 0) = l77 := rfl
theorem rep_snoc (k : Nat) : List.replicate (k + 1) r77 = List.replicate k r77 ++ [r77] := by rw [List.replicate_succ']
/-- the cell of a mark behind them -/
theorem OwnR.kind {base : Nat} {w : World} {oa : Option Addr} {m cap : Nat} {l : List Rec} {s : List Value} (h : OwnR base w (.slice oa m cap) l s) (i : Nat) (hi : i < l.length) : ∃ g, oa = some ⟨g, 0, none⟩ ∧ g < w.heap.size ∧ w.cell? ⟨g, i * 9, none⟩ = some (.int .i64 l[i].k) := by
  rcases h.row.2 with ⟨hq, h0⟩ | ⟨g, cap', cur, hq, hg, hh, _⟩
  · omega
  · have hc := h.row.cells (g := g) (by rw [hq]; rfl)
    cases hq
    have := hc _ _ (rcc_get l s h.len i hi 0 (.int .i64 l[i].k) rfl)
    rw [Addr.add_mid, Nat.zero_add, Nat.add_zero] at this
    exact ⟨g, rfl, (Array.getElem?_eq_some_iff.1 hh).1, this⟩
theorem OwnR.cap {base : Nat} {w : World} {oa : Option Addr} {m cap : Nat} {l : List Rec} {s : List Value} (h : OwnR base w (.slice oa m cap) l s) : l.length ≤ cap ∧ m = l.length := by
  rcases h.row.2 with ⟨hq, h0⟩ | ⟨g, cap', cur, hq, hg, hh, hn, _⟩
  · cases hq; exact ⟨by omega, h0.symm⟩
  · cases hq; exact ⟨hn, rfl⟩

set_option maxRecDepth 100000 in
set_option maxHeartbeats 12800000 in
theorem lawPack (l : List Rec) (v : Value) (w : World) (e : Nat → Addr) (hv : LiesR w v l) (hz : ∀ r ∈ l, r.Small ∧ r.Low) (hs : ∀ r ∈ l, r.ss.length * 16 ≤ 140737488355328) (hn : (l.length + 4) * 136 ≤ 140737488355328) (he : Env (e 1) (e 2) (errw.E e 0) w) (hE : errw.Errs w e) (ht : HTab w) :
    Calls Tryz.prog 3 #[v] w fun x w' => x = .returned (.bool true) ∧ Below w.heap.size w w' := by
  obtain ⟨i0, hi, hz0, hz1, hz2⟩ := info_parts infoRc
  have HENV : Hid (∀ X, Below w.heap.size w X → Env (e 1) (e 2) (errw.E e 0) X ∧ errw.Errs X e ∧ HTab X) := fun X hX => ⟨he.below hX, hE.below hX, ht.below hX⟩
  have HV : Hid (∀ X, Below w.heap.size w X → LiesR X v l) := fun X hX => hv.below hX
  have HZ := hide hz
  have HS : Hid (∀ r ∈ l, r.ss.length ≤ 4611686018427387904) := fun r hr => (hz r hr).1.len
  have HTW := hide (twins_any l v w hv hs hn)
  obtain ⟨ov, cv, hvv⟩ : ∃ ov cv, v = .slice ov l.length cv := by obtain ⟨a, b, h, _⟩ := hv; exact ⟨a, b, h⟩
  have hPL := pkL_len l hz
  have HPC := hide (pkE_cases l)
  clear hv hz hs he hE ht
  subst hvv
  go_enter Tryz.func3, Tryz.ntmps3
  go_wp2_with fail
  refine HTW.out.mono ?_
  rintro x w1 ⟨v1, s1, rfl, own1, b1⟩
  obtain ⟨o1, c1, rfl⟩ := own_slice own1.row
  have HO1 := hide own1
  have HB1 := hide b1
  clear own1 b1 HTW
  go_wp2_with fail
  go_loopw [3, 4] (fun vo i wr => ∃ (k : Nat) (s : List Value), k ≤ 4 ∧ i = .int .i64 (k : Int) ∧ OwnR w.heap.size wr vo (l ++ List.replicate k r77) s ∧ Below w.heap.size w wr) (fun _ i _ => 4 - (intOf i).toNat)
  case atStart => exact ⟨0, s1, Nat.zero_le _, rfl, by rw [List.replicate_zero, List.append_nil]; exact HO1.out, HB1.out⟩
  case round =>
    obtain ⟨k, s, hk, rfl, hown, hbl⟩ := hrel
    obtain ⟨oo, co, rfl⟩ := own_slice hown.row
    have hll : (l ++ List.replicate k r77).length = l.length + k := by rw [List.length_append, List.length_replicate]
    rw [hll] at hown ⊢
    have hsz := hbl.size
    have HBL := hide hbl
    by_cases hlt : k < 4
    · have j1 : (k : Int) < 4 := by omega
      have HSN : Hid (l ++ List.replicate (k + 1) r77 = (l ++ List.replicate k r77) ++ [r77]) := by show _ = _; rw [rep_snoc, List.append_assoc]
      have bX : Below wr.heap.size wr (wr.alloc (.cells (rcs r77 (.slice none 0 0)) 26)) := (Below.refl _ _).alloc (Nat.le_refl _) _
      have HO2 := hide (hown.below bX)
      have HROW := hide HO2.out.row
      rw [hll, e77a] at HROW
      have HC9 := hide (cells9 wr r77 (.slice none 0 0) 26)
      rw [e77a, e77l] at HC9
      have HBX := hide (keepW hbl bX)
      rw [e77a] at HBX HO2
      have HLL := hide hll
      clear hown hbl bX hll
      go_wp2_with (at_builtin; refine wpList_append_own _ rfl _ _ 22 rfl w.heap.size 26 i0 (.agg zrec) 9 136 Tryz.underlying22 hi hz0 hz1 hz2 rfl (by decide) _ (l.length + k) _ rfl HROW.out ⟨wr.heap.size, 0, none⟩ 1 1 l77 rfl rfl HC9.out (rcl_one r77 none 0 0) ?c3 ?c4 ?c5 ?_)
      case c3 => unfold maxLen; omega
      case c4 => exact Nat.le_trans (Nat.mul_le_mul_right 136 (by omega)) hn
      case c5 => first | omega | (simp; omega)
      intro v' w2 hown' hgrow _
      have HN : Hid (OwnR w.heap.size w2 v' (l ++ List.replicate (k + 1) r77) (s ++ [.slice none 0 0])) := by
        show OwnR _ _ _ _ _
        rw [HSN.out]
        exact HO2.out.snoc r77 _ (World.ownsRow_nil _ _ _ _) (by rw [HLL.out]; exact hown') hgrow
      have HB2 : Hid (Below w.heap.size w w2) := HBX.out.grown hgrow (by simp; omega) (fun b hb => (HROW.out.lt b hb).1)
      clear hown' hgrow HROW HC9 HO2 HBX
      go_wp2_with fail
      go_roundw
      case rel => exact ⟨k + 1, _, by omega, by go_num, HN.out, HB2.out⟩
      case measure => simp [intOf]; omega
    · obtain rfl : k = 4 := by omega
      have hcap := hown.cap.1
      rw [hll] at hcap
      have HO := hide hown
      have HLA : Hid (∀ X, Below wr.heap.size wr X → LiesR X (.slice oo l.length co) l) := fun X hX => by
        have := (HO.out.below hX).lies l.length (by rw [List.length_append]; omega)
        rwa [List.take_left] at this
      have n0 : (0 : Int) ≤ (l.length : Int) := Int.natCast_nonneg _
      have n1 : (l.length : Int) ≤ (co : Int) := by omega
      have HPK := hide (pack_any l (.slice oo l.length co) (e 1) (e 2) e wr (HLA.out wr (Below.refl _ _)) HZ.out (HENV.out wr hbl).1 ((HENV.out wr hbl).2.1.cell 2 (by decide)))
      unfold PackOut at HPK
      dsimp only at HPK
      obtain ⟨R, hR⟩ : ∃ R, R = (if pkE l = 0 then Value.nilIface else errw.E e (pkE l - 1)) := ⟨_, rfl⟩
      rw [← hR] at HPK
      have HRR := hide hR
      have HLL := hide hll
      clear hown hbl hR hll
      go_wp2_with fail
      refine HPK.out.mono ?_
      rintro x y1 ⟨vp, rfl, ownp, b1⟩
      obtain ⟨op, cp, rfl⟩ := own_slice ownp
      have HOP := hide ownp
      have HB1 := hide b1
      have HRP := hide (refPack_any l (.slice ov l.length cv) y1 (HV.out y1 (keepW HBL.out b1)) HZ.out (HENV.out y1 (keepW HBL.out b1)).2.2)
      unfold PackOut at HRP
      dsimp only at HRP
      obtain ⟨N, hN⟩ : ∃ N, N = pkE l := ⟨_, rfl⟩
      rw [← hN] at HRP
      have HNN := hide hN
      clear ownp b1 hN HPK
      go_wp2_with fail
      refine HRP.out.mono ?_
      rintro x y2 ⟨vq, rfl, ownq, b2⟩
      obtain ⟨oq, cq, rfl⟩ := own_slice ownq
      have HSB := hide (dk.sameBytes_eq y2 _ _ (pkL l) (dk.rd_own (dk.own_below HOP.out b2)) (dk.rd_own ownq) (by omega))
      have HB2 := hide (keepW HB1.out b2)
      clear ownq b2 HRP HOP HB1
      go_wp2_with fail
      refine HSB.out.mono ?_
      rintro x y3 ⟨rfl, b3⟩
      have HB3 := hide (keepW HB2.out b3)
      have HSR := hide (sameRecs_any l (.slice oo l.length co) (.slice ov l.length cv) y3 (HLA.out y3 HB3.out) (HV.out y3 (keepW HBL.out HB3.out)) HS.out (by omega))
      clear b3 HSB HB2
      go_wp2_with fail
      refine HSR.out.mono ?_
      rintro x y4 ⟨rfl, b4⟩
      have HB4 := hide (keepW HB3.out b4)
      have HO4 := hide (HO.out.below HB4.out)
      clear b4 HSR HB3
      go_wp2_with fail
      go_loopw [10, 11] (fun kp i wz => ∃ j : Nat, j ≤ 4 ∧ i = .int .i64 ((l.length + j : Nat) : Int) ∧ kp = .bool true ∧ wz = y4) (fun _ i _ => l.length + 4 - (intOf i).toNat)
      case atStart => exact ⟨0, Nat.zero_le _, rfl, rfl, rfl⟩
      case round =>
        obtain ⟨j, hj, rfl, rfl, h9⟩ := hrel
        obtain rfl := h9.symm
        by_cases hlt2 : j < 4
        · obtain ⟨g, rfl, hg, ck⟩ := HO4.out.kind (l.length + j) (by rw [HLL.out]; omega)
          have h77 : (l ++ List.replicate 4 r77)[l.length + j]'(by rw [List.length_append, List.length_replicate]; omega) = r77 := by
            rw [List.getElem_append_right (by omega)]
            exact List.getElem_replicate ..
          rw [h77] at ck
          have ck' : y4.cell? ⟨g, (l.length + j) * 9, none⟩ = some (.int .i64 77) := ck
          have q0 : (0 : Int) ≤ ((l.length + j : Nat) : Int) := Int.natCast_nonneg _
          have q1 : ((l.length + j : Nat) : Int) < ((l.length + 4 : Nat) : Int) := by omega
          clear ck h77
          obtain ⟨M, hM⟩ : ∃ M, M = l.length + j := ⟨_, rfl⟩
          obtain ⟨T, hT⟩ : ∃ T, T = l.length + 4 := ⟨_, rfl⟩
          have hM1 : M + 1 = l.length + (j + 1) := by omega
          have hM2 : l.length + 4 - (M + 1) < l.length + 4 - M := by omega
          have hMs : M ≤ 4611686018427387904 := by omega
          rw [← hM, ← hT] at q1
          rw [← hM] at ck' q0 ⊢
          rw [← hT] at hM2 ⊢
          have HM1 := hide hM1
          have HM2 := hide hM2
          clear hM hM1 hM2 hT
          go_wp2_with fail
          go_roundw
          case rel => exact ⟨j + 1, by omega, by rw [← HM1.out]; go_num, by trivial, by trivial⟩
          case measure => have := HM2.out; simp [intOf]; omega
        · obtain rfl : j = 4 := by omega
          have HNU : Hid (Calls Tryz.prog 9 #[R] y4 fun x w' => x = .returned (.int .i64 (N : Int)) ∧ w' = y4) := by
            show Calls _ _ _ _ _
            rw [HRR.out, HNN.out]
            rcases HPC.out with h | h | h
            · rw [h]; exact errw.num_nil y4
            · rw [h]; exact errw.num_0 y4 e (HENV.out y4 (keepW HBL.out HB4.out)).2.1
            · rw [h]; exact errw.num_2 y4 e (HENV.out y4 (keepW HBL.out HB4.out)).2.1
          have q1 : ¬ ((l.length + 4 : Nat) : Int) < ((l.length + 4 : Nat) : Int) := by omega
          go_wp2_with (go_at_call 9; refine HNU.out.mono ?_; rintro x y5 ⟨rfl, h5⟩; obtain rfl := h5.symm)
          go_ret
          exact ⟨by simp, keepW HBL.out HB4.out⟩
end Go.Proofs.YtobflealcldgnaaGreatDoor.rc

namespace Go.Proofs.YtobflealcldgnaaGreatDoor.fd
open Go
section
variable {H : Type} {enc : TypeId × Value → H}
/-- there is an input that fits, at a world whose shape is told in one pass -/
theorem witness_row_zip {C : Checked} {os : Os} {f : FuncId} {fn : Func} {s : OpenSpec} {conds : List PathCond} {apart : Bool} {laid : List (String × DataW Unit)} (modest : Bool) (w0 : World) (args : Array Value) (hos : w0.os = os)
    (hv : (w0.forCall (fun _ _ => 0) ⟨#[], args, []⟩).variablesZipB C.prog = true)
    (hr : ((w0.forCall (fun _ _ => 0) ⟨#[], args, []⟩).heap.toList.drop C.prog.globals.size).take ((begin C.prog (fun _ _ => 0) default).world.heap.size - C.prog.globals.size) =
      (begin C.prog (fun _ _ => 0) default).world.heap.toList.drop C.prog.globals.size)
    (hok : Input.okWideB C.prog (w0.forCall (fun _ _ => 0) ⟨#[], args, []⟩) f ⟨#[], args, []⟩ = true)
    (hrow : s.preRow enc C.prog fn conds apart laid (w0.forCall (fun _ _ => 0) ⟨#[], args, []⟩).memory args) :
    ∃ (w : World) (tape : Tape) (i : Input), w.os = os ∧ (w.forCall tape i).Shaped C.prog ∧ i.vars = [] ∧ Input.okWide C.prog (w.forCall tape i) .any w.heap.size f i ∧
      s.preRow enc C.prog fn conds apart laid (w.forCall tape i).memory i.args ∧ ({ modest := modest } : Assume).holds C.prog (lone (Frame.enter C.prog f i.args .normal) [] (w.forCall tape i)) :=
  ⟨w0, fun _ _ => 0, ⟨#[], args, []⟩, hos, World.shaped_of_ZipB hv hr, (Input.okWide_of_okWideB (base := 0) hok).1, (Input.okWide_of_okWideB hok).2, hrow, by
    simp only [Assume.holds]
    exact ⟨by simp, by simp, fun _ => Modest.zero, by simp, by simp⟩⟩
end
end Go.Proofs.YtobflealcldgnaaGreatDoor.fd
