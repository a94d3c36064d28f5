import Derived.Test.YtlefalplljgkeaaGreatDoorMSeemM
import Derived.Test.YtlefalplljgkeaaGreatDoorMSetsLaw
import Derived.Test.YtlefalplljgkeaaGreatDoorMFieldLays2
import Derived.Shelf.Strings.Cut
import Derived.Shelf.Strconv.AtoiAll
namespace Go.Proofs.YtlefalplljgkeaaGreatDoor.fd
open Go.ChangeShapes Go.WideShapes Go.ChangeAt Go.RowKit Go.Proofs.YtlefalplljgkeaaGreatDoor.common Go.Proofs.YtlefalplljgkeaaGreatDoor.bk
attribute [local go_sem ↓] Go.wp_at_zero Go.wp_at_succ

/-- what the readers of cookies find in variables -/
structure Env6 (w : World) (ea : Addr) : Prop where
  pow : Pow w.heap.size w
  txt : Ev 0 w (X ea)
  mx : ∃ m, w.cell? ⟨3, 0, none⟩ = some (.int .i64 m)
  syn : ∃ te pe, w.cell? ⟨10, 0, none⟩ = some (.iface te pe)
  rng : ∃ te pe, w.cell? ⟨11, 0, none⟩ = some (.iface te pe)
theorem Env6.below {w w' : World} {ea : Addr} (h : Env6 w ea) (hb : Below w.heap.size w w') : Env6 w' ea := by
  obtain ⟨m, hm⟩ := h.mx
  obtain ⟨t1, p1, h1⟩ := h.syn
  obtain ⟨t2, p2, h2⟩ := h.rng
  exact ⟨pow_below h.pow hb, h.txt.below hb, ⟨m, (hb.cell (World.block_lt_of_cell? w _ hm)).trans hm⟩, ⟨t1, p1, (hb.cell (World.block_lt_of_cell? w _ h1)).trans h1⟩, ⟨t2, p2, (hb.cell (World.block_lt_of_cell? w _ h2)).trans h2⟩⟩

theorem below_drewS (w : World) (n : Nat) : Below w.heap.size w (w.drewN n) := ⟨rfl, rfl, rfl, Nat.le_refl _, fun _ _ => rfl⟩
theorem atoi6_any (s : ByteArray) (w : World) (ea : Addr) (hs : s.size ≤ 281474976710656) (h : Env6 w ea) :
    Calls Tryz.prog 98 #[.string s] w fun e w' => Below w.heap.size w w' ∧ ∃ x ev, e = .returned (.tuple #[.int .i64 x, ev]) ∧ ((Lib.atoiAll s.data.toList = .ok x ∧ ev = .nilIface) ∨ ((∀ v, Lib.atoiAll s.data.toList ≠ .ok v) ∧ ∃ t p, ev = .iface t (.pointer (some p)))) := by
  obtain ⟨te, pe, h1⟩ := h.syn
  obtain ⟨tr, pr, h2⟩ := h.rng
  rcases h : Lib.atoiAll s.data.toList with v | _ | _
  · refine (Any.strconv_Atoi_ok jl.lays172 s (by omega) v h w).mono ?_
    rintro e w' ⟨rfl, hw⟩
    refine ⟨?_, _, _, rfl, Or.inl ⟨rfl, rfl⟩⟩
    rcases hw with rfl | ⟨t, rfl⟩
    · exact Below.refl _ _
    · exact ⟨rfl, rfl, rfl, by rw [Lib.bytesWorld_size]; omega, fun j hj => Lib.bytesWorld_at_old _ _ _ j hj⟩
  · refine (Any.strconv_Atoi_syntax jl.lays172 s hs h _ w h1 (Or.inr ⟨te, pe, rfl⟩)).mono ?_
    rintro e w' ⟨N, rfl, _, _, hb⟩
    exact ⟨hb, _, _, rfl, Or.inr ⟨fun v e => (by cases e), _, _, rfl⟩⟩
  · refine (Any.strconv_Atoi_range jl.lays172 s hs h _ w h2 (Or.inr ⟨tr, pr, rfl⟩)).mono ?_
    rintro e w' ⟨N, rfl, _, _, hb⟩
    exact ⟨hb, _, _, rfl, Or.inr ⟨fun v e => (by cases e), _, _, rfl⟩⟩
theorem cutAge_any (s : ByteArray) (w : World) (ea : Addr) (hs : s.size < 4294967281) (h : Env6 w ea) :
    Calls Tryz.prog 67 #[.string s, .string ageB] w fun e w' => e = .returned (.tuple #[S (Lib.cut s.data.toList ageL).1, S (Lib.cut s.data.toList ageL).2.1, .bool (Lib.cut s.data.toList ageL).2.2]) ∧ Below w.heap.size w w' := by
  obtain ⟨m, hm⟩ := h.mx
  refine (Any.strings_Cut { jl.lays145 with } s ageB m w hs hm).mono ?_
  rintro e w' ⟨rfl, n, rfl⟩
  exact ⟨rfl, below_drewS w n⟩
theorem cut_len2 (l sep : List UInt8) : (Lib.cut l sep).2.1.length ≤ l.length := by
  unfold Lib.cut
  split
  · rw [List.length_drop]; omega
  · exact Nat.zero_le _

set_option maxRecDepth 100000 in
set_option maxHeartbeats 1600000 in
theorem seemingAge_any (s : ByteArray) (w : World) (ea : Addr) (hs : s.size ≤ 4194304) (h : Env6 w ea) :
    Calls Tryz.prog 68 #[.string s] w fun e w' => e = .returned (.int .i64 (seemAge s.data.toList)) ∧ Below w.heap.size w w' := by
  have hl2 := cut_len2 s.data.toList ageL
  rw [len_list] at hl2
  have HC := hide (cutAge_any s w ea (by omega) h)
  have HE := hide h
  obtain ⟨R, hR⟩ : ∃ R, seemAge s.data.toList = R := ⟨_, rfl⟩
  rw [hR]
  have HR : Hid (R = if (Lib.cut s.data.toList ageL).2.2 = true then (match Lib.atoiAll (before 59 (Lib.cut s.data.toList ageL).2.1) with | .ok v => v | _ => -1) else -1) := hR.symm
  clear h hR
  generalize Lib.cut s.data.toList ageL = K at *
  obtain ⟨k1, k2, k3⟩ := K
  dsimp only at hl2 HC HR
  have hb2 := (cut_lens 59 k2).1
  cases k3 with
  | false =>
    have HR2 : Hid (R = -1) := by show _ = _; rw [HR.out]; rfl
    go_enter Tryz.func68, Tryz.ntmps68
    go_wp2_with fail
    refine HC.out.mono ?_
    rintro x w1 ⟨rfl, hb1⟩
    have HB1 := hide hb1
    clear hb1
    go_wp2_with fail
    go_ret
    exact ⟨by rw [HR2.out]; rfl, HB1.out⟩
  | true =>
    have HR2 : Hid (R = (match Lib.atoiAll (before 59 k2) with | .ok v => v | _ => -1)) := by show _ = _; rw [HR.out]; rfl
    have HCB := hide (fun W => cut_any (⟨k2.toArray⟩ : ByteArray) 59 W (by rw [str_size]; omega))
    have HAT := hide (fun W (hW : Env6 W ea) => atoi6_any (⟨(before 59 k2).toArray⟩ : ByteArray) W ea (by rw [str_size]; omega) hW)
    rw [str_list] at HCB HAT
    clear HR
    generalize before 59 k2 = D at *
    generalize behind 59 k2 = BH at *
    go_enter Tryz.func68, Tryz.ntmps68
    go_wp2_with fail
    refine HC.out.mono ?_
    rintro x w1 ⟨rfl, hb1⟩
    have HB1 := hide hb1
    clear hb1
    go_wp2_with fail
    refine (HCB.out w1).mono ?_
    rintro x w2 ⟨rfl, hb2'⟩
    have HB2 := hide (keepD HB1.out hb2')
    clear hb2'
    go_wp2_with fail
    refine (HAT.out w2 (HE.out.below HB2.out)).mono ?_
    rintro x w3 ⟨hb3, n, ev, rfl, hev⟩
    have HB3 := hide (keepD HB2.out hb3)
    clear hb3
    rcases hev with ⟨ha, rfl⟩ | ⟨ha, t, p, rfl⟩
    · have HR3 : Hid (R = n) := by show _ = _; rw [HR2.out, ha]
      clear ha HR2
      go_wp2_with fail
      go_ret
      exact ⟨by rw [HR3.out]; rfl, HB3.out⟩
    · have HR3 : Hid (R = -1) := by
        show _ = _
        rw [HR2.out]
        cases hh : Lib.atoiAll D with
        | ok v => exact absurd hh (ha v)
        | _ => rfl
      clear ha HR2
      go_wp2_with fail
      go_ret
      exact ⟨by rw [HR3.out]; rfl, HB3.out⟩

end Go.Proofs.YtlefalplljgkeaaGreatDoor.fd

namespace Go.Proofs.YtlefalplljgkeaaGreatDoor.fd
open Go.ChangeShapes Go.WideShapes Go.ChangeAt Go.RowKit Go.Proofs.YtlefalplljgkeaaGreatDoor.common Go.Proofs.YtlefalplljgkeaaGreatDoor.bk
attribute [local go_sem ↓] Go.wp_at_zero Go.wp_at_succ

theorem sizeCk : (Tryz.prog.info? 30).map (·.size) = some 3 := by kernel_rfl
theorem three_put (w : World) (R : Nat) (x y z v0 v1 v2 : Value) (h0 : w.cell? ⟨R, 0, none⟩ = some v0) (h1 : w.cell? ⟨R, 1, none⟩ = some v1) (h2 : w.cell? ⟨R, 2, none⟩ = some v2) : (((w.setCell ⟨R, 0, none⟩ x).setCell ⟨R, 1, none⟩ y).setCell ⟨R, 2, none⟩ z).rangeAt R 0 [x, y, z] := by
  have r : w.rangeAt R 0 [v0, v1, v2] := by
    intro j u hu
    match j, hu with
    | 0, hu => cases hu; exact h0
    | 1, hu => cases hu; exact h1
    | 2, hu => cases hu; exact h2
  have r1 := range_set r 0 (by simp) x
  have r2 := range_set r1 1 (by simp) y
  have r3 := range_set r2 2 (by simp) z
  simpa using r3
/-- what seems to be meant, as a value -/
def seemC (l : List UInt8) : Value := .agg #[S (seemN l), S (seemV l), .int .i64 (seemA l)]

set_option maxRecDepth 100000 in
set_option maxHeartbeats 1600000 in
theorem seemingCookie_any (s : ByteArray) (w : World) (ea : Addr) (hs : s.size ≤ 4194304) (h : Env6 w ea) :
    Calls Tryz.prog 54 #[.string s] w fun e w' => e = .returned (seemC s.data.toList) ∧ Below w.heap.size w w' := by
  have hl := cut_lens 61 s.data.toList
  have hl2 := cut_lens 59 (behind 61 s.data.toList)
  rw [len_list] at hl
  have HE := hide h
  have H1 := hide (fun W => cut_any s 61 W (by omega))
  have H2 := hide (fun W => cut_any (⟨(behind 61 s.data.toList).toArray⟩ : ByteArray) 59 W (by rw [str_size]; omega))
  have H3 := hide (fun W (hW : Env6 W ea) => seemingAge_any (⟨(behind 59 (behind 61 s.data.toList)).toArray⟩ : ByteArray) W ea (by rw [str_size]; omega) hW)
  rw [str_list] at H2 H3
  have HR : Hid (seemC s.data.toList = .agg #[S (before 61 s.data.toList), S (before 59 (behind 61 s.data.toList)), .int .i64 (seemAge (behind 59 (behind 61 s.data.toList)))]) := rfl
  rw [HR.out]
  clear h HR hl hl2
  generalize before 61 s.data.toList = N1 at *
  generalize behind 61 s.data.toList = B1 at *
  generalize before 59 B1 = V1 at *
  generalize behind 59 B1 = B2 at *
  generalize seemAge B2 = A1 at *
  obtain ⟨W0, hW0⟩ : ∃ W0 : World, W0 = w.alloc (.cells #[.string ⟨#[]⟩, .string ⟨#[]⟩, .int .i64 0] 30) := ⟨_, rfl⟩
  have HBL : Hid (Below w.heap.size w W0) := by rw [hW0]; exact (Below.refl _ _).alloc (Nat.le_refl _) _
  have HLT : Hid (w.heap.size < W0.heap.size) := by show _ < _; rw [hW0]; simp
  have HC0 : Hid (∀ X, Below W0.heap.size W0 X → X.cell? ⟨w.heap.size, 0, none⟩ = some (.string ⟨#[]⟩) ∧ X.cell? ⟨w.heap.size, 1, none⟩ = some (.string ⟨#[]⟩) ∧ X.cell? ⟨w.heap.size, 2, none⟩ = some (.int .i64 0) ∧ (∀ i, X.frozen? ⟨w.heap.size, i, none⟩ = false)) := by
    intro X hX
    refine ⟨?_, ?_, ?_, ?_⟩
    · rw [hX.cell (p := ⟨w.heap.size, 0, none⟩) HLT.out, hW0]; exact range_new w #[.string ⟨#[]⟩, .string ⟨#[]⟩, .int .i64 0] _ 0 _ rfl
    · rw [hX.cell (p := ⟨w.heap.size, 1, none⟩) HLT.out, hW0]; exact range_new w #[.string ⟨#[]⟩, .string ⟨#[]⟩, .int .i64 0] _ 1 _ rfl
    · rw [hX.cell (p := ⟨w.heap.size, 2, none⟩) HLT.out, hW0]; exact range_new w #[.string ⟨#[]⟩, .string ⟨#[]⟩, .int .i64 0] _ 2 _ rfl
    · intro i; rw [hX.frozen (p := ⟨w.heap.size, i, none⟩) HLT.out, hW0]; exact World.frozen?_alloc_at _ _ _ _ rfl
  have HW0 := hide hW0
  clear hW0
  go_enter Tryz.func54, Tryz.ntmps54
  go_wp2_with fail
  rw [← HW0.out]
  refine (H1.out W0).mono ?_
  rintro x w1 ⟨rfl, hb1⟩
  have HB1 := hide hb1
  clear hb1
  go_wp2_with fail
  refine (H2.out w1).mono ?_
  rintro x w2 ⟨rfl, hb2⟩
  have HB2 := hide (keepD HB1.out hb2)
  clear hb2
  go_wp2_with fail
  refine (H3.out w2 ((HE.out.below HBL.out).below HB2.out)).mono ?_
  rintro x w3 ⟨rfl, hb3⟩
  have HB3 := hide (keepD HB2.out hb3)
  clear hb3
  obtain ⟨c0, c1, c2, hf⟩ := HC0.out w3 HB3.out
  have f0 := hf 0
  have f1 := hf 1
  have f2 := hf 2
  clear hf
  have HBw := hide (HBL.out.trans (HB3.out.mono HBL.out.size))
  go_wp2_with fail
  refine bodyPost_ret (v := .agg #[S N1, S V1, .int .i64 A1]) (results_cell1 (b := w.heap.size) (o := 0) (cs := [S N1, S V1, .int .i64 A1]) Tryz.results54 _ rfl (three_put _ w.heap.size (S N1) (S V1) (.int .i64 A1) _ _ _ c0 c1 c2) Tryz.underlying30 rfl sizeCk) rfl ⟨rfl, ((HBw.out.setCell (p := ⟨w.heap.size, 0, none⟩) (Nat.le_refl _) _).setCell (p := ⟨w.heap.size, 1, none⟩) (Nat.le_refl _) _).setCell (p := ⟨w.heap.size, 2, none⟩) (Nat.le_refl _) _⟩

end Go.Proofs.YtlefalplljgkeaaGreatDoor.fd
