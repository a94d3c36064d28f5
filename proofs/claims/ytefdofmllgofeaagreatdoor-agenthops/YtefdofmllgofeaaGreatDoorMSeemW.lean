import Derived.Test.YtefdofmllgofeaaGreatDoorMSeemM
import Derived.Test.YtefdofmllgofeaaGreatDoorMSetW3
import Derived.Test.YtefdofmllgofeaaGreatDoorMFieldLays2
import Derived.Shelf.Strings.Cut
import Derived.Shelf.Strconv.AtoiAll
namespace Go.Proofs.YtefdofmllgofeaaGreatDoor.fd
open Go.ChangeShapes Go.WideShapes Go.ChangeAt Go.RowKit Go.Proofs.YtefdofmllgofeaaGreatDoor.common Go.Proofs.YtefdofmllgofeaaGreatDoor.bk
attribute [local go_sem ↓] Go.wp_at_zero Go.wp_at_succ

/-- what the readers of cookies find in variables -/
structure Env6 (w : World) (ea : Addr) : Prop where
  pow : Pow w.heap.size w
  txt : Ev 0 w (X ea)
  mx : ∃ m, w.cell? ⟨14, 0, none⟩ = some (.int .i64 m)
  syn : ∃ te pe, w.cell? ⟨17, 0, none⟩ = some (.iface te pe)
  rng : ∃ te pe, w.cell? ⟨18, 0, none⟩ = some (.iface te pe)
theorem Env6.below {w w' : World} {ea : Addr} (h : Env6 w ea) (hb : Below w.heap.size w w') : Env6 w' ea := by
  obtain ⟨m, hm⟩ := h.mx
  obtain ⟨t1, p1, h1⟩ := h.syn
  obtain ⟨t2, p2, h2⟩ := h.rng
  exact ⟨pow_below h.pow hb, h.txt.below hb, ⟨m, (hb.cell (World.block_lt_of_cell? w _ hm)).trans hm⟩, ⟨t1, p1, (hb.cell (World.block_lt_of_cell? w _ h1)).trans h1⟩, ⟨t2, p2, (hb.cell (World.block_lt_of_cell? w _ h2)).trans h2⟩⟩

theorem below_drewS (w : World) (n : Nat) : Below w.heap.size w (w.drewN n) := ⟨rfl, rfl, rfl, Nat.le_refl _, fun _ _ => rfl⟩
theorem atoi6_any (s : ByteArray) (w : World) (ea : Addr) (hs : s.size ≤ 281474976710656) (h : Env6 w ea) :
    Calls Tryz.prog 83 #[.string s] w fun e w' => Below w.heap.size w w' ∧ ∃ x ev, e = .returned (.tuple #[.int .i64 x, ev]) ∧ ((Lib.atoiAll s.data.toList = .ok x ∧ ev = .nilIface) ∨ ((∀ v, Lib.atoiAll s.data.toList ≠ .ok v) ∧ ∃ t p, ev = .iface t (.pointer (some p)))) := by
  obtain ⟨te, pe, h1⟩ := h.syn
  obtain ⟨tr, pr, h2⟩ := h.rng
  rcases h : Lib.atoiAll s.data.toList with v | _ | _
  · refine (Any.strconv_Atoi_ok jl.lays172 s (by omega) v h w).mono ?_
    rintro e w' ⟨rfl, hw⟩
    refine ⟨?_, _, _, rfl, Or.inl ⟨rfl, rfl⟩⟩
    rcases hw with rfl | ⟨t, rfl⟩
    · exact Below.refl _ _
    · exact ⟨rfl, rfl, rfl, by rw [Lib.bytesWorld_size]; omega, fun j hj => Lib.bytesWorld_at_old _ _ _ j hj⟩
  · refine (Any.strconv_Atoi_syntax jl.lays172 s hs h _ w h1 (Or.inr ⟨te, pe, rfl⟩)).mono ?_
    rintro e w' ⟨N, rfl, _, _, hb⟩
    exact ⟨hb, _, _, rfl, Or.inr ⟨fun v e => (by cases e), _, _, rfl⟩⟩
  · refine (Any.strconv_Atoi_range jl.lays172 s hs h _ w h2 (Or.inr ⟨tr, pr, rfl⟩)).mono ?_
    rintro e w' ⟨N, rfl, _, _, hb⟩
    exact ⟨hb, _, _, rfl, Or.inr ⟨fun v e => (by cases e), _, _, rfl⟩⟩
theorem cutAge_any (s : ByteArray) (w : World) (ea : Addr) (hs : s.size < 4294967281) (h : Env6 w ea) :
    Calls Tryz.prog 55 #[.string s, .string ageB] w fun e w' => e = .returned (.tuple #[S (Lib.cut s.data.toList ageL).1, S (Lib.cut s.data.toList ageL).2.1, .bool (Lib.cut s.data.toList ageL).2.2]) ∧ Below w.heap.size w w' := by
  obtain ⟨m, hm⟩ := h.mx
  refine (Any.strings_Cut { jl.lays145 with } s ageB m w hs hm).mono ?_
  rintro e w' ⟨rfl, n, rfl⟩
  exact ⟨rfl, below_drewS w n⟩
theorem cut_len2 (l sep : List UInt8) : (Lib.cut l sep).2.1.length ≤ l.length := by
  unfold Lib.cut
  split
  · rw [List.length_drop]; omega
  · exact Nat.zero_le _

set_option maxRecDepth 100000 in
set_option maxHeartbeats 1600000 in
theorem seemingAge_any (s : ByteArray) (w : World) (ea : Addr) (hs : s.size ≤ 4194304) (h : Env6 w ea) :
    Calls Tryz.prog 56 #[.string s] w fun e w' => e = .returned (.int .i64 (seemAge s.data.toList)) ∧ Below w.heap.size w w' := by
  have hl2 := cut_len2 s.data.toList ageL
  rw [len_list] at hl2
  have HC := hide (cutAge_any s w ea (by omega) h)
  have HE := hide h
  obtain ⟨R, hR⟩ : ∃ R, seemAge s.data.toList = R := ⟨_, rfl⟩
  rw [hR]
  have HR : Hid (R = if (Lib.cut s.data.toList ageL).2.2 = true then (match Lib.atoiAll (before 59 (Lib.cut s.data.toList ageL).2.1) with | .ok v => v | _ => -1) else -1) := hR.symm
  clear h hR
  generalize Lib.cut s.data.toList ageL = K at *
  obtain ⟨k1, k2, k3⟩ := K
  dsimp only at hl2 HC HR
  have hb2 := (cut_lens 59 k2).1
  cases k3 with
  | false =>
    have HR2 : Hid (R = -1) := by show _ = _; rw [HR.out]; rfl
    go_enter Tryz.func56, Tryz.ntmps56
    go_wp2_with fail
    refine HC.out.mono ?_
    rintro x w1 ⟨rfl, hb1⟩
    have HB1 := hide hb1
    clear hb1
    go_wp2_with fail
    go_ret
    exact ⟨by rw [HR2.out]; rfl, HB1.out⟩
  | true =>
    have HR2 : Hid (R = (match Lib.atoiAll (before 59 k2) with | .ok v => v | _ => -1)) := by show _ = _; rw [HR.out]; rfl
    have HCB := hide (fun W => cut_any (⟨k2.toArray⟩ : ByteArray) 59 W (by rw [str_size]; omega))
    have HAT := hide (fun W (hW : Env6 W ea) => atoi6_any (⟨(before 59 k2).toArray⟩ : ByteArray) W ea (by rw [str_size]; omega) hW)
    rw [str_list] at HCB HAT
    clear HR
    generalize before 59 k2 = D at *
    generalize behind 59 k2 = BH at *
    go_enter Tryz.func56, Tryz.ntmps56
    go_wp2_with fail
    refine HC.out.mono ?_
    rintro x w1 ⟨rfl, hb1⟩
    have HB1 := hide hb1
    clear hb1
    go_wp2_with fail
    refine (HCB.out w1).mono ?_
    rintro x w2 ⟨rfl, hb2'⟩
    have HB2 := hide (keepD HB1.out hb2')
    clear hb2'
    go_wp2_with fail
    refine (HAT.out w2 (HE.out.below HB2.out)).mono ?_
    rintro x w3 ⟨hb3, n, ev, rfl, hev⟩
    have HB3 := hide (keepD HB2.out hb3)
    clear hb3
    rcases hev with ⟨ha, rfl⟩ | ⟨ha, t, p, rfl⟩
    · have HR3 : Hid (R = n) := by show _ = _; rw [HR2.out, ha]
      clear ha HR2
      go_wp2_with fail
      go_ret
      exact ⟨by rw [HR3.out]; rfl, HB3.out⟩
    · have HR3 : Hid (R = -1) := by
        show _ = _
        rw [HR2.out]
        cases hh : Lib.atoiAll D with
        | ok v => exact absurd hh (ha v)
        | _ => rfl
      clear ha HR2
      go_wp2_with fail
      go_ret
      exact ⟨by rw [HR3.out]; rfl, HB3.out⟩

end Go.Proofs.YtefdofmllgofeaaGreatDoor.fd
