import Derived.Test.YtjalggkhpnfbiaaDoorMPmKit
namespace Go.Proofs.YtjalggkhpnfbiaaDoor.pg
open Go.ChangeShapes Go.WideShapes Go.ChangeAt Go.RowKit Go.Proofs.YtjalggkhpnfbiaaDoor.common Go.Maps
open Go.Proofs.YtjalggkhpnfbiaaDoor.mm (Mid Fx Rws Gs)
attribute [local go_sem ↓] Go.wp_at_zero Go.wp_at_succ

set_option maxRecDepth 100000 in
set_option maxHeartbeats 6400000 in
theorem markForms_any (B0 B1 g cF nF nL : Nat) (len : Nat → Nat) (vL : Value) (ss F : List Value) (L : List ByteArray) (I : Nat → List Inp) (t c : ByteArray) (w : World) (hB : B1 ≤ w.heap.size) (hp : Pf B0 B1 g cF nF vL ss F) (h : Pm B0 B1 w nF nL len (.slice (some ⟨g, 0, none⟩) nF cF) vL ss F L I w) (hn : nF ≤ 1000000000) (hl : ∀ j, j < ss.length → len j ≤ 1000000000) :
    Calls Tryd.prog 9 #[.agg #[.string t, vL, .slice (some ⟨g, 0, none⟩) nF cF], .string c] w fun e w' => e = .returned (.tuple #[]) ∧ Pm B0 B1 w nF nL len (.slice (some ⟨g, 0, none⟩) nF cF) vL ss F L (fun j => List.replicate (I j).length (mkI c j)) w' := by
  obtain ⟨oL, cL, rfl⟩ := mm.own_slice h.lines
  have HM := hide h
  have HP := hide hp
  have HL := hide hl
  have hnum1 : nF ≤ ss.length := Nat.le_of_eq hp.num
  have hnum2 : ss.length ≤ nF := Nat.le_of_eq hp.num.symm
  have HA0 := hide (h.below ((Below.refl w.heap.size w).alloc (Nat.le_refl _) (.cells #[.string t, .slice oL nL cL, .slice (some ⟨g, 0, none⟩) nF cF] 25)))
  have HBX : Hid ((w.alloc (.cells #[.string t, .slice oL nL cL, .slice (some ⟨g, 0, none⟩) nF cF] 25)).heap[w.heap.size]? = some (.cells #[.string t, .slice oL nL cL, .slice (some ⟨g, 0, none⟩) nF cF] 25)) := by show (w.heap.push _)[w.heap.size]? = _; simp
  clear h hp hl
  go_enter Tryd.func9, Tryd.ntmps9
  go_wp2_with fail
  generalize w.alloc (.cells #[.string t, .slice oL nL cL, .slice (some ⟨g, 0, none⟩) nF cF] 25) = V at *
  go_loopw [4] (fun vi wr => ∃ i : Nat, i ≤ ss.length ∧ vi = .int .i64 i ∧ Hid (Pm B0 B1 w nF nL len (.slice (some ⟨g, 0, none⟩) nF cF) (.slice oL nL cL) ss F L (mkT c I i 0) wr) ∧ Hid (wr.heap[w.heap.size]? = some (.cells #[.string t, .slice oL nL cL, .slice (some ⟨g, 0, none⟩) nF cF] 25))) (fun vi _ => ss.length - (intOf vi).toNat)
  case atStart => exact ⟨0, Nat.zero_le _, rfl, by rw [mkT_zero]; exact HA0, HBX⟩
  case round =>
    obtain ⟨i, hi, rfl, HMS, HX⟩ := hrel
    have p2 : wr.cell? ⟨w.heap.size, 2, none⟩ = some (.slice (some ⟨g, 0, none⟩) nF cF) := by have := HX.out; simp [World.cell?, this]
    by_cases hlt : i < ss.length
    · have j0 : (0 : Int) ≤ (i : Int) := Int.natCast_nonneg _
      have j1 : (i : Int) < (nF : Int) := by omega
      go_wp2_with fail
      go_loopw [5] (fun vk wk => ∃ k : Nat, k ≤ len i ∧ vk = .int .i64 k ∧ Hid (Pm B0 B1 w nF nL len (.slice (some ⟨g, 0, none⟩) nF cF) (.slice oL nL cL) ss F L (mkT c I i k) wk) ∧ Hid (wk.heap[w.heap.size]? = some (.cells #[.string t, .slice oL nL cL, .slice (some ⟨g, 0, none⟩) nF cF] 25))) (fun vk _ => len i - (intOf vk).toNat)
      case atStart => exact ⟨0, Nat.zero_le _, rfl, HMS, HX⟩
      case round =>
        obtain ⟨k, hk, rfl, HMK, HXk⟩ := hrel
        have q2 : wr.cell? ⟨w.heap.size, 2, none⟩ = some (.slice (some ⟨g, 0, none⟩) nF cF) := by have := HXk.out; simp [World.cell?, this]
        have hc := HMK.out.cell HP.out i hlt
        have hil := HL.out i hlt
        have HIL : Hid ((I i).length = len i) := HM.out.len_ i hlt
        by_cases hkl : k < len i
        · have k0 : (0 : Int) ≤ (k : Int) := Int.natCast_nonneg _
          have k1 : (k : Int) < (len i : Int) := by omega
          obtain ⟨b, cb, hvb⟩ := mm.own_pos (HMK.out.ins i hlt) (by omega)
          rw [hvb] at hc
          have hrow := HMK.out.ins i hlt
          rw [hvb] at hrow
          have hIk : k < (mkT c I i k i).length := by rw [HMK.out.len_ i hlt]; exact hkl
          obtain ⟨g0, g1, g2, g3⟩ := ic_get (mkT c I i k i) k hIk
          have c0 := (hrow.cellAt (k * 4) (by omega)).trans g0
          have c1 := (hrow.cellAt (k * 4 + 1) (by omega)).trans g1
          have c2 := (hrow.cellAt (k * 4 + 2) (by omega)).trans g2
          have c3 := (hrow.cellAt (k * 4 + 3) (by omega)).trans g3
          have f0 := hrow.frozenAt (k * 4)
          have f1 := hrow.frozenAt (k * 4 + 1)
          have f2 := hrow.frozenAt (k * 4 + 2)
          have f3 := hrow.frozenAt (k * 4 + 3)
          have hbw : b ≠ w.heap.size := fun e => by
            have := (HP.out.fx.rng (i + 2) (by omega) b (by rw [vP_in hlt, hvb]; rfl)).2
            omega
          have HN := hide (HMK.out.put HP.out hlt hvb hkl (mkI c i) (mkT_set c I i k (by rw [HIL.out]; exact hkl)))
          have HX2 : Hid (((((wr.setCell ⟨b, k * 4, none⟩ (.int .i64 (mkI c i).kind)).setCell ⟨b, k * 4 + 1, none⟩ (.string (mkI c i).name)).setCell ⟨b, k * 4 + 2, none⟩ (.string (mkI c i).value)).setCell ⟨b, k * 4 + 3, none⟩ (.string (mkI c i).label)).heap[w.heap.size]? = some (.cells #[.string t, .slice oL nL cL, .slice (some ⟨g, 0, none⟩) nF cF] 25)) := by
            have e := (grown4 wr b (k * 4) (.int .i64 (mkI c i).kind) (.string (mkI c i).name) (.string (mkI c i).value) (.string (mkI c i).label)).block w.heap.size (Array.getElem?_eq_some_iff.1 HXk.out).1 (fun e => hbw (Option.some.inj e).symm)
            exact e.trans HXk.out
          simp only [mkI] at HN HX2
          generalize (mkT c I i k i)[k]'hIk = x0 at *
          clear hrow g0 g1 g2 g3 hIk hbw
          go_wp2_with fail
          go_roundw
          case rel => exact ⟨k + 1, by omega, by go_num, HN, HX2⟩
          case measure => simp [intOf]; omega
        · have k1 : ¬ (k : Int) < (len i : Int) := by omega
          obtain ⟨ob, cb, hvb⟩ := mm.own_slice (HMK.out.ins i hlt)
          rw [hvb] at hc
          have HT : Hid (Pm B0 B1 w nF nL len (.slice (some ⟨g, 0, none⟩) nF cF) (.slice oL nL cL) ss F L (mkT c I (i + 1) 0) wr) := by
            have h9 := HMK.out
            have hk9 : k = (I i).length := by rw [HIL.out]; omega
            rw [hk9, mkT_turn] at h9
            exact h9
          go_wp2_with fail
          go_roundw
          case rel => exact ⟨i + 1, by omega, by go_num, HT, HXk⟩
          case measure => simp [intOf]; omega
    · have j1 : ¬ (i : Int) < (nF : Int) := by omega
      obtain rfl : i = ss.length := by omega
      have HF : Hid (Pm B0 B1 w nF nL len (.slice (some ⟨g, 0, none⟩) nF cF) (.slice oL nL cL) ss F L (fun j => List.replicate (I j).length (mkI c j)) wr) := by
        refine ⟨⟨HMS.out.rws.mid, fun j hj => ?_⟩, fun j hj => by rw [List.length_replicate]; exact HM.out.len_ j hj⟩
        have h9 := HMS.out.rws.row j hj
        match j, hj with
        | 0, _ => exact h9
        | 1, _ => exact h9
        | j + 2, hj =>
          have e : mkT c I ss.length 0 j = List.replicate (I j).length (mkI c j) := by unfold mkT; rw [if_pos (by omega)]
          have e2 : XP F L (mkT c I ss.length 0) (j + 2) = XP F L (fun j => List.replicate (I j).length (mkI c j)) (j + 2) := by show ic _ = ic _; rw [e]
          rw [e2] at h9
          exact h9
      go_wp2_with fail
      go_end0
      exact ⟨rfl, HF.out⟩

set_option maxRecDepth 100000 in
set_option maxHeartbeats 6400000 in
theorem markedForms_any (B0 B1 g cF nF nL : Nat) (len : Nat → Nat) (vL : Value) (ss F : List Value) (L : List ByteArray) (W0 : World) (t c : ByteArray) (w : World) (hp : Pf B0 B1 g cF nF vL ss F) (h : Pm B0 B1 W0 nF nL len (.slice (some ⟨g, 0, none⟩) nF cF) vL ss F L (fun j => List.replicate (len j) (mkI c j)) w) (hn : nF ≤ 1000000000) (hl : ∀ j, j < ss.length → len j ≤ 1000000000) :
    Calls Tryd.prog 10 #[.agg #[.string t, vL, .slice (some ⟨g, 0, none⟩) nF cF], .string c] w fun e w' => e = .returned (.bool true) ∧ Below w.heap.size w w' := by
  obtain ⟨oL, cL, rfl⟩ := mm.own_slice h.lines
  have HM := hide h
  have HP := hide hp
  have HL := hide hl
  have hnum1 : nF ≤ ss.length := Nat.le_of_eq hp.num
  have hnum2 : ss.length ≤ nF := Nat.le_of_eq hp.num.symm
  have HBX : Hid ((w.alloc (.cells #[.string t, .slice oL nL cL, .slice (some ⟨g, 0, none⟩) nF cF] 25)).heap[w.heap.size]? = some (.cells #[.string t, .slice oL nL cL, .slice (some ⟨g, 0, none⟩) nF cF] 25)) := by show (w.heap.push _)[w.heap.size]? = _; simp
  have BA : Below w.heap.size w (w.alloc (.cells #[.string t, .slice oL nL cL, .slice (some ⟨g, 0, none⟩) nF cF] 25)) := (Below.refl _ _).alloc (Nat.le_refl _) _
  have HBA := hide BA
  clear h hp hl BA
  go_enter Tryd.func10, Tryd.ntmps10
  go_wp2_with fail
  generalize w.alloc (.cells #[.string t, .slice oL nL cL, .slice (some ⟨g, 0, none⟩) nF cF] 25) = V at *
  have p2 : V.cell? ⟨w.heap.size, 2, none⟩ = some (.slice (some ⟨g, 0, none⟩) nF cF) := by have := HBX.out; simp [World.cell?, this]
  have HPM := hide (HM.out.below HBA.out)
  clear HBX
  go_loopw [5] (fun vi wr => ∃ i : Nat, i ≤ ss.length ∧ vi = .int .i64 i ∧ Hid (wr = V)) (fun vi _ => ss.length - (intOf vi).toNat)
  case atStart => exact ⟨0, Nat.zero_le _, rfl, rfl⟩
  case round =>
    obtain ⟨i, hi, rfl, hV⟩ := hrel
    obtain rfl := hV.out.symm
    clear hV
    by_cases hlt : i < ss.length
    · have j0 : (0 : Int) ≤ (i : Int) := Int.natCast_nonneg _
      have j1 : (i : Int) < (nF : Int) := by omega
      have hc := HPM.out.cell HP.out i hlt
      have hil := HL.out i hlt
      have HROW := hide (HPM.out.ins i hlt)
      obtain ⟨ob, cb, hvb⟩ := mm.own_slice (HPM.out.ins i hlt)
      rw [hvb] at hc HROW
      go_wp2_with fail
      go_loopw [6] (fun vk wk => ∃ k : Nat, k ≤ len i ∧ vk = .int .i64 k ∧ Hid (wk = V)) (fun vk _ => len i - (intOf vk).toNat)
      case atStart => exact ⟨0, Nat.zero_le _, rfl, rfl⟩
      case round =>
        obtain ⟨k, hk, rfl, hV⟩ := hrel
        obtain rfl := hV.out.symm
        clear hV
        by_cases hkl : k < len i
        · have k0 : (0 : Int) ≤ (k : Int) := Int.natCast_nonneg _
          have k1 : (k : Int) < (len i : Int) := by omega
          obtain ⟨b, cb', hvb'⟩ := mm.own_pos HROW.out (by omega)
          cases hvb'
          obtain ⟨g0, g1, _, _⟩ := ic_get (List.replicate (len i) (mkI c i)) k (by rw [List.length_replicate]; exact hkl)
          rw [List.getElem_replicate] at g0 g1
          have c0 := (HROW.out.cellAt (k * 4) (by omega)).trans g0
          have c1 := (HROW.out.cellAt (k * 4 + 1) (by omega)).trans g1
          simp only [mkI] at c0 c1
          have hw1 : IntKind.i64.wrap ((i : Int) + 1) = (i : Int) + 1 := by unfold IntKind.wrap; simp [IntKind.bits, IntKind.signed]; omega
          clear g0 g1
          go_wp2_with fail
          go_roundw
          case rel => exact ⟨k + 1, by omega, by go_num, hide trivial⟩
          case measure => simp [intOf]; omega
        · have k1 : ¬ (k : Int) < (len i : Int) := by omega
          go_wp2_with fail
          go_roundw
          case rel => exact ⟨i + 1, by omega, by go_num, hide trivial⟩
          case measure => simp [intOf]; omega
    · have j1 : ¬ (i : Int) < (nF : Int) := by omega
      go_wp2_with fail
      go_ret
      exact ⟨rfl, HBA.out⟩

set_option maxRecDepth 100000 in
set_option maxHeartbeats 1600000 in
theorem markedLines_any (v : Value) (c : ByteArray) (n : Nat) (w : World) (h : w.ownsRow 0 9 1 v n ((List.replicate n c).map Value.string)) (hn : n ≤ 4611686018427387904) :
    Calls Tryd.prog 11 #[v, .string c] w fun e w' => e = .returned (.bool true) ∧ w' = w := by
  obtain ⟨oL, cL, rfl⟩ := mm.own_slice h
  have HR := hide h
  clear h
  go_enter Tryd.func11, Tryd.ntmps11
  go_wp2_with fail
  go_loopw [5] (fun vi wr => ∃ i : Nat, i ≤ n ∧ vi = .int .i64 i ∧ Hid (wr = w)) (fun vi _ => n - (intOf vi).toNat)
  case atStart => exact ⟨0, Nat.zero_le _, rfl, rfl⟩
  case round =>
    obtain ⟨i, hi, rfl, hV⟩ := hrel
    obtain rfl := hV.out.symm
    clear hV
    by_cases hlt : i < n
    · have j0 : (0 : Int) ≤ (i : Int) := Int.natCast_nonneg _
      have j1 : (i : Int) < (n : Int) := by omega
      obtain ⟨b, cb', hvb'⟩ := mm.own_pos HR.out (by omega)
      cases hvb'
      have c0 := (HR.out.cellAt i (by omega)).trans (show ((List.replicate n c).map Value.string)[i]? = some (.string c) by simp [hlt])
      go_wp2_with fail
      go_roundw
      case rel => exact ⟨i + 1, by omega, by go_num, hide trivial⟩
      case measure => simp [intOf]; omega
    · have j1 : ¬ (i : Int) < (n : Int) := by omega
      go_wp2_with fail
      go_ret
      exact ⟨rfl, rfl⟩
end Go.Proofs.YtjalggkhpnfbiaaDoor.pg
