import Derived.Test.YtkkgngmhdlmgnaaDoorMList
import Derived.Shelf.Strconv.AppendIntPublic10
import Derived.Lib.AppendStr
namespace Go.Proofs.YtkkgngmhdlmgnaaDoor.jw
open Go.ChangeShapes Go.WideShapes Go.ChangeAt Go.RowKit Go.Proofs.YtkkgngmhdlmgnaaDoor.common
attribute [local go_sem ↓] Go.wp_at_zero Go.wp_at_succ

/-- the first member of the list that is not so -/
theorem all_step (p : Mem → Bool) (l : List Mem) (k : Nat) (h : k < l.length) : (l.take (k + 1)).all p = ((l.take k).all p && p l[k]) := by
  rw [List.take_succ_eq_append_getElem h, List.all_append]; simp

set_option maxRecDepth 100000 in
set_option maxHeartbeats 1600000 in
theorem refusal_any (v : Value) (l : List Mem) (w : World) (hl : Lies w v l) (hn : l.length ≤ 4611686018427387904) (hT : Tabs w) (e : Nat → Addr) (he : Four w e) (hz : ∀ m ∈ l, m.name.length ≤ 140737488355328 ∧ m.text.length ≤ 140737488355328) :
    Calls Tryd.prog 27 #[v] w fun x w' => x = .returned (errV e (Json.check l)) ∧ Below w.heap.size w w' := by
  obtain ⟨R, hR⟩ : ∃ R, errV e (Json.check l) = R := ⟨_, rfl⟩
  rw [hR]
  have HR := hide hR
  have HL := hide hl
  have HT := hide hT
  have HE := hide he
  have HZ := hide hz
  clear hR hT he hz
  obtain ⟨oa, ca, rfl, hcp, hca⟩ := hl
  have HA := hide hca
  clear hca
  by_cases h32 : 32 < l.length
  · have k32 : (32 : Int) < (l.length : Int) := by omega
    have ce := HE.out.many
    have HRR : Hid (R = X (e 2)) := by show _ = _; rw [← HR.out]; unfold Json.check; rw [if_pos h32]; rfl
    clear HL HA
    go_enter Tryd.func27, Tryd.ntmps27
    go_wp2
    go_ret
    exact ⟨by rw [HRR.out]; rfl, Below.refl _ _⟩
  · have k32 : ¬ (32 : Int) < (l.length : Int) := by omega
    go_enter Tryd.func27, Tryd.ntmps27
    go_wp2_with fail
    go_loopw [2, 13] (fun r i wr => ∃ k : Nat, k ≤ l.length ∧ r = .nilIface ∧ i = .int .i64 k ∧ Below w.heap.size w wr ∧ Hid ((l.take k).all (fun m => Json.known m.kind) = true)) (fun _ i _ => l.length - (intOf i).toNat)
    case atStart => exact ⟨0, Nat.zero_le _, rfl, rfl, Below.refl _ _, by show _ = _; simp⟩
    case round =>
      obtain ⟨k, hk, rfl, rfl, hnx, hal⟩ := hrel
      have hsz := hnx.size
      by_cases hlt : k < l.length
      · have hki : (k : Int) < (l.length : Int) := by omega
        have k0 : (0 : Int) ≤ (k : Int) := Int.natCast_nonneg _
        obtain ⟨b, o, rfl, hb, ha⟩ := HA.out k hlt
        have hA := ha.below hnx hb
        have d0 := hA.c0
        have d1 := hA.c1
        have d2 := hA.c2
        have d3 := hA.c3
        have d4 := hA.c4
        have ce := (HE.out.below hnx).arg
        have HST := hide (all_step (fun m => Json.known m.kind) l k hlt)
        have HMM : Hid (l[k] ∈ l) := List.getElem_mem hlt
        generalize l[k] = m at *
        have hM := mem_new wr m 37
        have f1 := hM.c1
        have g1 : (wr.alloc (.cells #[S m.name, .int .i64 m.kind, S m.text, .int .i64 m.num, .bool m.flag] 37)).cell? ⟨4, 0, none⟩ = some (X (e 0)) := by
          rw [← ce]; exact ((Below.refl wr.heap.size wr).alloc (Nat.le_refl _) _).cell (World.block_lt_of_cell? wr _ ce)
        have X0 := hide (hnx.alloc hsz (.cells #[S m.name, .int .i64 m.kind, S m.text, .int .i64 m.num, .bool m.flag] 37))
        clear hnx ha hA hM ce
        by_cases hkn : Json.known m.kind = true
        · have HAL : Hid ((l.take (k + 1)).all (fun m => Json.known m.kind) = true) := by show _ = _; rw [HST.out, hal.out, hkn]; rfl
          have hcs : m.kind = 1 ∨ m.kind = 2 ∨ m.kind = 3 := by simpa [Json.known, or_assoc] using hkn
          clear hkn HST
          rcases hcs with q | q | q
          all_goals
            rw [q] at d1 f1 X0
            go_wp2
            go_roundw
            case rel => exact ⟨k + 1, by omega, by first | rfl | trivial, by go_num, X0.out, HAL.out⟩
            case measure => simp [intOf] <;> omega
        · have HRR : Hid (R = X (e 0)) := by
            show _ = _
            rw [← HR.out]
            unfold Json.check
            rw [if_neg h32, if_pos ?_]
            · rfl
            · cases hx : l.all (fun m => Json.known m.kind) with
              | false => rfl
              | true => exact absurd (List.all_eq_true.1 hx m HMM.out) hkn
          have q1 : (m.kind != 1) = true := bne_iff_ne.2 fun h => hkn (by simp [Json.known, h])
          have q2 : (m.kind != 2) = true := bne_iff_ne.2 fun h => hkn (by simp [Json.known, h])
          have q3 : (m.kind != 3) = true := bne_iff_ne.2 fun h => hkn (by simp [Json.known, h])
          clear hkn HST
          go_wp2
          go_ret
          exact ⟨by rw [HRR.out]; rfl, X0.out⟩
      · obtain rfl : k = l.length := by omega
        have HK : Hid (l.all (fun m => Json.known m.kind) = true) := by
          have := hal.out; rw [List.take_length] at this; exact this
        have HX := hide hnx
        clear hnx hal hk hlt
        go_wp2_with fail
        generalize wr = w1 at *
        have HT1 := hide (tabs_below HT.out HX.out)
        have HE1 := hide (HE.out.below HX.out)
        have HL1 := hide (HL.out.below HX.out)
        go_loopw [2, 34] (fun r i wr => ∃ k : Nat, k ≤ l.length ∧ r = .nilIface ∧ i = .int .i64 k ∧ Below w1.heap.size w1 wr ∧ Hid ((l.take k).all Json.plainMem = true)) (fun _ i _ => l.length - (intOf i).toNat)
        case atStart => exact ⟨0, Nat.zero_le _, rfl, rfl, Below.refl _ _, by show _ = _; simp⟩
        case round =>
          obtain ⟨k, hk, rfl, rfl, hnx, hal⟩ := hrel
          have hsz := hnx.size
          by_cases hlt : k < l.length
          · have hki : (k : Int) < (l.length : Int) := by omega
            have k0 : (0 : Int) ≤ (k : Int) := Int.natCast_nonneg _
            obtain ⟨b, o, rfl, hb, ha⟩ := HA.out k hlt
            have hA := (ha.below HX.out hb).below hnx (Nat.lt_of_lt_of_le hb HX.out.size)
            have d0 := hA.c0
            have d1 := hA.c1
            have d2 := hA.c2
            have d3 := hA.c3
            have d4 := hA.c4
            have HST := hide (all_step Json.plainMem l k hlt)
            have HMM : Hid (l[k] ∈ l) := List.getElem_mem hlt
            generalize l[k] = m at *
            have hM := mem_new wr m 37
            have f0 := hM.c0
            have hW0 := hnx.alloc hsz (.cells #[S m.name, .int .i64 m.kind, S m.text, .int .i64 m.num, .bool m.flag] 37)
            have X0 := hide hW0
            have HM := hide hM
            have HSZ : Hid ((wr.alloc (.cells #[S m.name, .int .i64 m.kind, S m.text, .int .i64 m.num, .bool m.flag] 37)).heap.size = wr.heap.size + 1) := by show _ = _; simp
            clear hnx ha hA hM hW0
            go_wp2_with fail
            generalize wr.alloc (.cells #[S m.name, .int .i64 m.kind, S m.text, .int .i64 m.num, .bool m.flag] 37) = W0 at *
            generalize wr.heap.size = P at *
            clear d0 d1 d2 d3 d4
            refine (isPlain_any ⟨m.name.toArray⟩ W0 (by have := (HZ.out m HMM.out).1; rw [str_size]; omega) (tabs_below HT1.out X0.out)).mono ?_
            rintro x w2 ⟨rfl, hb2⟩
            have hM2 := HM.out.below hb2 (by have := HSZ.out; omega)
            have g1 := hM2.c1
            have g2 := hM2.c2
            have HM2 := hide hM2
            have X2 := hide (X0.out.trans (hb2.mono X0.out.size))
            have HLT2 : Hid (P < w2.heap.size) := by show _ < _; have := HSZ.out; have := hb2.size; omega
            clear hb2 hM2 f0
            rw [str_list]
            have HRR : Hid (Json.plainMem m = false → R = X (e 1)) := by
              intro hpm
              rw [← HR.out]
              unfold Json.check
              rw [if_neg h32, HK.out, if_neg (by decide), if_pos ?_]
              · rfl
              · cases hx : l.all Json.plainMem with
                | false => rfl
                | true => rw [List.all_eq_true.1 hx m HMM.out] at hpm; cases hpm
            by_cases hvn : Lib.validD m.name = true
            · rw [hvn]
              by_cases hk1 : m.kind = 1
              · have q1 : (m.kind == 1) = true := by rw [hk1]; rfl
                go_wp2_with fail
                refine (isPlain_any ⟨m.text.toArray⟩ w2 (by have := (HZ.out m HMM.out).2; rw [str_size]; omega) (tabs_below HT1.out X2.out)).mono ?_
                rintro x w3 ⟨rfl, hb3⟩
                have X3 := hide (X2.out.trans (hb3.mono X2.out.size))
                have ce := (HE1.out.below X3.out).text
                clear hb3 g1 g2
                rw [str_list]
                by_cases hvt : Lib.validD m.text = true
                · have HAL : Hid ((l.take (k + 1)).all Json.plainMem = true) := by show _ = _; rw [HST.out, hal.out]; simp [Json.plainMem, hvn, hvt]
                  rw [hvt]
                  clear ce
                  go_wp2
                  go_roundw
                  case rel => exact ⟨k + 1, by omega, by first | rfl | trivial, by go_num, X3.out, HAL.out⟩
                  case measure => simp [intOf] <;> omega
                · have hvt : Lib.validD m.text = false := by simpa using hvt
                  have HRF := hide (HRR.out (by simp [Json.plainMem, hvn, hvt, hk1]))
                  rw [hvt]
                  go_wp2
                  go_ret
                  exact ⟨by rw [HRF.out]; rfl, HX.out.trans (X3.out.mono HX.out.size)⟩
              · have q1 : (m.kind == 1) = false := beq_false_of_ne hk1
                have HAL : Hid ((l.take (k + 1)).all Json.plainMem = true) := by show _ = _; rw [HST.out, hal.out]; simp [Json.plainMem, hvn, hk1]
                go_wp2
                go_roundw
                case rel => exact ⟨k + 1, by omega, by first | rfl | trivial, by go_num, X2.out, HAL.out⟩
                case measure => simp [intOf] <;> omega
            · have hvn : Lib.validD m.name = false := by simpa using hvn
              have HRF := hide (HRR.out (by simp [Json.plainMem, hvn]))
              have ce := (HE1.out.below X2.out).text
              rw [hvn]
              go_wp2
              go_ret
              exact ⟨by rw [HRF.out]; rfl, HX.out.trans (X2.out.mono HX.out.size)⟩
          · obtain rfl : k = l.length := by omega
            have HP : Hid (l.all Json.plainMem = true) := by
              have := hal.out; rw [List.take_length] at this; exact this
            have HX2 := hide (HX.out.trans (hnx.mono HX.out.size))
            clear hnx hal hk hlt
            go_wp2_with fail
            refine (someNameTwice_any _ l wr (HL.out.below HX2.out) hn).mono ?_
            rintro x w3 ⟨rfl, hb3⟩
            have X3 := hide (HX2.out.trans (hb3.mono HX2.out.size))
            have ce := (HE.out.below X3.out).twice
            clear hb3
            by_cases ht : Json.twice l = true
            · have HRF : Hid (R = X (e 3)) := by
                show _ = _
                rw [← HR.out]; unfold Json.check; rw [if_neg h32, HK.out, if_neg (by decide), HP.out, if_neg (by decide), if_pos ht]; rfl
              rw [ht]
              go_wp2
              go_ret
              exact ⟨by rw [HRF.out]; rfl, X3.out⟩
            · have HRF : Hid (R = .nilIface) := by
                show _ = _
                rw [← HR.out]; unfold Json.check; rw [if_neg h32, HK.out, if_neg (by decide), HP.out, if_neg (by decide), if_neg ht]; rfl
              have ht : Json.twice l = false := by simpa using ht
              rw [ht]
              clear ce
              go_wp2
              go_ret
              exact ⟨by rw [HRF.out]; rfl, X3.out⟩
end Go.Proofs.YtkkgngmhdlmgnaaDoor.jw
