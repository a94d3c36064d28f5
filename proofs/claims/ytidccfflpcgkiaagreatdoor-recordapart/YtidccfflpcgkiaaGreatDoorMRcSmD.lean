import Derived.Test.YtidccfflpcgkiaaGreatDoorMRcRows
import Derived.Test.YtidccfflpcgkiaaGreatDoorMRdSameD
namespace Go.Proofs.YtidccfflpcgkiaaGreatDoor.rc
open Go.ChangeShapes Go.WideShapes Go.ChangeAt Go.RowKit Go.Proofs.YtidccfflpcgkiaaGreatDoor.common Go.Proofs.YtidccfflpcgkiaaGreatDoor.ss
attribute [local go_sem ↓] Go.wp_at_zero Go.wp_at_succ

theorem str_ne {a b : ByteArray} (h : a ≠ b) : (a.toList == b.toList) = false := by
  rw [beq_eq_false_iff_ne]
  intro e
  apply h
  apply ByteArray.ext
  apply Array.ext'
  rw [← ByteArray.toList_eq, ← ByteArray.toList_eq]
  exact e
set_option maxRecDepth 100000 in
set_option maxHeartbeats 1600000 in
theorem sameStr_dec (va vb : Value) (l m : List ByteArray) (w : World) (ha : Lies w va l) (hb : Lies w vb m) (hs : l.length ≤ 4611686018427387904) (_hs2 : m.length ≤ 4611686018427387904) :
    Calls Tryz.prog 35 #[va, vb] w fun e w' => e = .returned (.bool (decide (l = m))) ∧ Below w.heap.size w w' := by
  obtain ⟨oa, ca, rfl, hca⟩ := ha
  obtain ⟨ob, cb, rfl, hcb⟩ := hb
  by_cases hlen : l.length = m.length
  · have HLEN := hide hlen
    have HA := hide hca
    have HB := hide hcb
    rw [hlen]
    rw [hlen] at hs
    clear hca hcb hlen _hs2
    go_enter Tryz.func35, Tryz.ntmps35
    go_wp2_with fail
    go_loopw [5] (fun i wr => ∃ k : Nat, k ≤ m.length ∧ i = .int .i64 k ∧ l.take k = m.take k ∧ Below w.heap.size w wr) (fun i _ => m.length - (intOf i).toNat)
    case atStart => exact ⟨0, Nat.zero_le _, rfl, rfl, Below.refl _ _⟩
    case round =>
      obtain ⟨k, hk, rfl, htk, hnx⟩ := hrel
      have HTK := hide htk
      clear htk
      by_cases hlt : k < m.length
      · have hki : (k : Int) < (m.length : Int) := by omega
        have HL1 : Hid (k < l.length) := by show _ < _; rw [HLEN.out]; exact hlt
        obtain ⟨b, o, rfl, hb, c0⟩ := HA.out k HL1.out
        obtain ⟨b', o', rfl, hb', c0'⟩ := HB.out k hlt
        have d0 := (hnx.cell (p := ⟨b, o + k, none⟩) hb).trans c0
        have d0' := (hnx.cell (p := ⟨b', o' + k, none⟩) hb').trans c0'
        have HX := hide hnx
        clear hnx c0 c0'
        have k0 : (0 : Int) ≤ (k : Int) := Int.natCast_nonneg _
        by_cases he : l[k]'HL1.out = m[k]
        · have HN := hide (dk.take_same HTK.out HL1.out hlt he)
          rw [he] at d0
          clear he
          generalize m[k] = p at *
          go_wp2_with fail
          go_region_held3 (fun W => W.cell? ⟨b, o + k, none⟩ = some (.string p) ∧ W.cell? ⟨b', o' + k, none⟩ = some (.string p)) (go_keep) (fail)
          all_goals
            go_wp2_with fail
            go_roundw
            case rel => exact ⟨k + 1, by omega, by go_num, HN.out, HX.out.drew⟩
            case measure => simp [intOf]; omega
        · have HN : Hid (decide (l = m) = false) := decide_eq_false (dk.take_diff HL1.out hlt he)
          generalize l[k]'HL1.out = p at *
          generalize m[k] = p' at *
          have q1 := str_ne he
          go_wp2_with fail
          go_region_held3 (fun W => W.cell? ⟨b, o + k, none⟩ = some (.string p) ∧ W.cell? ⟨b', o' + k, none⟩ = some (.string p')) (go_keep) (fail)
          all_goals
            go_wp2_with fail
            go_ret
            exact ⟨by rw [HN.out]; rfl, HX.out.drew⟩
      · obtain rfl : k = m.length := by omega
        have HN : Hid (decide (l = m) = true) := decide_eq_true (by
          have h := HTK.out
          rw [List.take_of_length_le (by rw [HLEN.out]; exact Nat.le_refl _), List.take_length] at h
          exact h)
        have H2 := hide hnx
        clear hnx
        go_wp2_with fail
        go_ret
        exact ⟨by rw [HN.out]; rfl, H2.out⟩
  · have HN : Hid (decide (l = m) = false) := decide_eq_false (fun e => hlen (by rw [e]))
    have q : ((l.length : Int) != (m.length : Int)) = true := by rw [bne_iff_ne]; omega
    have q2 : ¬ (l.length : Int) = (m.length : Int) := by omega
    clear hlen hca hcb
    go_enter Tryz.func35, Tryz.ntmps35
    go_wp2_with fail
    go_ret
    exact ⟨by rw [HN.out]; rfl, Below.refl _ _⟩
end Go.Proofs.YtidccfflpcgkiaaGreatDoor.rc
