import Derived.Test.YtkkgngmhdlmgnaaDoorMList
import Derived.Test.YtkkgngmhdlmgnaaDoorRefQuote2
import Derived.Deep.RegionHeld3
import Derived.Deep.QuietTactic
import Derived.BigQuiet
namespace Go.Proofs.YtkkgngmhdlmgnaaDoor.jw
open Go.ChangeShapes Go.WideShapes Go.ChangeAt Go.RowKit Go.Proofs.YtkkgngmhdlmgnaaDoor.common
attribute [local go_sem ↓] Go.wp_at_zero Go.wp_at_succ

theorem check_1 {l : List Mem} (h : ¬ 32 < l.length) (i : Nat) (hi : i < l.length) (hk : Json.known l[i].kind = false) : Json.check l = 1 := by
  unfold Json.check
  rw [if_neg h, if_pos]
  rw [List.all_eq_false]
  exact ⟨l[i], List.getElem_mem hi, by simp [hk]⟩
theorem all_get {l : List Mem} {f : Mem → Bool} (h : ∀ i (hi : i < l.length), f l[i] = true) : l.all f = true := by
  rw [List.all_eq_true]
  intro m hm
  obtain ⟨i, hi, rfl⟩ := List.getElem_of_mem hm
  exact h i hi
theorem check_2 {l : List Mem} (h : ¬ 32 < l.length) (ha : ∀ i (hi : i < l.length), Json.known l[i].kind = true) (i : Nat) (hi : i < l.length) (hk : Json.plainMem l[i] = false) : Json.check l = 2 := by
  unfold Json.check
  rw [if_neg h, if_neg (by rw [all_get (f := fun m => Json.known m.kind) ha]; decide), if_pos]
  rw [List.all_eq_false]
  exact ⟨l[i], List.getElem_mem hi, by simp [hk]⟩
theorem check_t {l : List Mem} (h : ¬ 32 < l.length) (ha : ∀ i (hi : i < l.length), Json.known l[i].kind = true) (hp : ∀ i (hi : i < l.length), Json.plainMem l[i] = true) : Json.check l = if Json.twice l = true then 4 else 0 := by
  unfold Json.check
  rw [if_neg h, if_neg (by rw [all_get (f := fun m => Json.known m.kind) ha]; decide), if_neg (by rw [all_get hp]; decide)]

set_option maxRecDepth 100000 in
set_option maxHeartbeats 1600000 in
theorem refTwice_any (v : Value) (l : List Mem) (w : World) (hl : Lies w v l) (hn : l.length ≤ 4611686018427387904) :
    Calls Tryd.prog 22 #[v] w fun e w' => e = .returned (.bool (Json.twice l)) ∧ Below w.heap.size w w' := by
  obtain ⟨R, hR⟩ : ∃ R, Json.twice l = R := ⟨_, rfl⟩
  have HT := hide (twice_iff l)
  rw [hR] at HT
  rw [hR]
  clear hR
  obtain ⟨oa, ca, rfl, hcp, hca⟩ := hl
  have HA := hide hca
  clear hca
  go_enter Tryd.func22, Tryd.ntmps22
  go_wp2_with fail
  go_loopw [2, 3] (fun r i wr => ∃ k : Nat, k ≤ l.length ∧ r = .bool false ∧ i = .int .i64 k ∧ Below w.heap.size w wr ∧ Hid (∀ i j : Nat, ∀ (hj : j < i) (hi : i < l.length), i < k → (l[j]'(Nat.lt_trans hj hi)).name ≠ l[i].name)) (fun _ i _ => l.length - (intOf i).toNat)
  case atStart => exact ⟨0, Nat.zero_le _, rfl, rfl, Below.refl _ _, fun i j _ _ h => by omega⟩
  case round =>
    obtain ⟨k, hk, rfl, rfl, hnx, hno⟩ := hrel
    by_cases hlt : k < l.length
    · have hki : (k : Int) < (l.length : Int) := by omega
      have k0 : (0 : Int) ≤ (k : Int) := Int.natCast_nonneg _
      have HX := hide hnx
      clear hnx
      go_wp2_with fail
      go_loopw [2, 4] (fun r i wr => ∃ q : Nat, q ≤ k ∧ r = .bool false ∧ i = .int .i64 q ∧ Below w.heap.size w wr ∧ Hid (∀ j : Nat, ∀ (hj : j < l.length), j < q → l[j].name ≠ l[k].name)) (fun _ i _ => k - (intOf i).toNat)
      case atStart => exact ⟨0, Nat.zero_le _, rfl, rfl, HX.out, fun j _ h => by omega⟩
      case round =>
        obtain ⟨q, hq, rfl, rfl, hnx2, hno2⟩ := hrel
        by_cases hlt2 : q < k
        · have hqi : (q : Int) < (k : Int) := by omega
          have q0 : (0 : Int) ≤ (q : Int) := Int.natCast_nonneg _
          have hql : q < l.length := by omega
          have hqi2 : (q : Int) < (l.length : Int) := by omega
          obtain ⟨b, o, rfl, hb, ha⟩ := HA.out k hlt
          obtain ⟨b', o', ho', hb', ha'⟩ := HA.out q hql
          simp only [Option.some.injEq, Addr.mk.injEq, and_true] at ho'
          obtain ⟨rfl, rfl⟩ := ho'
          have d0 := (ha.below hnx2 hb).c0
          have e0 := (ha'.below hnx2 hb).c0
          have HX2 := hide hnx2
          clear hnx2 ha ha'
          obtain ⟨nk, hnk⟩ : ∃ n, l[k].name = n := ⟨_, rfl⟩
          obtain ⟨nq, hnq⟩ : ∃ n, l[q].name = n := ⟨_, rfl⟩
          rw [hnk] at d0
          rw [hnq] at e0
          have HNK := hide hnk
          have HNQ := hide hnq
          clear hnk hnq
          by_cases heq : nk = nq
          · subst heq
            have HRES : Hid (R = true) := HT.out.2 ⟨k, q, hlt2, hlt, by rw [HNK.out, HNQ.out]⟩
            go_wp2_with fail
            go_region_held3 (fun W => W.cell? ⟨b, o + k * 5, none⟩ = some (S nk) ∧ W.cell? ⟨b, o + q * 5, none⟩ = some (S nk)) (go_keep) (fail)
            all_goals
              go_wp2
              go_ret
              exact ⟨by rw [HRES.out]; rfl, HX2.out.drew⟩
          · have hbe : (nk == nq) = false := beq_false_of_ne heq
            have HNE := hide heq
            clear heq
            go_wp2_with fail
            go_region_held3 (fun W => W.cell? ⟨b, o + k * 5, none⟩ = some (S nk) ∧ W.cell? ⟨b, o + q * 5, none⟩ = some (S nq)) (go_keep) (fail)
            all_goals
              go_wp2
              go_roundw
              case rel => exact ⟨q + 1, by omega, by first | rfl | trivial, by go_num, HX2.out.drew, fun j hj h => by
                by_cases hjq : j = q
                · subst hjq; rw [HNK.out, HNQ.out]; exact fun h => HNE.out h.symm
                · exact hno2.out j hj (by omega)⟩
              case measure => simp [intOf] <;> omega
        · have hqi : ¬ (q : Int) < (k : Int) := by omega
          have hqk : q = k := by omega
          have HX2 := hide hnx2
          clear hnx2
          go_wp2
          go_roundw
          case rel => exact ⟨k + 1, by omega, by first | rfl | trivial, by go_num, HX2.out, fun i j hj hi h => by
            by_cases hik : i = k
            · subst hik; exact hno2.out j (by omega) (by omega)
            · exact hno.out i j hj hi (by omega)⟩
          case measure => simp [intOf] <;> omega
    · obtain rfl : k = l.length := by omega
      have HRES : Hid (R = false) := by
        show _ = _
        cases R with
        | false => rfl
        | true =>
          obtain ⟨i, j, hj, hi, he⟩ := HT.out.1 rfl
          exact absurd he (hno.out i j hj hi hi)
      have HX := hide hnx
      clear hnx
      go_wp2
      go_ret
      exact ⟨by rw [HRES.out]; rfl, HX.out⟩

theorem known_iff (k : Int) : Json.known k = true ↔ (k = 1 ∨ k = 2 ∨ k = 3) := by
  unfold Json.known
  simp [or_assoc]

set_option maxRecDepth 100000 in
set_option maxHeartbeats 3200000 in
theorem refCheck_any (v : Value) (l : List Mem) (w : World) (hl : Lies w v l) (hz : ∀ m ∈ l, m.name.length + m.text.length ≤ 140737488355328) (hn : l.length ≤ 4611686018427387904) :
    Calls Tryd.prog 24 #[v] w fun e w' => e = .returned (.int .i64 ((Json.check l : Nat) : Int)) ∧ Below w.heap.size w w' := by
  have HLL := hide hl
  have HZ := hide hz
  obtain ⟨oa, ca, rfl, hcp, hca⟩ := hl
  have HA := hide hca
  clear hca hz
  by_cases h32 : 32 < l.length
  · have HC : Hid (Json.check l = 3) := by show _ = _; unfold Json.check; rw [if_pos h32]
    have h32' : (32 : Int) < (l.length : Int) := by omega
    rw [HC.out]
    go_enter Tryd.func24, Tryd.ntmps24
    go_wp2
    go_ret
    exact ⟨rfl, Below.refl _ _⟩
  · have h32' : ¬ (32 : Int) < (l.length : Int) := by omega
    obtain ⟨R, hR⟩ : ∃ R : Int, ((Json.check l : Nat) : Int) = R := ⟨_, rfl⟩
    have HR := hide hR
    rw [hR]
    clear hR
    go_enter Tryd.func24, Tryd.ntmps24
    go_wp2_with fail
    go_loopw [2, 3] (fun r i wr => ∃ k : Nat, k ≤ l.length ∧ r = .int .i64 0 ∧ i = .int .i64 k ∧ wr = w ∧ Hid (∀ i (hi : i < l.length), i < k → Json.known l[i].kind = true)) (fun _ i _ => l.length - (intOf i).toNat)
    case atStart => exact ⟨0, Nat.zero_le _, rfl, rfl, rfl, fun i _ h => by omega⟩
    case round =>
      obtain ⟨k, hk, rfl, rfl, hwr, hno⟩ := hrel
      obtain rfl : w = wr := hwr.symm
      by_cases hlt : k < l.length
      · have hki : (k : Int) < (l.length : Int) := by omega
        have k0 : (0 : Int) ≤ (k : Int) := Int.natCast_nonneg _
        obtain ⟨b, o, rfl, hb, ha⟩ := HA.out k hlt
        have d1 := ha.c1
        clear ha
        obtain ⟨K, hK⟩ : ∃ K, l[k].kind = K := ⟨_, rfl⟩
        rw [hK] at d1
        have HK := hide hK
        clear hK
        by_cases h123 : K = 1 ∨ K = 2 ∨ K = 3
        · have HKN : Hid (Json.known l[k].kind = true) := by show _ = _; rw [HK.out]; exact (known_iff K).2 h123
          rcases h123 with rfl | rfl | rfl
          · go_wp2
            go_roundw
            case rel => exact ⟨k + 1, by omega, by first | rfl | trivial, by go_num, by first | rfl | trivial, fun j hj h => by
              by_cases hjk : j = k
              · subst hjk; exact HKN.out
              · exact hno.out j hj (by omega)⟩
            case measure => simp [intOf] <;> omega
          · go_wp2
            go_roundw
            case rel => exact ⟨k + 1, by omega, by first | rfl | trivial, by go_num, by first | rfl | trivial, fun j hj h => by
              by_cases hjk : j = k
              · subst hjk; exact HKN.out
              · exact hno.out j hj (by omega)⟩
            case measure => simp [intOf] <;> omega
          · go_wp2
            go_roundw
            case rel => exact ⟨k + 1, by omega, by first | rfl | trivial, by go_num, by first | rfl | trivial, fun j hj h => by
              by_cases hjk : j = k
              · subst hjk; exact HKN.out
              · exact hno.out j hj (by omega)⟩
            case measure => simp [intOf] <;> omega
        · have HKN : Hid (Json.check l = 1) := check_1 h32 k hlt (by rw [HK.out]; exact Bool.eq_false_iff.2 fun h => h123 ((known_iff K).1 h))
          have n1 : ¬ K = 1 := fun h => h123 (Or.inl h)
          have n2 : ¬ K = 2 := fun h => h123 (Or.inr (Or.inl h))
          have n3 : ¬ K = 3 := fun h => h123 (Or.inr (Or.inr h))
          have m1 : (K == 1) = false := beq_false_of_ne n1
          have m2 : (K == 2) = false := beq_false_of_ne n2
          have m3 : (K == 3) = false := beq_false_of_ne n3
          have o1 : (K != 1) = true := by simp [bne, m1]
          have o2 : (K != 2) = true := by simp [bne, m2]
          have o3 : (K != 3) = true := by simp [bne, m3]
          clear h123
          go_wp2
          go_ret
          exact ⟨by rw [← HR.out, HKN.out]; rfl, Below.refl _ _⟩
      · obtain rfl : k = l.length := by omega
        have HKN : Hid (∀ i (hi : i < l.length), Json.known l[i].kind = true) := fun i hi => hno.out i hi hi
        clear hno
        go_wp2_with fail
        go_loopw [2, 4] (fun r i wr => ∃ k : Nat, k ≤ l.length ∧ r = .int .i64 0 ∧ i = .int .i64 k ∧ wr = w ∧ Hid (∀ i (hi : i < l.length), i < k → Json.plainMem l[i] = true)) (fun _ i _ => l.length - (intOf i).toNat)
        case atStart => exact ⟨0, Nat.zero_le _, rfl, rfl, rfl, fun i _ h => by omega⟩
        case round =>
          obtain ⟨k, hk, rfl, rfl, hwr, hno⟩ := hrel
          obtain rfl : w = wr := hwr.symm
          by_cases hlt : k < l.length
          · have hki : (k : Int) < (l.length : Int) := by omega
            have k0 : (0 : Int) ≤ (k : Int) := Int.natCast_nonneg _
            have hzz := HZ.out _ (List.getElem_mem hlt)
            obtain ⟨b, o, rfl, hb, ha⟩ := HA.out k hlt
            have d0 := ha.c0
            have d1 := ha.c1
            have d2 := ha.c2
            clear ha
            obtain ⟨p, hp⟩ : ∃ p, l[k] = p := ⟨_, rfl⟩
            rw [hp] at d0 d1 d2 hzz
            have HP := hide hp
            clear hp
            go_wp2_with fail
            refine (refPlain_any ⟨p.name.toArray⟩ w (by rw [str_size]; omega)).mono ?_
            rintro x w1 ⟨rfl, hww⟩
            obtain rfl : w = w1 := hww.symm
            rw [str_list]
            go_wp2_with fail
            refine (refPlain_any ⟨p.text.toArray⟩ w (by rw [str_size]; omega)).mono ?_
            rintro x w1 ⟨rfl, hww⟩
            obtain rfl : w = w1 := hww.symm
            rw [str_list]
            have hpm : Json.plainMem p = (Lib.validD p.name && (!(decide (p.kind = 1)) || Lib.validD p.text)) := rfl
            obtain ⟨K, hK⟩ : ∃ K, p.kind = K := ⟨_, rfl⟩
            rw [hK] at d1 hpm
            clear hK
            generalize Lib.validD p.name = b1 at *
            generalize Lib.validD p.text = b2 at *
            have HPM := hide hpm
            clear hpm hzz
            cases b1 with
            | false =>
              have HKN : Hid (Json.check l = 2) := check_2 h32 HKN.out k hlt (by rw [HP.out, HPM.out]; rfl)
              go_wp2
              go_ret
              exact ⟨by rw [← HR.out, HKN.out]; rfl, Below.refl _ _⟩
            | true =>
              by_cases hK1 : K = 1
              · subst hK1
                cases b2 with
                | false =>
                  have HKN : Hid (Json.check l = 2) := check_2 h32 HKN.out k hlt (by rw [HP.out, HPM.out]; rfl)
                  go_wp2
                  go_ret
                  exact ⟨by rw [← HR.out, HKN.out]; rfl, Below.refl _ _⟩
                | true =>
                  have HPP : Hid (Json.plainMem l[k] = true) := by show _ = _; rw [HP.out, HPM.out]; rfl
                  go_wp2
                  go_roundw
                  case rel => exact ⟨k + 1, by omega, by first | rfl | trivial, by go_num, by first | rfl | trivial, fun j hj h => by
                    by_cases hjk : j = k
                    · subst hjk; exact HPP.out
                    · exact hno.out j hj (by omega)⟩
                  case measure => simp [intOf] <;> omega
              · have hKe : (K == 1) = false := beq_false_of_ne hK1
                have HPP : Hid (Json.plainMem l[k] = true) := by show _ = _; rw [HP.out, HPM.out, decide_eq_false hK1]; rfl
                go_wp2
                go_roundw
                case rel => exact ⟨k + 1, by omega, by first | rfl | trivial, by go_num, by first | rfl | trivial, fun j hj h => by
                  by_cases hjk : j = k
                  · subst hjk; exact HPP.out
                  · exact hno.out j hj (by omega)⟩
                case measure => simp [intOf] <;> omega
          · obtain rfl : k = l.length := by omega
            have HCT : Hid (Json.check l = if Json.twice l = true then 4 else 0) := check_t h32 HKN.out (fun i hi => hno.out i hi hi)
            clear hno
            go_wp2_with fail
            refine (refTwice_any _ l w HLL.out hn).mono ?_
            rintro x w1 ⟨rfl, hb1⟩
            have HX1 := hide hb1
            clear hb1
            cases htw : Json.twice l with
            | true =>
              have HRR : Hid (R = 4) := by show _ = _; rw [← HR.out, HCT.out, htw]; rfl
              clear htw
              go_wp2
              go_ret
              exact ⟨by rw [HRR.out]; rfl, HX1.out⟩
            | false =>
              have HRR : Hid (R = 0) := by show _ = _; rw [← HR.out, HCT.out, htw]; rfl
              clear htw
              go_wp2
              go_ret
              exact ⟨by rw [HRR.out]; rfl, HX1.out⟩
end Go.Proofs.YtkkgngmhdlmgnaaDoor.jw
