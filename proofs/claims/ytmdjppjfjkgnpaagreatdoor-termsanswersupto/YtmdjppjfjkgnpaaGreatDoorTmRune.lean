import Derived.Test.YtmdjppjfjkgnpaaGreatDoorTmPriv
import Derived.Test.YtmdjppjfjkgnpaaGreatDoorTermLays3
import Derived.Laws.Runes
import Derived.Laws.RangeAny
import Derived.Deep.LoopGhost
import Derived.Shelf.Small.Utf8
import Derived.Lib.IndexAny
import Derived.WalkMore
namespace Go.Proofs.YtmdjppjfjkgnpaaGreatDoor.tm
open Go.ChangeShapes Go.WideShapes Go.ChangeAt Go.RowKit Go.Proofs.YtmdjppjfjkgnpaaGreatDoor.common Go.Proofs.YtmdjppjfjkgnpaaGreatDoor.bk
attribute [local go_sem ↓] Go.wp_at_zero Go.wp_at_succ

theorem valid_eq (r : Int) : Lib.validRune r = Utf8.valid r := by
  unfold Lib.validRune Utf8.valid
  rw [Bool.eq_iff_iff]
  simp
  try omega
theorem valid_c (r : Int) (w : World) : Calls Tryz.prog 81 #[.int .i32 r] w fun e w' => e = .returned (.bool (Utf8.valid r)) ∧ w' = w := by
  have h := Any.utf8_ValidRune jl.lays119 r w
  rw [valid_eq] at h
  exact h

/-- bytes of ASCII alone -/
def Asc (s : ByteArray) : Prop := ∀ j (h : j < s.size), (s[j]'h).toNat < 128

theorem below_drewN (b : Nat) (w : World) (n : Nat) : Below b w (w.drewN n) := ⟨rfl, rfl, rfl, Nat.le_refl _, fun _ _ => rfl⟩

set_option maxRecDepth 100000 in
set_option maxHeartbeats 6400000 in
theorem indexRune_high (s : ByteArray) (r : Int) (w : World) (hs : s.size ≤ 3) (ha : Asc s) (h : 128 ≤ r) (h2 : r ≤ 2147483647) :
    Calls Tryz.prog 62 #[.string s, .int .i32 r] w fun e w' => e = .returned (.int .i64 (-1)) ∧ Below w.heap.size w w' := by
  have HA := hide ha
  have r0 : (0 : Int) ≤ r := by omega
  have r1 : decide (r < 128) = false := decide_eq_false (by omega)
  have r1n : ¬ r < 128 := by omega
  clear ha
  by_cases he : r = 65533
  · subst he
    go_enter Tryz.func62, Tryz.ntmps62
    go_wp2_with fail
    go_loopg [5, 6] s.size (fun g _ _ wx => ∃ i : Nat, i + g = s.size ∧ wx = w.iter s i)
    case atStart => exact ⟨0, by omega, rfl⟩
    case round =>
      obtain ⟨i, hig, rfl⟩ := hrel
      cases gk with
      | zero =>
        obtain rfl : i = s.size := by omega
        have hnx := run_next_end (P := Tryz.prog) w s s.size
        go_wp2
        go_ret
        exact ⟨rfl, (Below.refl _ _).alloc (Nat.le_refl _) _⟩
      | succ g =>
        have hlt : i < s.size := by omega
        have hai := HA.out i hlt
        have hnx := fun ty => run_next_ascii (P := Tryz.prog) w s i ty hlt hai
        have hne : ((s[i].toNat : Int) == 65533) = false := beq_false_of_ne (by omega)
        have hne2 : ¬ (s[i].toNat : Int) = 65533 := by omega
        go_wp2
        go_roundg g
        case rel => exact ⟨i + 1, by omega, rfl⟩
        all_goals omega
  · have heb : (r == 65533) = false := beq_false_of_ne he
    have HV := hide (valid_c r w)
    cases hv : Utf8.valid r with
    | false =>
      rw [hv] at HV
      clear hv
      go_enter Tryz.func62, Tryz.ntmps62
      go_wp2_with (go_at_call 81; refine HV.out.mono ?_; rintro x w2 ⟨rfl, rfl⟩)
      go_ret
      exact ⟨rfl, Below.refl _ _⟩
    | true =>
      rw [hv] at HV
      obtain ⟨n2, n4, hl⟩ := encode_facts r hv h
      clear hv
      go_enter Tryz.func62, Tryz.ntmps62
      go_wp2_with (go_at_call 81; refine HV.out.mono ?_; rintro x w2 ⟨rfl, rfl⟩)
      go_step3
      obtain ⟨E, hE⟩ : ∃ E, Utf8.encode r = E := ⟨_, rfl⟩
      rw [hE] at n2 n4 hl
      obtain ⟨m, hm⟩ : ∃ m, E.size = m + 1 := ⟨E.size - 1, by omega⟩
      have hl1 : m < E.size := by omega
      have HC := hide (hl (by omega))
      have hmm : E.size - 1 = m := by omega
      have HD : Hid (128 ≤ (E[m]'hl1).toNat) := by
        have := HC.out
        simp only [hmm] at this
        exact this
      have w1 : IntKind.i64.wrap ((E.size : Int) - 1) = (m : Int) := by rw [wrap_le _ (by omega) (by omega)]; omega
      have w64 : wrap64 ((E.size : Int) - 1) = (m : Int) := by rw [IntWalk.wrap64_in _ (by omega)]; omega
      have hEi : (m : Int) < (E.size : Int) := by omega
      clear hl HC hmm n2
      have HM := hide hm
      clear hm
      go_wp2_with fail
      go_loopw [9, 10] (fun i f wr => i = .int .i64 (m : Int) ∧ f = .int .i64 0 ∧ w2 = wr) (fun _ _ _ => 0)
      case atStart => exact ⟨rfl, rfl, rfl⟩
      case round =>
        obtain ⟨rfl, rfl, rfl⟩ := hrel
        by_cases hlt : m < s.size
        · have hlti : (m : Int) < (s.size : Int) := by omega
          have hsa := HA.out m hlt
          have hne : ¬ (s[m].toNat : Int) = (E[m].toNat : Int) := by have := HD.out; omega
          have hneb : ((s[m].toNat : Int) == (E[m].toNat : Int)) = false := beq_false_of_ne hne
          have HIX : Hid (∀ W, Calls Tryz.prog 80 #[.string (s.extract (m + 1) s.size), B E[m]] W fun e w' => e = .returned (.int .i64 (-1)) ∧ w' = W) := fun W => by
            have hx : Lib.indexByte (s.extract (m + 1) s.size).data.toList E[m] = -1 := by
              rcases fd.index_cases E[m] (s.extract (m + 1) s.size).data.toList with ⟨h1, _⟩ | ⟨i, _, h2, h3, _⟩
              · exact h1
              · exfalso
                rw [ext_list] at h2 h3
                rw [List.length_take, List.length_drop, len_list] at h2
                have e := congrArg (fun q => q[i]?) h3
                rw [List.getElem?_append_right (by rw [List.length_take, List.length_take, List.length_drop, len_list]; omega)] at e
                have hz : i - (((s.data.toList.drop (m + 1)).take (s.size - (m + 1))).take i).length = 0 := by
                  rw [List.length_take, List.length_take, List.length_drop, len_list]; omega
                rw [hz, List.getElem?_take_of_lt (by omega), List.getElem?_drop, List.getElem?_eq_getElem (by rw [len_list]; omega)] at e
                have e2 : s[m + 1 + i]'(by omega) = E[m] := by simpa [ByteArray.getElem_eq_getElem_data] using e
                have := HA.out (m + 1 + i) (by omega)
                rw [e2] at this
                have := HD.out
                omega
            have := stringsIx_any (s.extract (m + 1) s.size) E[m] W
            rw [hx] at this
            exact this
          obtain ⟨p, hp⟩ : ∃ p, m + 1 = p := ⟨_, rfl⟩
          have hm2 : (p : Int) ≤ (s.size : Int) := by omega
          rw [hp] at HIX
          have w66 : IntKind.i64.wrap ((m : Int) + 1) = (p : Int) := by rw [wrap_le _ (by omega) (by omega)]; omega
          have w65 : wrap64 ((m : Int) + 1) = (p : Int) := by rw [IntWalk.wrap64_in _ (by omega)]; omega
          clear hp
          go_wp2_with fail
          go_step3
          go_wp2_with fail
          go_quiet (fail)
          go_wp2_with fail
          go_quiet ((go_at_call 80; exact (HIX.out _).mono fun e w' h => ⟨h.1, _, h.2⟩))
          go_wp2_with fail
          rw [Exit.noGoto_ret]
          unfold Exit.inBlock
          go_wp2_with fail
          rw [Exit.noGoto_ret]
          unfold Exit.inBlock
          go_ret
          exact ⟨rfl, below_drewN _ _ _⟩
        · have hlti : ¬ (m : Int) < (s.size : Int) := by omega
          go_wp2_with fail
          try rw [Exit.noGoto_ret]
          go_ret
          exact ⟨rfl, Below.refl _ _⟩

/-- the bytes that a rune of more than ASCII takes are all above ASCII -/
theorem decode_run (s : ByteArray) (p : Nat) (h : p < s.size) (ha : 128 ≤ (s[p]'h).toNat) (j : Nat) (hj : p ≤ j) (hk : j < p + (Utf8.decode s p).2) : ∃ hh : j < s.size, 128 ≤ (s[j]'hh).toNat := by
  have hn : ¬ (s[p]'h).toNat < 128 := by omega
  have hg : ∀ k, (hlt : p + k < s.size) → s.get! (p + k) = s[p + k]'hlt := fun k hlt => get_at s (p + k) hlt
  have hc : ∀ k, (decide (p + k < s.size) && (s.get! (p + k)).toNat / 64 == 2) = true → ∃ hh : p + k < s.size, 128 ≤ (s[p + k]'hh).toNat := by
    intro k hk
    rw [Bool.and_eq_true] at hk
    have h1 := of_decide_eq_true hk.1
    have h2 := beq_iff_eq.1 hk.2
    rw [hg k h1] at h2
    exact ⟨h1, by omega⟩
  have h0 : ∀ q, q = p → ∃ hh : q < s.size, 128 ≤ (s[q]'hh).toNat := by rintro q rfl; exact ⟨h, ha⟩
  simp only [Utf8.decode, get_at s p h, hn, if_false] at hk
  split at hk
  · next e =>
    rw [Bool.and_eq_true] at e
    have c1 := hc 1 e.2
    split at hk
    · simp only at hk
      rcases (by omega : j = p ∨ j = p + 1) with rfl | rfl
      · exact h0 _ rfl
      · exact c1
    · exact h0 _ (by simp only at hk; omega)
  · split at hk
    · next e =>
      rw [Bool.and_eq_true, Bool.and_eq_true] at e
      have c1 := hc 1 e.1.2
      have c2 := hc 2 e.2
      split at hk
      · simp only at hk
        rcases (by omega : j = p ∨ j = p + 1 ∨ j = p + 2) with rfl | rfl | rfl
        · exact h0 _ rfl
        · exact c1
        · exact c2
      · exact h0 _ (by simp only at hk; omega)
    · split at hk
      · next e =>
        rw [Bool.and_eq_true, Bool.and_eq_true, Bool.and_eq_true] at e
        have c1 := hc 1 e.1.1.2
        have c2 := hc 2 e.1.2
        have c3 := hc 3 e.2
        split at hk
        · simp only at hk
          rcases (by omega : j = p ∨ j = p + 1 ∨ j = p + 2 ∨ j = p + 3) with rfl | rfl | rfl | rfl
          · exact h0 _ rfl
          · exact c1
          · exact c2
          · exact c3
        · exact h0 _ (by simp only at hk; omega)
      · exact h0 _ (by simp only at hk; omega)

end Go.Proofs.YtmdjppjfjkgnpaaGreatDoor.tm
