import Derived.Test.YtilhfmhjgfmejaaGreatDoorMTermLays3
import Derived.Laws.Runes
import Derived.Laws.RangeAny
import Derived.Deep.LoopGhost
import Derived.Shelf.Small.Utf8
import Derived.Lib.IndexAny
import Derived.WalkMore
import Derived.Shelf.Strings.IndexAnyAll
import Derived.Lib.OthersKept
import Derived.Shelf.Lays
import Derived.Shelf.Lays2
import Derived.Shelf.LaysM
import Derived.Shelf.LaysC
import Derived.Shelf.Pu.Lays
import Derived.Ground.MpProg
import Derived.Ground.NamesProg
import Derived.Ground.Names2Prog
import Derived.Test.YtilhfmhjgfmejaaGreatDoorProg
namespace Go.Proofs.YtilhfmhjgfmejaaGreatDoor.tm
open Go.ChangeShapes Go.WideShapes Go.ChangeAt Go.RowKit Go.Proofs.YtilhfmhjgfmejaaGreatDoor.common Go.Proofs.YtilhfmhjgfmejaaGreatDoor.bk
attribute [local go_sem ↓] Go.wp_at_zero Go.wp_at_succ

theorem valid_eq (r : Int) : Lib.validRune r = Utf8.valid r := by
  unfold Lib.validRune Utf8.valid
  rw [Bool.eq_iff_iff]
  simp
  try omega
theorem valid_c (r : Int) (w : World) : Calls Tryz.prog 181 #[.int .i32 r] w fun e w' => e = .returned (.bool (Utf8.valid r)) ∧ w' = w := by
  have h := Any.utf8_ValidRune jl.lays119 r w
  rw [valid_eq] at h
  exact h

/-- bytes of ASCII alone -/
def Asc (s : ByteArray) : Prop := ∀ j (h : j < s.size), (s[j]'h).toNat < 128

theorem below_drewN (b : Nat) (w : World) (n : Nat) : Below b w (w.drewN n) := ⟨rfl, rfl, rfl, Nat.le_refl _, fun _ _ => rfl⟩

set_option maxRecDepth 100000 in
set_option maxHeartbeats 6400000 in
theorem indexRune_high (s : ByteArray) (r : Int) (w : World) (hs : s.size ≤ 3) (ha : Asc s) (h : 128 ≤ r) (h2 : r ≤ 2147483647) :
    Calls Tryz.prog 151 #[.string s, .int .i32 r] w fun e w' => e = .returned (.int .i64 (-1)) ∧ Below w.heap.size w w' := by
  have HA := hide ha
  have r0 : (0 : Int) ≤ r := by omega
  have r1 : decide (r < 128) = false := decide_eq_false (by omega)
  have r1n : ¬ r < 128 := by omega
  clear ha
  by_cases he : r = 65533
  · subst he
    go_enter Tryz.func151, Tryz.ntmps151
    go_wp2_with fail
    go_loopg [5, 6] s.size (fun g _ _ wx => ∃ i : Nat, i + g = s.size ∧ wx = w.iter s i)
    case atStart => exact ⟨0, by omega, rfl⟩
    case round =>
      obtain ⟨i, hig, rfl⟩ := hrel
      cases gk with
      | zero =>
        obtain rfl : i = s.size := by omega
        have hnx := run_next_end (P := Tryz.prog) w s s.size
        go_wp2
        go_ret
        exact ⟨rfl, (Below.refl _ _).alloc (Nat.le_refl _) _⟩
      | succ g =>
        have hlt : i < s.size := by omega
        have hai := HA.out i hlt
        have hnx := fun ty => run_next_ascii (P := Tryz.prog) w s i ty hlt hai
        have hne : ((s[i].toNat : Int) == 65533) = false := beq_false_of_ne (by omega)
        have hne2 : ¬ (s[i].toNat : Int) = 65533 := by omega
        go_wp2
        go_roundg g
        case rel => exact ⟨i + 1, by omega, rfl⟩
        all_goals omega
  · have heb : (r == 65533) = false := beq_false_of_ne he
    have HV := hide (valid_c r w)
    cases hv : Utf8.valid r with
    | false =>
      rw [hv] at HV
      clear hv
      go_enter Tryz.func151, Tryz.ntmps151
      go_wp2_with (go_at_call 181; refine HV.out.mono ?_; rintro x w2 ⟨rfl, rfl⟩)
      go_ret
      exact ⟨rfl, Below.refl _ _⟩
    | true =>
      rw [hv] at HV
      obtain ⟨n2, n4, hl⟩ := encode_facts r hv h
      clear hv
      go_enter Tryz.func151, Tryz.ntmps151
      go_wp2_with (go_at_call 181; refine HV.out.mono ?_; rintro x w2 ⟨rfl, rfl⟩)
      go_step3
      obtain ⟨E, hE⟩ : ∃ E, Utf8.encode r = E := ⟨_, rfl⟩
      rw [hE] at n2 n4 hl
      obtain ⟨m, hm⟩ : ∃ m, E.size = m + 1 := ⟨E.size - 1, by omega⟩
      have hl1 : m < E.size := by omega
      have HC := hide (hl (by omega))
      have hmm : E.size - 1 = m := by omega
      have HD : Hid (128 ≤ (E[m]'hl1).toNat) := by
        have := HC.out
        simp only [hmm] at this
        exact this
      have w1 : IntKind.i64.wrap ((E.size : Int) - 1) = (m : Int) := by rw [wrap_le _ (by omega) (by omega)]; omega
      have w64 : wrap64 ((E.size : Int) - 1) = (m : Int) := by rw [IntWalk.wrap64_in _ (by omega)]; omega
      have hEi : (m : Int) < (E.size : Int) := by omega
      clear hl HC hmm n2
      have HM := hide hm
      clear hm
      go_wp2_with fail
      go_loopw [9, 10] (fun i f wr => i = .int .i64 (m : Int) ∧ f = .int .i64 0 ∧ w2 = wr) (fun _ _ _ => 0)
      case atStart => exact ⟨rfl, rfl, rfl⟩
      case round =>
        obtain ⟨rfl, rfl, rfl⟩ := hrel
        by_cases hlt : m < s.size
        · have hlti : (m : Int) < (s.size : Int) := by omega
          have hsa := HA.out m hlt
          have hne : ¬ (s[m].toNat : Int) = (E[m].toNat : Int) := by have := HD.out; omega
          have hneb : ((s[m].toNat : Int) == (E[m].toNat : Int)) = false := beq_false_of_ne hne
          have HIX : Hid (∀ W, Calls Tryz.prog 180 #[.string (s.extract (m + 1) s.size), B E[m]] W fun e w' => e = .returned (.int .i64 (-1)) ∧ w' = W) := fun W => by
            have hx : Lib.indexByte (s.extract (m + 1) s.size).data.toList E[m] = -1 := by
              rcases fd.index_cases E[m] (s.extract (m + 1) s.size).data.toList with ⟨h1, _⟩ | ⟨i, _, h2, h3, _⟩
              · exact h1
              · exfalso
                rw [ext_list] at h2 h3
                rw [List.length_take, List.length_drop, len_list] at h2
                have e := congrArg (fun q => q[i]?) h3
                rw [List.getElem?_append_right (by rw [List.length_take, List.length_take, List.length_drop, len_list]; omega)] at e
                have hz : i - (((s.data.toList.drop (m + 1)).take (s.size - (m + 1))).take i).length = 0 := by
                  rw [List.length_take, List.length_take, List.length_drop, len_list]; omega
                rw [hz, List.getElem?_take_of_lt (by omega), List.getElem?_drop, List.getElem?_eq_getElem (by rw [len_list]; omega)] at e
                have e2 : s[m + 1 + i]'(by omega) = E[m] := by simpa [ByteArray.getElem_eq_getElem_data] using e
                have := HA.out (m + 1 + i) (by omega)
                rw [e2] at this
                have := HD.out
                omega
            have := stringsIx_any (s.extract (m + 1) s.size) E[m] W
            rw [hx] at this
            exact this
          obtain ⟨p, hp⟩ : ∃ p, m + 1 = p := ⟨_, rfl⟩
          have hm2 : (p : Int) ≤ (s.size : Int) := by omega
          rw [hp] at HIX
          have w66 : IntKind.i64.wrap ((m : Int) + 1) = (p : Int) := by rw [wrap_le _ (by omega) (by omega)]; omega
          have w65 : wrap64 ((m : Int) + 1) = (p : Int) := by rw [IntWalk.wrap64_in _ (by omega)]; omega
          clear hp
          go_wp2_with fail
          go_step3
          go_wp2_with fail
          go_quiet (fail)
          go_wp2_with fail
          go_quiet ((go_at_call 180; exact (HIX.out _).mono fun e w' h => ⟨h.1, _, h.2⟩))
          go_wp2_with fail
          rw [Exit.noGoto_ret]
          unfold Exit.inBlock
          go_wp2_with fail
          rw [Exit.noGoto_ret]
          unfold Exit.inBlock
          go_ret
          exact ⟨rfl, below_drewN _ _ _⟩
        · have hlti : ¬ (m : Int) < (s.size : Int) := by omega
          go_wp2_with fail
          try rw [Exit.noGoto_ret]
          go_ret
          exact ⟨rfl, Below.refl _ _⟩

/-- the bytes that a rune of more than ASCII takes are all above ASCII -/
theorem decode_run (s : ByteArray) (p : Nat) (h : p < s.size) (ha : 128 ≤ (s[p]'h).toNat) (j : Nat) (hj : p ≤ j) (hk : j < p + (Utf8.decode s p).2) : ∃ hh : j < s.size, 128 ≤ (s[j]'hh).toNat := by
  have hn : ¬ (s[p]'h).toNat < 128 := by omega
  have hg : ∀ k, (hlt : p + k < s.size) → s.get! (p + k) = s[p + k]'hlt := fun k hlt => get_at s (p + k) hlt
  have hc : ∀ k, (decide (p + k < s.size) && (s.get! (p + k)).toNat / 64 == 2) = true → ∃ hh : p + k < s.size, 128 ≤ (s[p + k]'hh).toNat := by
    intro k hk
    rw [Bool.and_eq_true] at hk
    have h1 := of_decide_eq_true hk.1
    have h2 := beq_iff_eq.1 hk.2
    rw [hg k h1] at h2
    exact ⟨h1, by omega⟩
  have h0 : ∀ q, q = p → ∃ hh : q < s.size, 128 ≤ (s[q]'hh).toNat := by rintro q rfl; exact ⟨h, ha⟩
  simp only [Utf8.decode, get_at s p h, hn, if_false] at hk
  split at hk
  · next e =>
    rw [Bool.and_eq_true] at e
    have c1 := hc 1 e.2
    split at hk
    · simp only at hk
      rcases (by omega : j = p ∨ j = p + 1) with rfl | rfl
      · exact h0 _ rfl
      · exact c1
    · exact h0 _ (by simp only at hk; omega)
  · split at hk
    · next e =>
      rw [Bool.and_eq_true, Bool.and_eq_true] at e
      have c1 := hc 1 e.1.2
      have c2 := hc 2 e.2
      split at hk
      · simp only at hk
        rcases (by omega : j = p ∨ j = p + 1 ∨ j = p + 2) with rfl | rfl | rfl
        · exact h0 _ rfl
        · exact c1
        · exact c2
      · exact h0 _ (by simp only at hk; omega)
    · split at hk
      · next e =>
        rw [Bool.and_eq_true, Bool.and_eq_true, Bool.and_eq_true] at e
        have c1 := hc 1 e.1.1.2
        have c2 := hc 2 e.1.2
        have c3 := hc 3 e.2
        split at hk
        · simp only at hk
          rcases (by omega : j = p ∨ j = p + 1 ∨ j = p + 2 ∨ j = p + 3) with rfl | rfl | rfl | rfl
          · exact h0 _ rfl
          · exact c1
          · exact c2
          · exact c3
        · exact h0 _ (by simp only at hk; omega)
      · exact h0 _ (by simp only at hk; omega)

end Go.Proofs.YtilhfmhjgfmejaaGreatDoor.tm

namespace Go.Proofs.YtilhfmhjgfmejaaGreatDoor.tm
open Go.ChangeShapes Go.WideShapes Go.ChangeAt Go.RowKit Go.Proofs.YtilhfmhjgfmejaaGreatDoor.common Go.Proofs.YtilhfmhjgfmejaaGreatDoor.bk
open Go.Lib (run_next_any_at run_next_ascii_at run_next_end_at iterAt_heap iterAt_size below_iterAt)
attribute [local go_sem ↓] Go.wp_at_zero Go.wp_at_succ

theorem low_c (s : ByteArray) (x : UInt8) (w : World) (h : x.toNat < 128) :
    Calls Tryz.prog 151 #[.string s, .int .i32 (x.toNat : Int)] w fun e w' => e = .returned (.int .i64 (Lib.indexByte s.data.toList x)) ∧ w' = w := by
  have hh := Any.strings_IndexRune_ascii { jl.lays153 with } s (x.toNat : Int) w (by omega) (by omega)
  have hback : ((x.toNat : Int)).toNat.toUInt8 = x := by simp
  rw [hback] at hh
  exact hh
theorem set_c (n : Int) (w : World) :
    Calls Tryz.prog 152 #[.int .i64 n] w fun e w' => e = .returned (.bool (decide (8 < n))) ∧ w' = w :=
  Any.strings_shouldUseASCIISet { jl.lays153 with } n w

set_option maxRecDepth 100000 in
set_option maxHeartbeats 6400000 in
theorem indexAny_short (s cs : ByteArray) (w : World) (h2 : 2 ≤ cs.size) (h3 : cs.size ≤ 3) (h8 : s.size ≤ 8) (ha : Asc cs) :
    Calls Tryz.prog 133 #[.string s, .string cs] w fun e w' => e = .returned (.int .i64 (Lib.indexAny s.data.toList cs.data.toList)) ∧ Below w.heap.size w w' := by
  have HA := hide ha
  clear ha
  have hemp : cs.toList.isEmpty = false := by
    rw [Lib.toList_data]
    cases h : cs.data.toList with
    | nil => have := Lib.size_eq cs; rw [h, List.length_nil] at this; omega
    | cons _ _ => rfl
  have hn1 : ((cs.size : Int) == 1) = false := beq_eq_false_iff_ne.2 (by omega)
  have h8z : decide ((8 : Int) < (s.size : Int)) = false := decide_eq_false (by omega)
  obtain ⟨R, hR⟩ : ∃ R, R = Lib.indexAny s.data.toList cs.data.toList := ⟨_, rfl⟩
  have HR := hide hR
  rw [← hR]
  clear hR
  have HW := hide (Below.refl w.heap.size w)
  go_enter Tryz.func133, Tryz.ntmps133
  go_wp2_with (go_at_call 152; refine (set_c _ _).mono ?_; rintro e w' ⟨rfl, hw⟩; obtain rfl := hw.symm; rw [h8z])
  go_loopg [9, 10] s.size (fun g _ _ wx => ∃ i : Nat, i + g = s.size ∧ wx.heap[w.heap.size]? = some (.stringIter s i) ∧ Hid (Below w.heap.size w wx ∧ Lib.NoAny s.data.toList cs.data.toList i))
  case atStart => exact ⟨0, by omega, World.iter_heap w s 0, (Below.refl _ _).alloc (Nat.le_refl _) _, Lib.NoAny.zero _ _⟩
  case round =>
    obtain ⟨i, hig, hit, HN⟩ := hrel
    have hk : w.heap.size < wr.heap.size := (Array.getElem?_eq_some_iff.1 hit).1
    cases gk with
    | zero =>
      obtain rfl : i = s.size := by omega
      have hnx := fun ty => run_next_end_at (P := Tryz.prog) wr w.heap.size s s.size ty hit (by omega)
      clear hit
      go_wp2
      go_ret
      exact ⟨by rw [HR.out, Lib.indexAny_none (by rw [← Lib.size_eq]; exact HN.out.2)]; rfl, HN.out.1⟩
    | succ g =>
      have hi : i < s.size := by omega
      have Hx : Hid (s.data.toList[i]? = some s[i]) := Lib.data_getElem? s i hi
      by_cases hx : s[i].toNat < 128
      · have hnx := fun ty => run_next_ascii_at (P := Tryz.prog) wr w.heap.size s i ty hit hi hx
        have HIT := hide (iterAt_heap wr w.heap.size s i (i + 1) hit)
        have HB := hide (below_iterAt HN.out.1 (Nat.le_refl _) s (i + 1))
        have HL := hide (fun W => low_c cs s[i] W hx)
        have hcon := Lib.contains_iff_indexByte cs.data.toList s[i]
        clear hit
        generalize wr.iterAt w.heap.size s (i + 1) = W1 at *
        cases hin : cs.data.toList.contains s[i]
        · rw [hin] at hcon
          have hlt : ¬ ((0 : Int) ≤ Lib.indexByte cs.data.toList s[i]) := of_decide_eq_false hcon.symm
          have HN2 := hide (HN.out.2.succ Hx.out hin)
          clear hcon hin
          go_wp2_with (go_at_call 151; refine (HL.out _).mono ?_; rintro e w' ⟨rfl, hw⟩; obtain rfl := hw.symm)
          go_roundg g
          case measure => omega
          case rel => exact ⟨i + 1, by omega, HIT.out, HB.out, HN2.out⟩
        · rw [hin] at hcon
          have hge : (0 : Int) ≤ Lib.indexByte cs.data.toList s[i] := of_decide_eq_true hcon.symm
          have HN2 : Hid (R = (i : Int)) := by show _ = _; rw [HR.out, Lib.indexAny_hit HN.out.2 Hx.out hin]
          clear hcon hin
          go_wp2_with (go_at_call 151; refine (HL.out _).mono ?_; rintro e w' ⟨rfl, hw⟩; obtain rfl := hw.symm)
          go_ret
          exact ⟨by rw [HN2.out]; rfl, HB.out⟩
      · obtain ⟨d1, d2⟩ := decode_high s i hi (by omega)
        have d3 := decode_le s i
        have HRn := hide (decode_run s i hi (by omega))
        obtain ⟨hj, _⟩ := HRn.out (i + (Utf8.decode s i).2 - 1) (by omega) (by omega)
        have hnx := fun ty => run_next_any_at (P := Tryz.prog) wr w.heap.size s i ty hit hi
        have HIT := hide (iterAt_heap wr w.heap.size s i (i + (Utf8.decode s i).2) hit)
        have HB := hide (below_iterAt HN.out.1 (Nat.le_refl _) s (i + (Utf8.decode s i).2))
        have hz := iterAt_size wr w.heap.size s (i + (Utf8.decode s i).2)
        generalize wr.iterAt w.heap.size s (i + (Utf8.decode s i).2) = W1 at *
        generalize (Utf8.decode s i).2 = q at *
        generalize (Utf8.decode s i).1 = r at *
        have HL := hide (indexRune_high cs (r : Int) W1 h3 HA.out (by omega) (by omega))
        have hk1 : w.heap.size < W1.heap.size := by omega
        have HN2 : Hid (Lib.NoAny s.data.toList cs.data.toList (i + q)) := by
          intro j b hj2 hb
          by_cases hji : j < i
          · exact HN.out.2 j b hji hb
          · obtain ⟨hh, h128⟩ := HRn.out j (by omega) hj2
            have e : b = s[j] := by
              have := Lib.data_getElem? s j hh
              rw [this] at hb
              exact (Option.some.inj hb).symm
            subst e
            cases hc : cs.data.toList.contains s[j] with
            | false => rfl
            | true =>
              exfalso
              obtain ⟨k, hk2, e⟩ := List.getElem_of_mem (List.contains_iff_mem.1 hc)
              have hk3 : k < cs.size := by rw [← len_list]; exact hk2
              have := HA.out k hk3
              have e2 : cs[k]'hk3 = s[j] := e
              rw [e2] at this
              omega
        clear hit hz HRn
        go_wp2_with (go_at_call 151; refine HL.out.mono ?_; rintro e w' ⟨rfl, hw⟩; have HB2 := hide hw; clear hw)
        go_roundg (s.size - (i + q))
        case measure => omega
        case rel => exact ⟨i + q, by omega, by rw [HB2.out.block _ hk1]; exact HIT.out, keepD HB.out HB2.out, HN2.out⟩

end Go.Proofs.YtilhfmhjgfmejaaGreatDoor.tm

namespace Go.Proofs.YtilhfmhjgfmejaaGreatDoor.jl
open Go.Shelf
def laysPu14_ren : Go.Shelf.Ren := ⟨fun | 14 => 150 | 16 => 178 | 17 => 179 | 19 => 192 | 20 => 193 | 21 => 194 | 22 => 195 | 23 => 196 | 24 => 197 | 25 => 199 | 27 => 23 | 26 => 200 | 28 => 47 | 29 => 67 | 30 => 84 | 31 => 85 | 32 => 86 | 33 => 87 | 35 => 106 | 34 => 105 | 36 => 107 | 37 => 108 | 38 => 109 | 39 => 128 | 40 => 129 | n => n, fun | 9 => 9 | 3 => 3 | 22 => 121 | 24 => 31 | 25 => 155 | 4 => 4 | 34 => 185 | 5 => 5 | 36 => 98 | 37 => 50 | 0 => 0 | 39 => 187 | 21 => 21 | 44 => 198 | 47 => 99 | 50 => 202 | 48 => 200 | 2 => 2 | 52 => 120 | 55 => 124 | 59 => 136 | 60 => 137 | 20 => 20 | 61 => 138 | 65 => 153 | 66 => 154 | 67 => 84 | n => n, fun | 0 => 25 | 1 => 26 | 2 => 18 | 3 => 21 | 4 => 22 | n => n⟩
theorem laysPu14 : Go.Proofs.LaysPu.n14 Tryz.prog laysPu14_ren := {
  mixed := by kernel_rfl
  f14 := Tryz.func150.trans (congrArg some (by kernel_rfl))
  f16 := Tryz.func178.trans (congrArg some (by kernel_rfl))
  f17 := Tryz.func179.trans (congrArg some (by kernel_rfl))
  f19 := Tryz.func192.trans (congrArg some (by kernel_rfl))
  f20 := Tryz.func193.trans (congrArg some (by kernel_rfl))
  f21 := Tryz.func194.trans (congrArg some (by kernel_rfl))
  f22 := Tryz.func195.trans (congrArg some (by kernel_rfl))
  f23 := Tryz.func196.trans (congrArg some (by kernel_rfl))
  f24 := Tryz.func197.trans (congrArg some (by kernel_rfl))
  f25 := Tryz.func199.trans (congrArg some (by kernel_rfl))
  f26 := Tryz.func200.trans (congrArg some (by kernel_rfl))
  f27 := Tryz.func23.trans (congrArg some (by kernel_rfl))
  f28 := Tryz.func47.trans (congrArg some (by kernel_rfl))
  f29 := Tryz.func67.trans (congrArg some (by kernel_rfl))
  f30 := Tryz.func84.trans (congrArg some (by kernel_rfl))
  f31 := Tryz.func85.trans (congrArg some (by kernel_rfl))
  f32 := Tryz.func86.trans (congrArg some (by kernel_rfl))
  f33 := Tryz.func87.trans (congrArg some (by kernel_rfl))
  f34 := Tryz.func105.trans (congrArg some (by kernel_rfl))
  f35 := Tryz.func106.trans (congrArg some (by kernel_rfl))
  f36 := Tryz.func107.trans (congrArg some (by kernel_rfl))
  f37 := Tryz.func108.trans (congrArg some (by kernel_rfl))
  f38 := Tryz.func109.trans (congrArg some (by kernel_rfl))
  f39 := Tryz.func128.trans (congrArg some (by kernel_rfl))
  f40 := Tryz.func129.trans (congrArg some (by kernel_rfl))
  t0 := Tryz.underlying0
  a0 := Tryz.isAgg0
  z0 := Tryz.sizeOf0
  v0 := Tryz.zeroValue0
  i0 := by kernel_rfl
  t2 := Tryz.underlying2
  a2 := Tryz.isAgg2
  z2 := Tryz.sizeOf2
  v2 := Tryz.zeroValue2
  i2 := by kernel_rfl
  t3 := Tryz.underlying3
  a3 := Tryz.isAgg3
  z3 := Tryz.sizeOf3
  v3 := Tryz.zeroValue3
  i3 := by kernel_rfl
  t4 := Tryz.underlying4
  a4 := Tryz.isAgg4
  z4 := Tryz.sizeOf4
  v4 := Tryz.zeroValue4
  i4 := by kernel_rfl
  t5 := Tryz.underlying5
  a5 := Tryz.isAgg5
  z5 := Tryz.sizeOf5
  v5 := Tryz.zeroValue5
  i5 := by kernel_rfl
  t9 := Tryz.underlying9
  a9 := Tryz.isAgg9
  z9 := Tryz.sizeOf9
  v9 := Tryz.zeroValue9
  i9 := by kernel_rfl
  t20 := Tryz.underlying20
  a20 := Tryz.isAgg20
  z20 := Tryz.sizeOf20
  v20 := Tryz.zeroValue20
  i20 := by kernel_rfl
  t21 := Tryz.underlying21
  a21 := Tryz.isAgg21
  z21 := Tryz.sizeOf21
  v21 := Tryz.zeroValue21
  i21 := by kernel_rfl
  t22 := Tryz.underlying121
  a22 := Tryz.isAgg121
  z22 := Tryz.sizeOf121
  v22 := Tryz.zeroValue121
  i22 := by kernel_rfl
  t24 := Tryz.underlying31
  a24 := Tryz.isAgg31
  z24 := Tryz.sizeOf31
  v24 := Tryz.zeroValue31
  i24 := by kernel_rfl
  t25 := Tryz.underlying155
  a25 := Tryz.isAgg155
  z25 := Tryz.sizeOf155
  v25 := Tryz.zeroValue155
  i25 := by kernel_rfl
  t34 := Tryz.underlying185
  a34 := Tryz.isAgg185
  z34 := Tryz.sizeOf185
  v34 := Tryz.zeroValue185
  i34 := by kernel_rfl
  c34 := by kernel_rfl
  t36 := Tryz.underlying98
  a36 := Tryz.isAgg98
  z36 := Tryz.sizeOf98
  v36 := Tryz.zeroValue98
  i36 := by kernel_rfl
  t37 := Tryz.underlying50
  a37 := Tryz.isAgg50
  z37 := Tryz.sizeOf50
  v37 := Tryz.zeroValue50
  i37 := by kernel_rfl
  t39 := Tryz.underlying187
  a39 := Tryz.isAgg187
  z39 := Tryz.sizeOf187
  v39 := Tryz.zeroValue187
  i39 := by kernel_rfl
  t44 := Tryz.underlying198
  a44 := Tryz.isAgg198
  z44 := Tryz.sizeOf198
  v44 := Tryz.zeroValue198
  i44 := by kernel_rfl
  t47 := Tryz.underlying99
  a47 := Tryz.isAgg99
  z47 := Tryz.sizeOf99
  v47 := Tryz.zeroValue99
  i47 := by kernel_rfl
  t48 := Tryz.underlying200
  a48 := Tryz.isAgg200
  z48 := Tryz.sizeOf200
  v48 := Tryz.zeroValue200
  i48 := by kernel_rfl
  t50 := Tryz.underlying202
  a50 := Tryz.isAgg202
  z50 := Tryz.sizeOf202
  v50 := Tryz.zeroValue202
  i50 := by kernel_rfl
  t52 := Tryz.underlying120
  a52 := Tryz.isAgg120
  z52 := Tryz.sizeOf120
  v52 := Tryz.zeroValue120
  i52 := by kernel_rfl
  t55 := Tryz.underlying124
  a55 := Tryz.isAgg124
  z55 := Tryz.sizeOf124
  v55 := Tryz.zeroValue124
  i55 := by kernel_rfl
  t59 := Tryz.underlying136
  a59 := Tryz.isAgg136
  z59 := Tryz.sizeOf136
  v59 := Tryz.zeroValue136
  i59 := by kernel_rfl
  t60 := Tryz.underlying137
  a60 := Tryz.isAgg137
  z60 := Tryz.sizeOf137
  v60 := Tryz.zeroValue137
  i60 := by kernel_rfl
  t61 := Tryz.underlying138
  a61 := Tryz.isAgg138
  z61 := Tryz.sizeOf138
  t65 := Tryz.underlying153
  a65 := Tryz.isAgg153
  z65 := Tryz.sizeOf153
  v65 := Tryz.zeroValue153
  i65 := by kernel_rfl
  t66 := Tryz.underlying154
  a66 := Tryz.isAgg154
  z66 := Tryz.sizeOf154
  v66 := Tryz.zeroValue154
  i66 := by kernel_rfl
  t67 := Tryz.underlying84
  a67 := Tryz.isAgg84
  z67 := Tryz.sizeOf84
  v67 := Tryz.zeroValue84
  i67 := by kernel_rfl
  g0 := by kernel_rfl
  m0 := by kernel_rfl
  g1 := by kernel_rfl
  m1 := by kernel_rfl
  g2 := by kernel_rfl
  m2 := by kernel_rfl
  g3 := by kernel_rfl
  m3 := by kernel_rfl
  g4 := by kernel_rfl
  m4 := by kernel_rfl }
end Go.Proofs.YtilhfmhjgfmejaaGreatDoor.jl
