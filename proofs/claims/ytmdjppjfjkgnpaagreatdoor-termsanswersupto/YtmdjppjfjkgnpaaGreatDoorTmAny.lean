import Derived.Test.YtmdjppjfjkgnpaaGreatDoorTmRune
import Derived.Shelf.Strings.IndexAnyAll
import Derived.Lib.OthersKept
namespace Go.Proofs.YtmdjppjfjkgnpaaGreatDoor.tm
open Go.ChangeShapes Go.WideShapes Go.ChangeAt Go.RowKit Go.Proofs.YtmdjppjfjkgnpaaGreatDoor.common Go.Proofs.YtmdjppjfjkgnpaaGreatDoor.bk
open Go.Lib (run_next_any_at run_next_ascii_at run_next_end_at iterAt_heap iterAt_size below_iterAt)
attribute [local go_sem ↓] Go.wp_at_zero Go.wp_at_succ

theorem low_c (s : ByteArray) (x : UInt8) (w : World) (h : x.toNat < 128) :
    Calls Tryz.prog 62 #[.string s, .int .i32 (x.toNat : Int)] w fun e w' => e = .returned (.int .i64 (Lib.indexByte s.data.toList x)) ∧ w' = w := by
  have hh := Any.strings_IndexRune_ascii { jl.lays153 with } s (x.toNat : Int) w (by omega) (by omega)
  have hback : ((x.toNat : Int)).toNat.toUInt8 = x := by simp
  rw [hback] at hh
  exact hh
theorem set_c (n : Int) (w : World) :
    Calls Tryz.prog 63 #[.int .i64 n] w fun e w' => e = .returned (.bool (decide (8 < n))) ∧ w' = w :=
  Any.strings_shouldUseASCIISet { jl.lays153 with } n w

set_option maxRecDepth 100000 in
set_option maxHeartbeats 6400000 in
theorem indexAny_short (s cs : ByteArray) (w : World) (h2 : 2 ≤ cs.size) (h3 : cs.size ≤ 3) (h8 : s.size ≤ 8) (ha : Asc cs) :
    Calls Tryz.prog 50 #[.string s, .string cs] w fun e w' => e = .returned (.int .i64 (Lib.indexAny s.data.toList cs.data.toList)) ∧ Below w.heap.size w w' := by
  have HA := hide ha
  clear ha
  have hemp : cs.toList.isEmpty = false := by
    rw [Lib.toList_data]
    cases h : cs.data.toList with
    | nil => have := Lib.size_eq cs; rw [h, List.length_nil] at this; omega
    | cons _ _ => rfl
  have hn1 : ((cs.size : Int) == 1) = false := beq_eq_false_iff_ne.2 (by omega)
  have h8z : decide ((8 : Int) < (s.size : Int)) = false := decide_eq_false (by omega)
  obtain ⟨R, hR⟩ : ∃ R, R = Lib.indexAny s.data.toList cs.data.toList := ⟨_, rfl⟩
  have HR := hide hR
  rw [← hR]
  clear hR
  have HW := hide (Below.refl w.heap.size w)
  go_enter Tryz.func50, Tryz.ntmps50
  go_wp2_with (go_at_call 63; refine (set_c _ _).mono ?_; rintro e w' ⟨rfl, hw⟩; obtain rfl := hw.symm; rw [h8z])
  go_loopg [9, 10] s.size (fun g _ _ wx => ∃ i : Nat, i + g = s.size ∧ wx.heap[w.heap.size]? = some (.stringIter s i) ∧ Hid (Below w.heap.size w wx ∧ Lib.NoAny s.data.toList cs.data.toList i))
  case atStart => exact ⟨0, by omega, World.iter_heap w s 0, (Below.refl _ _).alloc (Nat.le_refl _) _, Lib.NoAny.zero _ _⟩
  case round =>
    obtain ⟨i, hig, hit, HN⟩ := hrel
    have hk : w.heap.size < wr.heap.size := (Array.getElem?_eq_some_iff.1 hit).1
    cases gk with
    | zero =>
      obtain rfl : i = s.size := by omega
      have hnx := fun ty => run_next_end_at (P := Tryz.prog) wr w.heap.size s s.size ty hit (by omega)
      clear hit
      go_wp2
      go_ret
      exact ⟨by rw [HR.out, Lib.indexAny_none (by rw [← Lib.size_eq]; exact HN.out.2)]; rfl, HN.out.1⟩
    | succ g =>
      have hi : i < s.size := by omega
      have Hx : Hid (s.data.toList[i]? = some s[i]) := Lib.data_getElem? s i hi
      by_cases hx : s[i].toNat < 128
      · have hnx := fun ty => run_next_ascii_at (P := Tryz.prog) wr w.heap.size s i ty hit hi hx
        have HIT := hide (iterAt_heap wr w.heap.size s i (i + 1) hit)
        have HB := hide (below_iterAt HN.out.1 (Nat.le_refl _) s (i + 1))
        have HL := hide (fun W => low_c cs s[i] W hx)
        have hcon := Lib.contains_iff_indexByte cs.data.toList s[i]
        clear hit
        generalize wr.iterAt w.heap.size s (i + 1) = W1 at *
        cases hin : cs.data.toList.contains s[i]
        · rw [hin] at hcon
          have hlt : ¬ ((0 : Int) ≤ Lib.indexByte cs.data.toList s[i]) := of_decide_eq_false hcon.symm
          have HN2 := hide (HN.out.2.succ Hx.out hin)
          clear hcon hin
          go_wp2_with (go_at_call 62; refine (HL.out _).mono ?_; rintro e w' ⟨rfl, hw⟩; obtain rfl := hw.symm)
          go_roundg g
          case measure => omega
          case rel => exact ⟨i + 1, by omega, HIT.out, HB.out, HN2.out⟩
        · rw [hin] at hcon
          have hge : (0 : Int) ≤ Lib.indexByte cs.data.toList s[i] := of_decide_eq_true hcon.symm
          have HN2 : Hid (R = (i : Int)) := by show _ = _; rw [HR.out, Lib.indexAny_hit HN.out.2 Hx.out hin]
          clear hcon hin
          go_wp2_with (go_at_call 62; refine (HL.out _).mono ?_; rintro e w' ⟨rfl, hw⟩; obtain rfl := hw.symm)
          go_ret
          exact ⟨by rw [HN2.out]; rfl, HB.out⟩
      · obtain ⟨d1, d2⟩ := decode_high s i hi (by omega)
        have d3 := decode_le s i
        have HRn := hide (decode_run s i hi (by omega))
        obtain ⟨hj, _⟩ := HRn.out (i + (Utf8.decode s i).2 - 1) (by omega) (by omega)
        have hnx := fun ty => run_next_any_at (P := Tryz.prog) wr w.heap.size s i ty hit hi
        have HIT := hide (iterAt_heap wr w.heap.size s i (i + (Utf8.decode s i).2) hit)
        have HB := hide (below_iterAt HN.out.1 (Nat.le_refl _) s (i + (Utf8.decode s i).2))
        have hz := iterAt_size wr w.heap.size s (i + (Utf8.decode s i).2)
        generalize wr.iterAt w.heap.size s (i + (Utf8.decode s i).2) = W1 at *
        generalize (Utf8.decode s i).2 = q at *
        generalize (Utf8.decode s i).1 = r at *
        have HL := hide (indexRune_high cs (r : Int) W1 h3 HA.out (by omega) (by omega))
        have hk1 : w.heap.size < W1.heap.size := by omega
        have HN2 : Hid (Lib.NoAny s.data.toList cs.data.toList (i + q)) := by
          intro j b hj2 hb
          by_cases hji : j < i
          · exact HN.out.2 j b hji hb
          · obtain ⟨hh, h128⟩ := HRn.out j (by omega) hj2
            have e : b = s[j] := by
              have := Lib.data_getElem? s j hh
              rw [this] at hb
              exact (Option.some.inj hb).symm
            subst e
            cases hc : cs.data.toList.contains s[j] with
            | false => rfl
            | true =>
              exfalso
              obtain ⟨k, hk2, e⟩ := List.getElem_of_mem (List.contains_iff_mem.1 hc)
              have hk3 : k < cs.size := by rw [← len_list]; exact hk2
              have := HA.out k hk3
              have e2 : cs[k]'hk3 = s[j] := e
              rw [e2] at this
              omega
        clear hit hz HRn
        go_wp2_with (go_at_call 62; refine HL.out.mono ?_; rintro e w' ⟨rfl, hw⟩; have HB2 := hide hw; clear hw)
        go_roundg (s.size - (i + q))
        case measure => omega
        case rel => exact ⟨i + q, by omega, by rw [HB2.out.block _ hk1]; exact HIT.out, keepD HB.out HB2.out, HN2.out⟩

end Go.Proofs.YtmdjppjfjkgnpaaGreatDoor.tm
