import Derived.Test.YtkkgngmhdlmgnaaDoorRefRead7
import Derived.Lib.RuneBytes
namespace Go.Proofs.YtkkgngmhdlmgnaaDoor.jw
open Go.ChangeShapes Go.WideShapes Go.ChangeAt Go.RowKit Go.Proofs.YtkkgngmhdlmgnaaDoor.common
attribute [local go_sem ↓] Go.wp_at_zero Go.wp_at_succ

theorem own_geS {w : World} {base : Nat} {e : TypeId} {size : Nat} {v : Value} {n : Nat} {xs : List Value} (h : w.ownsRow base e size v n xs) : ∀ b, v.ownBlock = some b → base ≤ b := by
  intro b hb
  exact (h.lt b hb).1
theorem enc_cells (r : Int) (h : ∀ x ∈ Lib.encodeRuneZ r, 0 ≤ x ∧ x < 256) : (Lib.encodeRune r).map B = (Lib.encodeRuneZ r).map fun x => Value.int .u8 x := by
  unfold Lib.encodeRune
  rw [List.map_map]
  apply List.map_congr_left
  intro x hx
  obtain ⟨h0, h1⟩ := h x hx
  show Value.int .u8 ((x.toNat.toUInt8).toNat : Int) = _
  have e : (x.toNat.toUInt8).toNat = x.toNat := by
    rw [Nat.toUInt8_eq, UInt8.toNat_ofNat']
    omega
  rw [e]
  congr 1
  omega

set_option maxRecDepth 100000 in
set_option maxHeartbeats 3200000 in
theorem refSpelt_any (b : Nat) (v : Value) (l : List UInt8) (r : Int) (w : World) (h0 : 0 ≤ r) (h1 : r ≤ 1114111) (h2 : r < 55296 ∨ 57343 < r) (hown : w.ownsRow b 5 1 v l.length (l.map B)) (hlen : l.length + 8 ≤ 140737488355328) (hb : b ≤ w.heap.size) :
    Calls Tryd.prog 66 #[v, .int .i64 r] w fun x w' => ∃ v', x = .returned v' ∧ w'.ownsRow b 5 1 v' (l ++ Lib.encodeRune r).length ((l ++ Lib.encodeRune r).map B) ∧ Below b w w' := by
  obtain ⟨i0, hi, hz0, hz1, hz2⟩ := info_parts info8
  have HO := hide hown
  clear hown
  by_cases c1 : r < 128
  · skip
    have HM : Hid ((Lib.encodeRune r).map B = [.int .u8 (r)]) := by
      show _ = _
      rw [enc_cells r (by rw [Lib.encodeRuneZ_one h0 (by omega)]; intro x hx; simp only [List.mem_cons, List.not_mem_nil, or_false] at hx; omega), Lib.encodeRuneZ_one h0 (by omega)]
      rfl
    have HLn : Hid ((Lib.encodeRune r).length = 1) := by
      show _ = _
      unfold Lib.encodeRune
      rw [List.length_map, Lib.encodeRuneZ_one h0 (by omega)]; rfl
    go_enter Tryd.func66, Tryd.ntmps66
    go_wp2_with (at_builtin; refine wpList_append_own _ rfl _ _ 60 rfl b 5 i0 (.int .u8 0) 1 1 Tryd.underlying60 hi hz0 hz1 hz2 rfl (by decide) _ _ _ rfl (HO.out.alloc _) ⟨w.heap.size, 0, none⟩ 1 1 [.int .u8 (r)] rfl rfl (cells_new w [.int .u8 (r)] 5) ?c12 ?c13 ?c14 ?c15 ?_)
    case c12 => first | exact ⟨rfl⟩ | rfl | (intro u hu; simp only [List.mem_cons, List.not_mem_nil, or_false] at hu; rcases hu with rfl <;> rfl)
    case c13 => unfold maxLen; omega
    case c14 => omega
    case c15 => first | omega | (simp; omega)
    intro v' w1 hown' hgrow _
    have R1 : Hid (w1.ownsRow b 5 1 v' (l ++ Lib.encodeRune r).length ((l ++ Lib.encodeRune r).map B)) := by
      show w1.ownsRow _ _ _ _ _ _
      rw [List.map_append, List.length_append, HM.out, HLn.out]; exact hown'
    have R2 : Hid (Below b w w1) := ((Below.refl b w).alloc hb _).grown hgrow (by simp; omega) (own_geS HO.out)
    clear hown' hgrow
    go_wp2
    go_ret
    exact ⟨_, rfl, R1.out, R2.out⟩
  · by_cases c2 : r < 2048
    · skip
      have HM : Hid ((Lib.encodeRune r).map B = [.int .u8 (192 + r / 64), .int .u8 (128 + r % 64)]) := by
        show _ = _
        rw [enc_cells r (by rw [Lib.encodeRuneZ_two (by omega) (by omega)]; intro x hx; simp only [List.mem_cons, List.not_mem_nil, or_false] at hx; omega), Lib.encodeRuneZ_two (by omega) (by omega)]
        rfl
      have HLn : Hid ((Lib.encodeRune r).length = 2) := by
        show _ = _
        unfold Lib.encodeRune
        rw [List.length_map, Lib.encodeRuneZ_two (by omega) (by omega)]; rfl
      go_enter Tryd.func66, Tryd.ntmps66
      go_wp2_with (at_builtin; refine wpList_append_own _ rfl _ _ 60 rfl b 5 i0 (.int .u8 0) 1 1 Tryd.underlying60 hi hz0 hz1 hz2 rfl (by decide) _ _ _ rfl (HO.out.alloc _) ⟨w.heap.size, 0, none⟩ 2 2 [.int .u8 (192 + r / 64), .int .u8 (128 + r % 64)] rfl rfl (cells_new w [.int .u8 (192 + r / 64), .int .u8 (128 + r % 64)] 5) ?c22 ?c23 ?c24 ?c25 ?_)
      case c22 => first | exact ⟨rfl, rfl⟩ | rfl | (intro u hu; simp only [List.mem_cons, List.not_mem_nil, or_false] at hu; rcases hu with rfl | rfl <;> rfl)
      case c23 => unfold maxLen; omega
      case c24 => omega
      case c25 => first | omega | (simp; omega)
      intro v' w1 hown' hgrow _
      have R1 : Hid (w1.ownsRow b 5 1 v' (l ++ Lib.encodeRune r).length ((l ++ Lib.encodeRune r).map B)) := by
        show w1.ownsRow _ _ _ _ _ _
        rw [List.map_append, List.length_append, HM.out, HLn.out]; exact hown'
      have R2 : Hid (Below b w w1) := ((Below.refl b w).alloc hb _).grown hgrow (by simp; omega) (own_geS HO.out)
      clear hown' hgrow
      go_wp2
      go_ret
      exact ⟨_, rfl, R1.out, R2.out⟩
    · by_cases c3 : r < 65536
      · skip
        have HM : Hid ((Lib.encodeRune r).map B = [.int .u8 (224 + r / 4096), .int .u8 (128 + r / 64 % 64), .int .u8 (128 + r % 64)]) := by
          show _ = _
          rw [enc_cells r (by rw [Lib.encodeRuneZ_three (by omega)]; intro x hx; simp only [List.mem_cons, List.not_mem_nil, or_false] at hx; omega), Lib.encodeRuneZ_three (by omega)]
          rfl
        have HLn : Hid ((Lib.encodeRune r).length = 3) := by
          show _ = _
          unfold Lib.encodeRune
          rw [List.length_map, Lib.encodeRuneZ_three (by omega)]; rfl
        go_enter Tryd.func66, Tryd.ntmps66
        go_wp2_with (at_builtin; refine wpList_append_own _ rfl _ _ 60 rfl b 5 i0 (.int .u8 0) 1 1 Tryd.underlying60 hi hz0 hz1 hz2 rfl (by decide) _ _ _ rfl (HO.out.alloc _) ⟨w.heap.size, 0, none⟩ 3 3 [.int .u8 (224 + r / 4096), .int .u8 (128 + r / 64 % 64), .int .u8 (128 + r % 64)] rfl rfl (cells_new w [.int .u8 (224 + r / 4096), .int .u8 (128 + r / 64 % 64), .int .u8 (128 + r % 64)] 5) ?c32 ?c33 ?c34 ?c35 ?_)
        case c32 => first | exact ⟨rfl, rfl, rfl⟩ | rfl | (intro u hu; simp only [List.mem_cons, List.not_mem_nil, or_false] at hu; rcases hu with rfl | rfl | rfl <;> rfl)
        case c33 => unfold maxLen; omega
        case c34 => omega
        case c35 => first | omega | (simp; omega)
        intro v' w1 hown' hgrow _
        have R1 : Hid (w1.ownsRow b 5 1 v' (l ++ Lib.encodeRune r).length ((l ++ Lib.encodeRune r).map B)) := by
          show w1.ownsRow _ _ _ _ _ _
          rw [List.map_append, List.length_append, HM.out, HLn.out]; exact hown'
        have R2 : Hid (Below b w w1) := ((Below.refl b w).alloc hb _).grown hgrow (by simp; omega) (own_geS HO.out)
        clear hown' hgrow
        go_wp2
        go_ret
        exact ⟨_, rfl, R1.out, R2.out⟩
      · skip
        have HM : Hid ((Lib.encodeRune r).map B = [.int .u8 (240 + r / 262144), .int .u8 (128 + r / 4096 % 64), .int .u8 (128 + r / 64 % 64), .int .u8 (128 + r % 64)]) := by
          show _ = _
          rw [enc_cells r (by rw [Lib.encodeRuneZ_four (by omega) h1]; intro x hx; simp only [List.mem_cons, List.not_mem_nil, or_false] at hx; omega), Lib.encodeRuneZ_four (by omega) h1]
          rfl
        have HLn : Hid ((Lib.encodeRune r).length = 4) := by
          show _ = _
          unfold Lib.encodeRune
          rw [List.length_map, Lib.encodeRuneZ_four (by omega) h1]; rfl
        go_enter Tryd.func66, Tryd.ntmps66
        go_wp2_with (at_builtin; refine wpList_append_own _ rfl _ _ 60 rfl b 5 i0 (.int .u8 0) 1 1 Tryd.underlying60 hi hz0 hz1 hz2 rfl (by decide) _ _ _ rfl (HO.out.alloc _) ⟨w.heap.size, 0, none⟩ 4 4 [.int .u8 (240 + r / 262144), .int .u8 (128 + r / 4096 % 64), .int .u8 (128 + r / 64 % 64), .int .u8 (128 + r % 64)] rfl rfl (cells_new w [.int .u8 (240 + r / 262144), .int .u8 (128 + r / 4096 % 64), .int .u8 (128 + r / 64 % 64), .int .u8 (128 + r % 64)] 5) ?c42 ?c43 ?c44 ?c45 ?_)
        case c42 => first | exact ⟨rfl, rfl, rfl, rfl⟩ | rfl | (intro u hu; simp only [List.mem_cons, List.not_mem_nil, or_false] at hu; rcases hu with rfl | rfl | rfl | rfl <;> rfl)
        case c43 => unfold maxLen; omega
        case c44 => omega
        case c45 => first | omega | (simp; omega)
        intro v' w1 hown' hgrow _
        have R1 : Hid (w1.ownsRow b 5 1 v' (l ++ Lib.encodeRune r).length ((l ++ Lib.encodeRune r).map B)) := by
          show w1.ownsRow _ _ _ _ _ _
          rw [List.map_append, List.length_append, HM.out, HLn.out]; exact hown'
        have R2 : Hid (Below b w w1) := ((Below.refl b w).alloc hb _).grown hgrow (by simp; omega) (own_geS HO.out)
        clear hown' hgrow
        go_wp2
        go_ret
        exact ⟨_, rfl, R1.out, R2.out⟩
end Go.Proofs.YtkkgngmhdlmgnaaDoor.jw
