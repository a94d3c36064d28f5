import Derived.Test.YtcogblelfeifbaaGreatDoorRcNum
import Derived.Test.YtcogblelfeifbaaGreatDoorAppText
import Derived.Test.YtcogblelfeifbaaGreatDoorRcWl
namespace Go.Proofs.YtcogblelfeifbaaGreatDoor.rc
open Go.ChangeShapes Go.WideShapes Go.ChangeAt Go.RowKit Go.Proofs.YtcogblelfeifbaaGreatDoor.common Go.Proofs.YtcogblelfeifbaaGreatDoor.dk

theorem add128 (n : Nat) : (128 : Int) + ((n % 128 : Nat) : Int) = ((UInt8.ofNat (128 + n % 128)).toNat : Int) := by
  rw [ofNat_val (128 + n % 128) (by have := Nat.mod_lt n (show 0 < 128 by decide); omega)]
  omega
set_option maxRecDepth 100000 in
set_option maxHeartbeats 3200000 in
theorem refNumber_any (n : Nat) (w : World) (hn : n ≤ 9223372036854775807) :
    Calls Tryz.prog 40 #[.int .i64 (n : Int)] w fun e w' => ∃ v', e = .returned v' ∧ w'.ownsRow w.heap.size 5 1 v' (numL n).length ((numL n).map B) ∧ Below w.heap.size w w' := by
  obtain ⟨i0, hi, hz0, hz1, hz2⟩ := info_parts info8
  go_enter Tryz.func40, Tryz.ntmps40
  go_wp2
  go_loopw [0, 3] (fun k u wr => ∃ (c f : Nat) (d : List UInt8), c ≤ n ∧ c < 128 ^ (f + 1) ∧ f ≤ 9 ∧ d.length + f ≤ 9 ∧ k = .int .i64 (c : Int) ∧ numL n = d ++ numF f c ∧ wr.ownsRow w.heap.size 5 1 u d.length (d.map B) ∧ Below w.heap.size w wr) (fun k _ _ => (intOf k).toNat)
  case atStart => exact ⟨n, 9, [], Nat.le_refl _, by omega, Nat.le_refl _, by simp, rfl, rfl, World.ownsRow_nil _ _ _ _, Below.refl _ _⟩
  case round =>
    obtain ⟨c, f, d, hcn, hcf, hf9, hdf, rfl, hnm, hown, hnx⟩ := hrel
    have hsz := hnx.size
    have HX := hide hnx
    have HNM := hide hnm
    have hll : d.length ≤ 9 := by omega
    obtain ⟨ou, cu, rfl⟩ : ∃ ou cu, u3 = .slice ou d.length cu := by
      rcases hown.2 with ⟨h1, h0⟩ | ⟨g, cap, cur, h1, _⟩
      · exact ⟨none, 0, by rw [h1, h0]⟩
      · exact ⟨_, cap, h1⟩
    have HO := hide hown
    clear hown hnx hnm
    by_cases hlt : c < 128
    · have k1 : ¬ (128 : Int) ≤ (c : Int) := by omega
      have hcc : ((c : Int)) % 256 = (c : Int) := by omega
      have hB : Value.int .u8 (c : Int) = B (UInt8.ofNat c) := by show _ = Value.int .u8 _; rw [ofNat_val c (by omega)]
      go_wp2_with (at_builtin; refine wpList_append_own _ rfl _ _ 35 rfl w.heap.size 5 i0 (.int .u8 0) 1 1 Tryz.underlying35 hi hz0 hz1 hz2 rfl (by decide) _ _ _ rfl (HO.out.alloc _) ⟨wr.heap.size, 0, none⟩ 1 1 [.int .u8 (c : Int)] rfl rfl ?c1 ?c2 ?c3 ?c4 ?c5 ?_)
      try (case c1 => first | exact fun j u h => h | exact cell_one_new _ _ _)
      try (case c2 => first | rfl | (intro u hu; simp at hu; subst hu; rfl))
      try (case c3 => unfold maxLen; omega)
      try (case c4 => omega)
      try (case c5 => first | omega | (simp; omega))
      intro v' w1 hown' hgrow _
      have R1 : Hid (w1.ownsRow w.heap.size 5 1 v' (numL n).length ((numL n).map B)) := by
        show World.ownsRow _ _ _ _ _ _ _
        rw [HNM.out, numF_small f c hlt, List.length_append, List.map_append]
        exact hown'
      have R2 : Hid (Below w.heap.size w w1) := (HX.out.alloc hsz _).grown hgrow (by simp; omega) (own_ge HO.out)
      clear hown' hgrow HO
      go_wp2
      go_ret
      exact ⟨v', rfl, R1.out, R2.out⟩
    · have k1 : (128 : Int) ≤ (c : Int) := by omega
      cases f with
      | zero => exact absurd hcf (by simp; omega)
      | succ f =>
      obtain ⟨m, hm⟩ : ∃ m, m = c % 128 := ⟨_, rfl⟩
      have hm1 : (c : Int) % 128 = (m : Int) := by omega
      have hm2 : ((128 : Int) + (m : Int)) % 256 = 128 + (m : Int) := by omega
      have hor : (128 : Int) + (m : Int) = ((UInt8.ofNat (128 + c % 128)).toNat : Int) := by rw [hm]; exact add128 c
      have hq : (c : Int) / 128 = ((c / 128 : Nat) : Int) := by omega
      have hq2 : c / 128 < c := Nat.div_lt_self (by omega) (by decide)
      have hq3 : c / 128 < 128 ^ (f + 1) := by
        rw [Nat.div_lt_iff_lt_mul (by decide), ← Nat.pow_succ]; exact hcf
      have HNB := hide (numF_big f c hlt)
      have hx : (UInt8.ofNat (128 + c % 128)).toNat < 256 := UInt8.toNat_lt _
      generalize c / 128 = q at *
      generalize UInt8.ofNat (128 + c % 128) = x at *
      have hxx : ((x.toNat : Int)) % 256 = (x.toNat : Int) := by omega
      have HM := hide hm
      clear hm hm2
      go_wp2_with (at_builtin; refine wpList_append_own _ rfl _ _ 35 rfl w.heap.size 5 i0 (.int .u8 0) 1 1 Tryz.underlying35 hi hz0 hz1 hz2 rfl (by decide) _ _ _ rfl (HO.out.alloc _) ⟨wr.heap.size, 0, none⟩ 1 1 [B x] rfl rfl ?d1 ?d2 ?d3 ?d4 ?d5 ?_)
      try (case d1 => first | exact fun j u h => h | exact cell_one_new _ _ _)
      try (case d2 => first | rfl | (intro u hu; simp at hu; subst hu; rfl))
      try (case d3 => unfold maxLen; omega)
      try (case d4 => omega)
      try (case d5 => first | omega | (simp; omega))
      intro v' w1 hown' hgrow _
      have R1 : Hid (w1.ownsRow w.heap.size 5 1 v' (d ++ [x]).length ((d ++ [x]).map B)) := by
        show World.ownsRow _ _ _ _ _ _ _
        rw [List.length_append, List.map_append]
        exact hown'
      have R2 : Hid (Below w.heap.size w w1) := (HX.out.alloc hsz _).grown hgrow (by simp; omega) (own_ge HO.out)
      clear hown' hgrow HO
      go_wp2
      go_roundw
      case rel => exact ⟨q, f, d ++ [x], by omega, hq3, by omega, by simp; omega, by go_num, by rw [HNM.out, HNB.out]; simp, R1.out, R2.out⟩
      case measure => simp [intOf]; omega
end Go.Proofs.YtcogblelfeifbaaGreatDoor.rc
