import Derived.Test.YtcogblelfeifbaaGreatDoorRdKit
import Derived.Maps.AppendAt
namespace Go.Proofs.YtcogblelfeifbaaGreatDoor.rc
open Go.ChangeShapes Go.WideShapes Go.ChangeAt Go.RowKit Go.Proofs.YtcogblelfeifbaaGreatDoor.common Go.Proofs.YtcogblelfeifbaaGreatDoor.dk

/-- a number in groups of seven bits -/
def numF : Nat → Nat → List UInt8
  | 0, n => [UInt8.ofNat n]
  | f + 1, n => if n < 128 then [UInt8.ofNat n] else UInt8.ofNat (128 + n % 128) :: numF f (n / 128)
def numL (n : Nat) : List UInt8 := numF 9 n
theorem numF_small (f n : Nat) (h : n < 128) : numF f n = [UInt8.ofNat n] := by
  cases f with
  | zero => rfl
  | succ f => simp [numF, h]
theorem numF_big (f n : Nat) (h : ¬ n < 128) : numF (f + 1) n = UInt8.ofNat (128 + n % 128) :: numF f (n / 128) := by simp [numF, h]
theorem numF_len (f n : Nat) : 0 < (numF f n).length ∧ (numF f n).length ≤ f + 1 := by
  induction f generalizing n with
  | zero => simp [numF]
  | succ f ih =>
    by_cases h : n < 128
    · simp [numF, h]
    · have := ih (n / 128)
      simp [numF, h]
      omega
theorem or128 (n : Nat) : bits .or .u8 128 ((n % 128 : Nat) : Int) = ((UInt8.ofNat (128 + n % 128)).toNat : Int) := by
  have h : ∀ m : Fin 128, bits .or .u8 128 ((m.val : Nat) : Int) = ((UInt8.ofNat (128 + m.val)).toNat : Int) := by decide +kernel
  exact h ⟨n % 128, Nat.mod_lt _ (by decide)⟩
theorem ofNat_val (n : Nat) (h : n < 256) : ((UInt8.ofNat n).toNat : Int) = (n : Int) := by rw [UInt8.toNat_ofNat']; omega

/-- a row that has grown: all but its own block is as it was; it lies in that block or in a new one -/
structure Gr (v v' : Value) (w w' : World) : Prop where
  fr : Fr v.ownBlock.toList w w'
  loc : ∀ k, v'.ownBlock = some k → v.ownBlock = some k ∨ w.heap.size ≤ k
theorem Gr.refl (v : Value) (w : World) : Gr v v w w := ⟨Fr.refl _ _, fun _ h => Or.inl h⟩
theorem Gr.trans {v v1 v2 : Value} {w w1 w2 : World} (h : Gr v v1 w w1) (k : Gr v1 v2 w1 w2) : Gr v v2 w w2 := by
  refine ⟨h.fr.trans k.fr (fun i hi => ?_), fun i hi => ?_⟩
  · rcases h.loc i (by simpa using hi) with h1 | h1
    · exact Or.inl (by simp [h1])
    · exact Or.inr h1
  · rcases k.loc i hi with h1 | h1
    · exact h.loc i h1
    · exact Or.inr (Nat.le_trans h.fr.size h1)
theorem gr_append {u v' : Value} {wr w1 : World} {tmp : Obj} (hg : (wr.alloc tmp).grownBy w1 u.ownBlock) (hat : v'.ownBlock = u.ownBlock ∨ v'.ownBlock = some (wr.alloc tmp).heap.size) : Gr u v' wr w1 := by
  have hz : (wr.alloc tmp).heap.size = wr.heap.size + 1 := by simp
  refine ⟨⟨hg.os, hg.tape, hg.output, by have := hg.size; omega, fun k hk hn => ?_⟩, fun k hk => ?_⟩
  · rw [hg.block k (by omega) (fun e => hn (by simp [← e])), Below.heap_alloc wr tmp k hk]
  · rcases hat with h | h
    · exact Or.inl (by rw [← h]; exact hk)
    · rw [h] at hk; cases hk; exact Or.inr (by omega)
theorem Gr.below {v v' : Value} {w w' : World} {base : Nat} (h : Gr v v' w w') (hv : ∀ k, v.ownBlock = some k → base ≤ k) (hb : base ≤ w.heap.size) : Below base w w' := h.fr.below (fun k hk => hv k (by simpa using hk)) hb

set_option maxRecDepth 100000 in
set_option maxHeartbeats 3200000 in
theorem appendNumber_any (v : Value) (l : List UInt8) (n base : Nat) (w : World) (hv : w.ownsRow base 5 1 v l.length (l.map B)) (hb : base ≤ w.heap.size) (hn : n ≤ 9223372036854775807) (hl : l.length ≤ 140737488355000) :
    Calls Tryz.prog 39 #[v, .int .i64 (n : Int)] w fun e w' => ∃ v', e = .returned v' ∧ w'.ownsRow base 5 1 v' (l ++ numL n).length ((l ++ numL n).map B) ∧ Gr v v' w w' := by
  obtain ⟨i0, hi, hz0, hz1, hz2⟩ := info_parts info8
  have HV := hide hv
  clear hv
  have HB0 := hide hb
  go_enter Tryz.func39, Tryz.ntmps39
  go_wp2
  go_loopw [0, 1] (fun u k wr => ∃ (c f : Nat) (d : List UInt8), c ≤ n ∧ c < 128 ^ (f + 1) ∧ f ≤ 9 ∧ d.length + f ≤ 9 ∧ k = .int .i64 (c : Int) ∧ numL n = d ++ numF f c ∧ wr.ownsRow base 5 1 u (l ++ d).length ((l ++ d).map B) ∧ Gr v u w wr ∧ base ≤ wr.heap.size) (fun _ k _ => (intOf k).toNat)
  case atStart => exact ⟨n, 9, [], Nat.le_refl _, by omega, Nat.le_refl _, by simp, rfl, rfl, by rw [List.append_nil]; exact HV.out, Gr.refl _ _, HB0.out⟩
  case round =>
    obtain ⟨c, f, d, hcn, hcf, hf9, hdf, rfl, hnm, hown, hnx, hsz⟩ := hrel
    have HX := hide hnx
    have hll : (l ++ d).length ≤ 140737488355100 := by rw [List.length_append]; omega
    have HNM := hide hnm
    generalize hL : l ++ d = L at *
    have HL := hide hL
    obtain ⟨ou, cu, rfl⟩ : ∃ ou cu, u0 = .slice ou L.length cu := by
      rcases hown.2 with ⟨h1, h0⟩ | ⟨g, cap, cur, h1, _⟩
      · exact ⟨none, 0, by rw [h1, h0]⟩
      · exact ⟨_, cap, h1⟩
    have HO := hide hown
    clear hown hnx hnm hL
    by_cases hlt : c < 128
    · have k1 : ¬ (128 : Int) ≤ (c : Int) := by omega
      have hcc : ((c : Int)) % 256 = (c : Int) := by omega
      have hB : Value.int .u8 (c : Int) = B (UInt8.ofNat c) := by show _ = Value.int .u8 _; rw [ofNat_val c (by omega)]
      go_wp2_with (at_builtin; refine wpList_append_own_at _ rfl _ _ 35 rfl base 5 i0 (.int .u8 0) 1 1 Tryz.underlying35 hi hz0 hz1 hz2 rfl (by decide) _ _ _ rfl (HO.out.alloc _) ⟨wr.heap.size, 0, none⟩ 1 1 [.int .u8 (c : Int)] rfl rfl ?c1 ?c2 ?c3 ?c4 ?c5 ?_)
      try (case c1 => first | exact fun j u h => h | exact cell_one_new _ _ _)
      try (case c2 => first | rfl | (intro u hu; simp at hu; subst hu; rfl))
      try (case c3 => unfold maxLen; omega)
      try (case c4 => omega)
      try (case c5 => first | omega | (simp; omega))
      intro v' w1 hown' hgrow _ hat
      have R1 : Hid (w1.ownsRow base 5 1 v' (l ++ numL n).length ((l ++ numL n).map B)) := by
        show World.ownsRow _ _ _ _ _ _ _
        rw [HNM.out, numF_small f c hlt, ← List.append_assoc, HL.out, List.length_append, List.map_append]
        exact hown'
      have R2 : Hid (Gr v v' w w1) := HX.out.trans (gr_append hgrow (by simpa using hat))
      clear hown' hgrow HO hat
      go_wp2
      go_ret
      exact ⟨v', rfl, R1.out, R2.out⟩
    · have k1 : (128 : Int) ≤ (c : Int) := by omega
      cases f with
      | zero => exact absurd hcf (by simp; omega)
      | succ f =>
      obtain ⟨m, hm⟩ : ∃ m, m = c % 128 := ⟨_, rfl⟩
      have hm1 : (c : Int) % 128 = (m : Int) := by omega
      have hm2 : (m : Int) % 256 = (m : Int) := by omega
      have hor : bits .or .u8 128 (m : Int) = ((UInt8.ofNat (128 + c % 128)).toNat : Int) := by rw [hm]; exact or128 c
      have hq : (c : Int) / 128 = ((c / 128 : Nat) : Int) := by omega
      have hq2 : c / 128 < c := Nat.div_lt_self (by omega) (by decide)
      have hq3 : c / 128 < 128 ^ (f + 1) := by
        rw [Nat.div_lt_iff_lt_mul (by decide), ← Nat.pow_succ]; exact hcf
      have HNB := hide (numF_big f c hlt)
      generalize c / 128 = q at *
      generalize UInt8.ofNat (128 + c % 128) = x at *
      have HM := hide hm
      clear hm
      go_wp2_with (at_builtin; refine wpList_append_own_at _ rfl _ _ 35 rfl base 5 i0 (.int .u8 0) 1 1 Tryz.underlying35 hi hz0 hz1 hz2 rfl (by decide) _ _ _ rfl (HO.out.alloc _) ⟨wr.heap.size, 0, none⟩ 1 1 [B x] rfl rfl ?d1 ?d2 ?d3 ?d4 ?d5 ?_)
      try (case d1 => first | exact fun j u h => h | exact cell_one_new _ _ _)
      try (case d2 => first | rfl | (intro u hu; simp at hu; subst hu; rfl))
      try (case d3 => unfold maxLen; omega)
      try (case d4 => omega)
      try (case d5 => first | omega | (simp; omega))
      intro v' w1 hown' hgrow _ hat
      have R1 : Hid (w1.ownsRow base 5 1 v' (l ++ (d ++ [x])).length ((l ++ (d ++ [x])).map B)) := by
        show World.ownsRow _ _ _ _ _ _ _
        rw [← List.append_assoc, HL.out, List.length_append, List.map_append]
        exact hown'
      have R2 : Hid (Gr v v' w w1) := HX.out.trans (gr_append hgrow (by simpa using hat))
      have R3 : Hid (base ≤ w1.heap.size) := by
        have := hgrow.size
        simp at this
        show _ ≤ _
        omega
      clear hown' hgrow HO hat
      go_wp2
      go_roundw
      case rel => exact ⟨q, f, d ++ [x], by omega, hq3, by omega, by simp; omega, by go_num, by rw [HNM.out, HNB.out]; simp, R1.out, R2.out, R3.out⟩
      case measure => simp [intOf]; omega
end Go.Proofs.YtcogblelfeifbaaGreatDoor.rc
