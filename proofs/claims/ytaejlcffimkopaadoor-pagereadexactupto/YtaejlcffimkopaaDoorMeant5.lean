import Derived.Test.YtaejlcffimkopaaDoorUnescW2
namespace Go.Proofs.YtaejlcffimkopaaDoor.pg
open Go.ChangeShapes Go.WideShapes Go.ChangeAt Go.RowKit Go.Proofs.YtaejlcffimkopaaDoor.common
attribute [local go_sem ↓] Go.wp_at_zero Go.wp_at_succ

/-- the document's reading of one byte -/
def meantOf (l : List UInt8) : UInt8 × Nat := match Pg.hit l with | some p => (p.1, p.2.length) | none => (l.headD 0, 1)
def five : ByteArray := { data := #[38, 60, 62, 34, 39] }
theorem five_at : ∀ n, n < 5 → ∀ h : n < five.size, five[n] = tC n := by
  intro n hn _
  match n, hn with
  | 0, _ => rfl
  | 1, _ => rfl
  | 2, _ => rfl
  | 3, _ => rfl
  | 4, _ => rfl
theorem esc1_tC : ∀ i, i < 5 → Pg.esc1 (tC i) = tS i := by decide
theorem pre_drop (s : ByteArray) (a : Nat) (p : List UInt8) : p.isPrefixOf (s.data.toList.drop a) = decide ((s.extract a (a + p.length)).data.toList = p) := by
  rw [pre_take, ext_list]
  congr 2
  congr 1
  omega

set_option maxRecDepth 100000 in
set_option maxHeartbeats 1600000 in
theorem meant_any (s : ByteArray) (a : Nat) (w : World) (ha : a < s.size) (hs : s.size < 9223372036854775000) :
    Calls Tryd.prog 84 #[.string s, .int .i64 a] w fun e w' => Below w.heap.size w w' ∧ e = .returned (.tuple #[B (meantOf (s.data.toList.drop a)).1, .int .i64 (meantOf (s.data.toList.drop a)).2]) := by
  have HS := hide hs
  have HD := hide (drop_cons s a ha)
  clear hs
  have a0 : (0 : Int) ≤ (a : Int) := by omega
  have a1 : (a : Int) < (s.size : Int) := by omega
  go_enter Tryd.func84, Tryd.ntmps84
  go_wp2_with fail
  generalize hF : ({ data := #[38, 60, 62, 34, 39] } : ByteArray) = F at *
  have hF5 : F.size = 5 := by rw [← hF]; rfl
  have HF : Hid (∀ n, n < 5 → ∀ h : n < F.size, F[n] = tC n) := by subst hF; exact five_at
  clear hF
  go_loopw [4, 5, 7] (fun r q i wr => ∃ k : Nat, r = .int .u8 0 ∧ q = .int .i64 0 ∧ k ≤ 5 ∧ i = .int .i64 k ∧ Hid (Below w.heap.size w wr) ∧ Hid (∀ j : Nat, j < k → (tS j).isPrefixOf (s.data.toList.drop a) = false)) (fun _ _ i _ => 5 - (intOf i).toNat)
  case atStart => exact ⟨0, rfl, rfl, by omega, rfl, Below.refl _ _, fun j hj => by omega⟩
  case round =>
    obtain ⟨k, rfl, rfl, hk, rfl, hbl, hno⟩ := hrel
    by_cases hlt : k < 5
    · have hki : (k : Int) < (F.size : Int) := by omega
      have k0 : (0 : Int) ≤ (k : Int) := by omega
      have hkF : k < F.size := by omega
      have HFk := hide (HF.out k hlt hkF)
      have HLn := hide (tS_len k hlt)
      go_wp2_with fail
      refine (written_any F[k] _).mono ?_
      rintro x w1 ⟨hb1, rfl⟩
      have HB1 := hide (hbl.out.trans (hb1.mono hbl.out.size))
      clear hb1
      have e1 : Pg.esc1 F[k] = tS k := by rw [HFk.out, esc1_tC k hlt]
      rw [e1]
      clear e1
      obtain ⟨Z, hZ⟩ : ∃ Z : ByteArray, (⟨(tS k).toArray⟩ : ByteArray) = Z := ⟨_, rfl⟩
      have HZl : Hid (Z.data.toList = tS k) := by show _ = _; rw [← hZ]
      have HZs : Hid (Z.size = (tS k).length) := by show _ = _; rw [← hZ, str_size]
      have hZ6 : Z.size ≤ 6 := by have := HLn.out.1; have := HZs.out; omega
      unfold S
      rw [hZ]
      clear hZ
      by_cases hle : a + Z.size ≤ s.size
      · have HP := hide (pre_drop s a (tS k))
        rw [← HZs.out] at HP
        have g1 : (a : Int) + (Z.size : Int) ≤ (s.size : Int) := by omega
        have g2 : (a : Int) ≤ (a : Int) + (Z.size : Int) := by omega
        have g3 : ((a : Int) + (Z.size : Int)).toNat = a + Z.size := by omega
        have hS := HS.out
        by_cases he : s.extract a (a + Z.size) = Z
        · have hb : ((s.extract a (a + Z.size)).toList == Z.toList) = true := eq_list he
          have HH : Hid (Pg.hit (s.data.toList.drop a) = some (tC k, tS k)) := hit_at _ k hlt hno.out (by rw [HP.out, he]; exact decide_eq_true HZl.out)
          clear he
          go_wp2
          go_ret2
          refine ⟨HB1.out, ?_⟩
          unfold meantOf
          rw [HH.out]
          show Ending.returned (.tuple #[.int .u8 (F[k].toNat : Int), .int .i64 (Z.size : Int)]) = _
          rw [HFk.out, HZs.out]
        · have hb : ((s.extract a (a + Z.size)).toList == Z.toList) = false := ne_list he
          have HN : Hid ((tS k).isPrefixOf (s.data.toList.drop a) = false) := by
            show _ = _
            rw [HP.out]
            exact decide_eq_false (fun h => he (ba_ext (by rw [h, HZl.out])))
          clear he
          go_wp2
          go_roundw
          case rel => exact ⟨k + 1, by first | rfl | trivial, by first | rfl | trivial, by omega, by go_num, HB1, fun j hj => by
            by_cases hjk : j = k
            · subst hjk; exact HN.out
            · exact hno.out j (by omega)⟩
          case measure => simp [intOf] <;> omega
      · have g1 : ¬ (a : Int) + (Z.size : Int) ≤ (s.size : Int) := by omega
        have g1d : decide ((a : Int) + (Z.size : Int) ≤ (s.size : Int)) = false := decide_eq_false g1
        have HN : Hid ((tS k).isPrefixOf (s.data.toList.drop a) = false) := by
          show _ = _
          apply pre_short
          rw [List.length_drop, len_list, ← HZs.out]; omega
        have hS := HS.out
        go_wp2
        go_roundw
        case rel => exact ⟨k + 1, by first | rfl | trivial, by first | rfl | trivial, by omega, by go_num, HB1, fun j hj => by
          by_cases hjk : j = k
          · subst hjk; exact HN.out
          · exact hno.out j (by omega)⟩
        case measure => simp [intOf] <;> omega
    · have hk8 : ¬ (k : Int) < (F.size : Int) := by omega
      have HH : Hid (Pg.hit (s.data.toList.drop a) = none) := hit_none _ (fun j hj => hno.out j (by omega))
      go_wp2
      go_ret2
      refine ⟨hbl.out, ?_⟩
      unfold meantOf
      rw [HH.out, HD.out]
      rfl

theorem mean_step (l : List UInt8) (h : l ≠ []) : Pg.mean l = (meantOf l).1 :: Pg.mean (l.drop (meantOf l).2) ∧ 1 ≤ (meantOf l).2 ∧ (meantOf l).2 ≤ l.length := by
  match l, h with
  | c :: r, _ =>
    unfold meantOf
    cases hp : Pg.hit (c :: r) with
    | none => exact ⟨Pg.mean_no c r hp, Nat.le_refl _, by simp⟩
    | some p =>
      obtain ⟨e, hpre, hne⟩ := Pg.hit_is hp
      have hl : 0 < p.2.length := by
        rw [e]; cases hw : Pg.wr p.1 with
        | nil => exact absurd hw hne
        | cons x y => simp
      refine ⟨?_, hl, ?_⟩
      · rw [Pg.mean_hit c r p hp]
        obtain ⟨m, hm⟩ : ∃ m, p.2.length = m + 1 := ⟨p.2.length - 1, by omega⟩
        show _ = p.1 :: Pg.mean ((c :: r).drop p.2.length)
        rw [hm, List.drop_succ_cons]; rfl
      · have := Pg.prefix_split hpre
        have := congrArg List.length this
        rw [List.length_append] at this
        show p.2.length ≤ _
        omega
end Go.Proofs.YtaejlcffimkopaaDoor.pg
