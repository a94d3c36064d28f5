import Derived.Test.YtcpflfpgnbihiaaGreatDoorMBfFold
import Derived.Laws.Strings3
namespace Go.Proofs.YtcpflfpgnbihiaaGreatDoor.bf
open Go.ChangeShapes Go.WideShapes Go.ChangeAt Go.RowKit Go.Proofs.YtcpflfpgnbihiaaGreatDoor.common Go.Proofs.YtcpflfpgnbihiaaGreatDoor.bk Go.Proofs.YtcpflfpgnbihiaaGreatDoor.fd
attribute [local go_sem ↓] Go.wp_at_zero Go.wp_at_succ

theorem arr_is (A : Array Value) (n : Nat) (h : A.size = n) : A = ((List.range n).map fun i => A.getD i undef).toArray := by
  subst h
  apply Array.ext
  · simp
  · intro i h1 h2
    simp [h1]
theorem lit_of (A : Array Value) (h : A.size = 123) : ∃ u : Nat → Value, A = #[u 0, u 1, u 2, u 3, u 4, u 5, u 6, u 7, u 8, u 9, u 10, u 11, u 12, u 13, u 14, u 15, u 16, u 17, u 18, u 19, u 20, u 21, u 22, u 23, u 24, u 25, u 26, u 27, u 28, u 29, u 30, u 31, u 32, u 33, u 34, u 35, u 36, u 37, u 38, u 39, u 40, u 41, u 42, u 43, u 44, u 45, u 46, u 47, u 48, u 49, u 50, u 51, u 52, u 53, u 54, u 55, u 56, u 57, u 58, u 59, u 60, u 61, u 62, u 63, u 64, u 65, u 66, u 67, u 68, u 69, u 70, u 71, u 72, u 73, u 74, u 75, u 76, u 77, u 78, u 79, u 80, u 81, u 82, u 83, u 84, u 85, u 86, u 87, u 88, u 89, u 90, u 91, u 92, u 93, u 94, u 95, u 96, u 97, u 98, u 99, u 100, u 101, u 102, u 103, u 104, u 105, u 106, u 107, u 108, u 109, u 110, u 111, u 112, u 113, u 114, u 115, u 116, u 117, u 118, u 119, u 120, u 121, u 122] ∧ ∀ i, A.getD i undef = u i := ⟨fun i => A.getD i undef, (arr_is A 123 h).trans rfl, fun _ => rfl⟩
theorem or_facts (x y : Nat) (h1 : x < 256) (h2 : y < 256) : bits .or .u8 (x : Int) (y : Int) = ((x ||| y : Nat) : Int) := u8_or_nat _ _ h1 h2

set_option maxRecDepth 100000 in
set_option maxHeartbeats 1000000 in
/-- a text that is not all ASCII is folded into no scheme's name -/
theorem fold_no (s t : ByteArray) (w : World) (hst : s.size = t.size) (hs : t.size ≤ 1000) (m : Nat) (hm : m < s.size) (hm8 : 128 ≤ s[m].toNat) (hlow : ∀ k (h : k < s.size), k < m → s[k].toNat < 128) (hL : ∀ k (h : k < t.size), isL t[k].toNat) (hT : FoldT w) :
    Calls Tryz.prog 27 #[.string s, .string t] w fun e w' => e = .returned (.bool false) ∧ Below w.heap.size w w' := by
  have hszi : min (s.size : Int) (t.size : Int) = (s.size : Int) := by omega
  have HLOW := hide hlow
  have HL := hide hL
  have HT := hide hT
  have HM8 := hide hm8
  clear hlow hL hT hm8
  have hsz2 : (s.size : Int) = (t.size : Int) := by omega
  go_enter Tryz.func27, Tryz.ntmps27
  go_wp2_with fail
  refine wp_scope_jumps 0 (fun a' w' => Hid (w' = w) ∧ ∃ A : Array Value, a' = { tmps := A, defers := [] } ∧ A.size = 123 ∧ A.getD 0 undef = .string s ∧ A.getD 1 undef = .string t ∧ A.getD 5 undef = .int .i64 m) (fun _ _ => 0) rfl ?_ ?_
  · go_wp2_with fail
    go_loopw [5, 7, 8] (fun i _ _ wr => ∃ k : Nat, k ≤ m ∧ i = .int .i64 k ∧ Hid (wr = w)) (fun i _ _ _ => s.size - (intOf i).toNat)
    case atStart => exact ⟨0, Nat.zero_le _, rfl, show w = w from rfl⟩
    case round =>
      obtain ⟨k, hk, rfl, HW⟩ := hrel
      have hki : (k : Int) < (s.size : Int) := by omega
      have hkt : (k : Int) < (t.size : Int) := by omega
      have hks : k < s.size := by omega
      have hkt2 : k < t.size := by omega
      have k0 : (0 : Int) ≤ (k : Int) := Int.natCast_nonneg _
      have hy := (isL_facts (HL.out k hkt2)).2.1
      have hx8 := s[k].toNat_lt
      have hor := or_facts s[k].toNat t[k].toNat (by omega) (by omega)
      by_cases hkm : k = m
      · subst hkm
        have h8 : 128 ≤ s[k].toNat ||| t[k].toNat := Nat.le_trans HM8.out Nat.left_le_or
        have h8i : (128 : Int) ≤ ((s[k].toNat ||| t[k].toNat : Nat) : Int) := by omega
        generalize s[k].toNat ||| t[k].toNat = z at *
        go_wp2_with fail
        go_step3
        exact ⟨rfl, HW, _, rfl, rfl, rfl, rfl, rfl⟩
      · have hx := HLOW.out k hks (by omega)
        have h8 : s[k].toNat ||| t[k].toNat < 128 := Nat.or_lt_two_pow (n := 7) hx hy
        have h8i : ¬ (128 : Int) ≤ ((s[k].toNat ||| t[k].toNat : Nat) : Int) := by omega
        generalize s[k].toNat ||| t[k].toNat = z at *
        go_wp2
        all_goals first
          | (go_roundw
             case rel => exact ⟨k + 1, by omega, by first | rfl | simp | go_num, HW⟩
             case measure => simp [intOf]; omega)
          | (simp only [Exit.jump]
             go_ret
             exact ⟨rfl, by rw [HW.out]; exact Below.refl _ _⟩)
          | (go_ret
             exact ⟨rfl, by rw [HW.out]; exact Below.refl _ _⟩)
  · rintro a' w' ⟨HW, A, rfl, hA, e0, e1, e5⟩
    obtain ⟨u, hu, hv⟩ := lit_of A hA
    have f0 : u 0 = .string s := by rw [← hv, e0]
    have f1 : u 1 = .string t := by rw [← hv, e1]
    have f5 : u 5 = .int .i64 m := by rw [← hv, e5]
    rw [hu, f0, f1, f5]
    clear hu hv e0 e1 e5 f0 f1 f5 hA
    have k0 : (0 : Int) ≤ (m : Int) := Int.natCast_nonneg _
    have k1 : (m : Int) ≤ (s.size : Int) := by omega
    have k2 : (m : Int) ≤ (t.size : Int) := by omega
    have hmt : m < t.size := by omega
    have HX : Hid ((s.extract m t.size).size = t.size - m ∧ ∀ h : 0 < (s.extract m t.size).size, (s.extract m t.size)[0] = s[m]) := by
      refine ⟨by rw [ByteArray.size_extract]; omega, fun h => ?_⟩
      rw [ByteArray.getElem_extract]
      rfl
    have HY : Hid ((t.extract m t.size).size = t.size - m ∧ ∀ h : 0 < (t.extract m t.size).size, (t.extract m t.size)[0] = t[m]) := by
      refine ⟨by rw [ByteArray.size_extract]; omega, fun h => ?_⟩
      rw [ByteArray.getElem_extract]
      rfl
    have HLm := hide (HL.out m hmt)
    have hX0 : 0 < (s.extract m t.size).size := by rw [HX.out.1]; omega
    have hY0 : 0 < (t.extract m t.size).size := by rw [HY.out.1]; omega
    have hdh := decode_high (s.extract m t.size) 0 hX0 (by rw [HX.out.2 hX0]; exact HM8.out)
    have hdl := decode_le (s.extract m t.size) 0
    have hNX := fun ty => run_next_any (P := Tryz.prog) w' (s.extract m t.size) 0 ty hX0
    obtain ⟨x1, x2, x3, x4, x5⟩ := isL_facts HLm.out
    have HDR : Hid (∀ W, Calls Tryz.prog 44 #[.string (t.extract m t.size)] W fun e w' => e = .returned (.tuple #[.int .i32 (t[m].toNat : Int), .int .i64 1]) ∧ w' = W) := fun W => by
      have h := decode1_any (t.extract m t.size) hY0 (by rw [HY.out.2 hY0]; exact x2) W
      rw [HY.out.2 hY0] at h; exact h
    have HFT : Hid (∀ W, Below w.heap.size w W → FoldT W) := fun W hW => HT.out.fr hW
    have HI : Hid (∀ p, Below w.heap.size w (w'.iter (s.extract m t.size) p)) := fun p => by
      have h0 := HW.out
      subst h0
      exact (Below.refl _ _).alloc (Nat.le_refl _) (.stringIter (s.extract m t.size) p)
    have HS1 : Hid (∀ W, FoldT W → Calls Tryz.prog 45 #[.int .i32 (t[m].toNat : Int)] W fun e w' => e = .returned (.int .i32 (oth t[m].toNat : Int)) ∧ Below W.heap.size W w') := fun W hW => simple_any _ HLm.out W hW
    have HS2 : Hid (∀ W, FoldT W → Calls Tryz.prog 45 #[.int .i32 (oth t[m].toNat : Int)] W fun e w' => e = .returned (.int .i32 (t[m].toNat : Int)) ∧ Below W.heap.size W w') := fun W hW => by
      have h := simple_any _ x3 W hW
      rw [x4] at h; exact h
    have hYs : (1 : Int) ≤ ((t.extract m t.size).size : Int) := by omega
    have hYz : ¬ ((t.extract m t.size).size : Int) = 0 := by omega
    obtain ⟨_, y2, _, _, _⟩ := isL_facts x3
    generalize (Utf8.decode (s.extract m t.size) 0).2 = p2 at *
    generalize (Utf8.decode (s.extract m t.size) 0).1 = R at *
    generalize oth t[m].toNat = q at *
    generalize t[m].toNat = x at *
    obtain ⟨hR, _⟩ := hdh
    have g1 : ¬ (x : Int) = (R : Int) := by omega
    have g2 : (x : Int) < (R : Int) := by omega
    have g3 : ¬ (R : Int) < 128 := by omega
    have g4 : ¬ (q : Int) = (x : Int) := by omega
    have g5 : (q : Int) < (R : Int) := by omega
    have g6 : ((x : Int) == (R : Int)) = false := beq_false_of_ne g1
    have g7 : ((q : Int) != (x : Int)) = true := bne_iff_ne.2 g4
    have g8 : decide ((q : Int) < (R : Int)) = true := decide_eq_true g5
    clear HLm HM8 HLOW HL HT x1 x2 x3 x4 x5 y2 hdl hR
    go_wp2_with fail
    go_loopw [1, 10, 11, 12, 13] (fun v _ _ _ _ wr => v = .string (t.extract m t.size) ∧ Hid (wr = w'.iter (s.extract m t.size) 0)) (fun _ _ _ _ _ _ => 0)
    case atStart => exact ⟨rfl, show w'.iter (s.extract m t.size) 0 = _ from rfl⟩
    case round =>
      obtain ⟨rfl, hwr⟩ := hrel
      have hwr2 := hwr.out
      subst hwr2
      clear hwr
      generalize s.extract m t.size = X at *
      generalize t.extract m t.size = Y at *
      go_wp2_with fail
      refine (HDR.out _).mono ?_
      rintro e w1 ⟨rfl, e1⟩
      subst e1
      go_wp2_with fail
      refine (HS1.out _ (HFT.out _ (HI.out _))).mono ?_
      rintro e w2 ⟨rfl, b2⟩
      have HB2 := hide (keepD (HI.out _) b2)
      clear b2
      go_wp2_with fail
      go_loopw [13] (fun r wr => (r = .int .i32 (q : Int) ∨ r = .int .i32 (x : Int)) ∧ Hid (Below w.heap.size w wr)) (fun r _ => if intOf r = (x : Int) then 0 else 1)
      case atStart => exact ⟨Or.inl rfl, HB2⟩
      case round =>
        obtain ⟨hr, HB⟩ := hrel
        rcases hr with rfl | rfl
        · go_wp2_with fail
          refine (HS2.out _ (HFT.out _ HB.out)).mono ?_
          rintro e w3 ⟨rfl, b3⟩
          have HB3 := hide (keepD HB.out b3)
          clear b3 HB
          go_wp2_with fail
          go_roundw
          case rel => exact ⟨Or.inr rfl, HB3⟩
          case measure => simp [intOf, g4]
        · go_wp2_with fail
          try simp only [Exit.jump]
          go_ret
          exact ⟨rfl, HB.out⟩
end Go.Proofs.YtcpflfpgnbihiaaGreatDoor.bf
