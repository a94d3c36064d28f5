import Derived.Test.YtkkgngmhdlmgnaaDoorJsonKit
import Derived.Deep.RegionHeld3
import Derived.Deep.DrawnRows
import Derived.Deep.QuietTactic
import Derived.BigQuiet
import Derived.WalkSmall
namespace Go.Proofs.YtkkgngmhdlmgnaaDoor.jw
open Go.ChangeShapes Go.WideShapes Go.ChangeAt Go.RowKit Go.Proofs.YtkkgngmhdlmgnaaDoor.common
attribute [local go_sem ↓] Go.wp_at_zero Go.wp_at_succ

/-- is there a byte at i from lo to hi? -/
def tailOf (s : ByteArray) (i lo hi : Nat) : Bool := decide (i < s.size ∧ lo ≤ (s.get! i).toNat ∧ (s.get! i).toNat ≤ hi)

set_option maxRecDepth 100000 in
set_option maxHeartbeats 800000 in
theorem refTail_any (s : ByteArray) (i lo hi : Nat) (w : World) (I : Int) (hI : I = (i : Int)) :
    Calls Tryd.prog 69 #[.string s, .int .i64 I, .int .u8 lo, .int .u8 hi] w fun e w' => e = .returned (.bool (tailOf s i lo hi)) ∧ w' = w := by
  subst hI
  obtain ⟨R, hR⟩ : ∃ R, tailOf s i lo hi = R := ⟨_, rfl⟩
  rw [hR]
  by_cases h0 : i < s.size
  · have k0 : (i : Int) < (s.size : Int) := by omega
    have kn : (i : Int).toNat = i := by omega
    have kz : (0 : Int) ≤ (i : Int) := by omega
    have hg : s.get! i = s[i] := Utf8W.get!_of_lt s i h0
    by_cases h1 : lo ≤ s[i].toNat
    · have k1 : (lo : Int) ≤ (s[i].toNat : Int) := by omega
      by_cases h2 : s[i].toNat ≤ hi
      · have k2 : (s[i].toNat : Int) ≤ (hi : Int) := by omega
        have e : R = true := by rw [← hR]; simp only [tailOf, hg, decide_eq_true_eq]; exact ⟨h0, h1, h2⟩
        subst e
        clear hR hg
        go_enter Tryd.func69, Tryd.ntmps69
        go_wp2
        go_ret
        exact ⟨rfl, rfl⟩
      · have k2 : ¬ (s[i].toNat : Int) ≤ (hi : Int) := by omega
        have e : R = false := by rw [← hR]; simp only [tailOf, hg, decide_eq_false_iff_not]; exact fun h => h2 h.2.2
        subst e
        clear hR hg
        go_enter Tryd.func69, Tryd.ntmps69
        go_wp2
        go_ret
        exact ⟨rfl, rfl⟩
    · have k1 : ¬ (lo : Int) ≤ (s[i].toNat : Int) := by omega
      have e : R = false := by rw [← hR]; simp only [tailOf, hg, decide_eq_false_iff_not]; exact fun h => h1 h.2.1
      subst e
      clear hR hg
      go_enter Tryd.func69, Tryd.ntmps69
      go_wp2
      go_ret
      exact ⟨rfl, rfl⟩
  · have k0 : ¬ (i : Int) < (s.size : Int) := by omega
    have e : R = false := by rw [← hR]; simp only [tailOf, decide_eq_false_iff_not]; exact fun h => h0 h.1
    subst e
    clear hR
    go_enter Tryd.func69, Tryd.ntmps69
    go_wp2
    go_ret
    exact ⟨rfl, rfl⟩

def threeOf (s : ByteArray) (i : Nat) : Bool := tailOf s (i + 1) (if (s.get! i).toNat = 224 then 160 else 128) (if (s.get! i).toNat = 237 then 159 else 191) && tailOf s (i + 2) 128 191

set_option maxRecDepth 100000 in
set_option maxHeartbeats 1600000 in
theorem refThree_any (s : ByteArray) (i : Nat) (w : World) (hs : s.size < 9223372036854775800) (h0 : i < s.size) :
    Calls Tryd.prog 70 #[.string s, .int .i64 i] w fun e w' => e = .returned (.bool (threeOf s i)) ∧ w' = w := by
  have k0 : (i : Int) < (s.size : Int) := by omega
  have kn : (i : Int).toNat = i := by omega
  have kz : (0 : Int) ≤ (i : Int) := by omega
  have hg : s.get! i = s[i] := Utf8W.get!_of_lt s i h0
  have c1 := hide (fun (lo hi : Nat) (I : Int) (hI : I = ((i + 1 : Nat) : Int)) => refTail_any s (i + 1) lo hi w I hI)
  have c2 := hide (fun (I : Int) (hI : I = ((i + 2 : Nat) : Int)) => refTail_any s (i + 2) 128 191 w I hI)
  unfold threeOf
  rw [hg]
  clear hg
  generalize tailOf s (i + 2) 128 191 = b2 at *
  by_cases h1 : s[i].toNat = 224
  · have k1 : (s[i].toNat : Int) = 224 := by omega
    have c1' := hide (c1.out 160 191)
    rw [if_pos h1, if_neg (by omega)]
    clear c1 h1
    generalize tailOf s (i + 1) 160 191 = b1 at *
    go_enter Tryd.func70, Tryd.ntmps70
    go_wp2_with fail
    refine (c1'.out _ (by omega)).mono ?_
    rintro e w' ⟨rfl, rfl⟩
    cases b1
    · go_wp2
      go_ret
      exact ⟨rfl, rfl⟩
    · go_wp2_with fail
      refine (c2.out _ (by omega)).mono ?_
      rintro e w' ⟨rfl, rfl⟩
      go_wp2
      go_ret
      exact ⟨by cases b2 <;> rfl, rfl⟩
  · have k1 : ¬ (s[i].toNat : Int) = 224 := by omega
    by_cases h2 : s[i].toNat = 237
    · have k2 : (s[i].toNat : Int) = 237 := by omega
      have c1' := hide (c1.out 128 159)
      rw [if_neg h1, if_pos h2]
      clear c1 h1 h2 k1
      generalize tailOf s (i + 1) 128 159 = b1 at *
      go_enter Tryd.func70, Tryd.ntmps70
      go_wp2_with fail
      refine (c1'.out _ (by omega)).mono ?_
      rintro e w' ⟨rfl, rfl⟩
      cases b1
      · go_wp2
        go_ret
        exact ⟨rfl, rfl⟩
      · go_wp2_with fail
        refine (c2.out _ (by omega)).mono ?_
        rintro e w' ⟨rfl, rfl⟩
        go_wp2
        go_ret
        exact ⟨by cases b2 <;> rfl, rfl⟩
    · have k2 : ¬ (s[i].toNat : Int) = 237 := by omega
      have c1' := hide (c1.out 128 191)
      rw [if_neg h1, if_neg h2]
      clear c1 h1 h2
      generalize tailOf s (i + 1) 128 191 = b1 at *
      go_enter Tryd.func70, Tryd.ntmps70
      go_wp2_with fail
      refine (c1'.out _ (by omega)).mono ?_
      rintro e w' ⟨rfl, rfl⟩
      cases b1
      · go_wp2
        go_ret
        exact ⟨rfl, rfl⟩
      · go_wp2_with fail
        refine (c2.out _ (by omega)).mono ?_
        rintro e w' ⟨rfl, rfl⟩
        go_wp2
        go_ret
        exact ⟨by cases b2 <;> rfl, rfl⟩

def fourOf (s : ByteArray) (i : Nat) : Bool := tailOf s (i + 1) (if (s.get! i).toNat = 240 then 144 else 128) (if (s.get! i).toNat = 244 then 143 else 191) && (tailOf s (i + 2) 128 191 && tailOf s (i + 3) 128 191)

set_option maxRecDepth 100000 in
set_option maxHeartbeats 1600000 in
theorem refFour_any (s : ByteArray) (i : Nat) (w : World) (hs : s.size < 9223372036854775800) (h0 : i < s.size) :
    Calls Tryd.prog 71 #[.string s, .int .i64 i] w fun e w' => e = .returned (.bool (fourOf s i)) ∧ w' = w := by
  have k0 : (i : Int) < (s.size : Int) := by omega
  have kn : (i : Int).toNat = i := by omega
  have kz : (0 : Int) ≤ (i : Int) := by omega
  have hg : s.get! i = s[i] := Utf8W.get!_of_lt s i h0
  have c1 := hide (fun (lo hi : Nat) (I : Int) (hI : I = ((i + 1 : Nat) : Int)) => refTail_any s (i + 1) lo hi w I hI)
  have c2 := hide (fun (I : Int) (hI : I = ((i + 2 : Nat) : Int)) => refTail_any s (i + 2) 128 191 w I hI)
  have c3 := hide (fun (I : Int) (hI : I = ((i + 3 : Nat) : Int)) => refTail_any s (i + 3) 128 191 w I hI)
  unfold fourOf
  rw [hg]
  clear hg
  generalize tailOf s (i + 2) 128 191 = b2 at *
  generalize tailOf s (i + 3) 128 191 = b3 at *
  by_cases h1 : s[i].toNat = 240
  · have k1 : (s[i].toNat : Int) = 240 := by omega
    have c1' := hide (c1.out 144 191)
    rw [if_pos h1, if_neg (by omega)]; clear h1
    clear c1
    generalize tailOf s (i + 1) 144 191 = b1 at *
    go_enter Tryd.func71, Tryd.ntmps71
    go_wp2_with fail
    refine (c1'.out _ (by omega)).mono ?_
    rintro e w' ⟨rfl, rfl⟩
    cases b1
    · go_wp2
      go_ret
      exact ⟨rfl, rfl⟩
    · go_wp2_with fail
      refine (c2.out _ (by omega)).mono ?_
      rintro e w' ⟨rfl, rfl⟩
      cases b2
      · go_wp2
        go_ret
        exact ⟨rfl, rfl⟩
      · go_wp2_with fail
        refine (c3.out _ (by omega)).mono ?_
        rintro e w' ⟨rfl, rfl⟩
        go_wp2
        go_ret
        exact ⟨by cases b3 <;> rfl, rfl⟩
  · have k1 : ¬ (s[i].toNat : Int) = 240 := by omega
    by_cases h2 : s[i].toNat = 244
    · have k2 : (s[i].toNat : Int) = 244 := by omega
      have c1' := hide (c1.out 128 143)
      rw [if_neg h1, if_pos h2]; clear h1 h2 k1
      clear c1
      generalize tailOf s (i + 1) 128 143 = b1 at *
      go_enter Tryd.func71, Tryd.ntmps71
      go_wp2_with fail
      refine (c1'.out _ (by omega)).mono ?_
      rintro e w' ⟨rfl, rfl⟩
      cases b1
      · go_wp2
        go_ret
        exact ⟨rfl, rfl⟩
      · go_wp2_with fail
        refine (c2.out _ (by omega)).mono ?_
        rintro e w' ⟨rfl, rfl⟩
        cases b2
        · go_wp2
          go_ret
          exact ⟨rfl, rfl⟩
        · go_wp2_with fail
          refine (c3.out _ (by omega)).mono ?_
          rintro e w' ⟨rfl, rfl⟩
          go_wp2
          go_ret
          exact ⟨by cases b3 <;> rfl, rfl⟩
    · have k2 : ¬ (s[i].toNat : Int) = 244 := by omega
      have c1' := hide (c1.out 128 191)
      rw [if_neg h1, if_neg h2]; clear h1 h2
      clear c1
      generalize tailOf s (i + 1) 128 191 = b1 at *
      go_enter Tryd.func71, Tryd.ntmps71
      go_wp2_with fail
      refine (c1'.out _ (by omega)).mono ?_
      rintro e w' ⟨rfl, rfl⟩
      cases b1
      · go_wp2
        go_ret
        exact ⟨rfl, rfl⟩
      · go_wp2_with fail
        refine (c2.out _ (by omega)).mono ?_
        rintro e w' ⟨rfl, rfl⟩
        cases b2
        · go_wp2
          go_ret
          exact ⟨rfl, rfl⟩
        · go_wp2_with fail
          refine (c3.out _ (by omega)).mono ?_
          rintro e w' ⟨rfl, rfl⟩
          go_wp2
          go_ret
          exact ⟨by cases b3 <;> rfl, rfl⟩

/-- the size of the character at i; 0: none begins there -/
def sizeOf (s : ByteArray) (i : Nat) : Nat :=
  if (s.get! i).toNat ≤ 127 then 1
  else if 194 ≤ (s.get! i).toNat ∧ (s.get! i).toNat ≤ 223 then (if tailOf s (i + 1) 128 191 = true then 2 else 0)
  else if 224 ≤ (s.get! i).toNat ∧ (s.get! i).toNat ≤ 239 then (if threeOf s i = true then 3 else 0)
  else if 240 ≤ (s.get! i).toNat ∧ (s.get! i).toNat ≤ 244 then (if fourOf s i = true then 4 else 0) else 0

set_option maxRecDepth 100000 in
set_option maxHeartbeats 1600000 in
theorem refSize_any (s : ByteArray) (i : Nat) (w : World) (hs : s.size < 9223372036854775800) (h0 : i < s.size) :
    Calls Tryd.prog 53 #[.string s, .int .i64 i] w fun e w' => e = .returned (.int .i64 (sizeOf s i : Nat)) ∧ w' = w := by
  have k0 : (i : Int) < (s.size : Int) := by omega
  have kn : (i : Int).toNat = i := by omega
  have kz : (0 : Int) ≤ (i : Int) := by omega
  have hg : s.get! i = s[i] := Utf8W.get!_of_lt s i h0
  have hlt := s[i].toNat_lt
  have c1 := hide (fun (I : Int) (hI : I = ((i + 1 : Nat) : Int)) => refTail_any s (i + 1) 128 191 w I hI)
  have c2 := hide (refThree_any s i w hs h0)
  have c3 := hide (refFour_any s i w hs h0)
  unfold sizeOf
  rw [hg]
  clear hg
  generalize tailOf s (i + 1) 128 191 = b1 at *
  generalize threeOf s i = b2 at *
  generalize fourOf s i = b3 at *
  by_cases h1 : s[i].toNat ≤ 127
  · have k1 : (s[i].toNat : Int) ≤ 127 := by omega
    rw [if_pos h1]
    clear h1
    go_enter Tryd.func53, Tryd.ntmps53
    go_wp2
    go_ret
    exact ⟨rfl, rfl⟩
  · have k1 : ¬ (s[i].toNat : Int) ≤ 127 := by omega
    rw [if_neg h1]
    by_cases h2 : 194 ≤ s[i].toNat ∧ s[i].toNat ≤ 223
    · have k2 : (194 : Int) ≤ (s[i].toNat : Int) := by omega
      have k3 : (s[i].toNat : Int) ≤ 223 := by omega
      rw [if_pos h2]
      clear h1 h2
      go_enter Tryd.func53, Tryd.ntmps53
      go_wp2_with fail
      refine (c1.out _ (by omega)).mono ?_
      rintro e w' ⟨rfl, rfl⟩
      cases b1
      · go_wp2
        go_ret
        exact ⟨rfl, rfl⟩
      · go_wp2
        go_ret
        exact ⟨rfl, rfl⟩
    · rw [if_neg h2]
      by_cases h3 : 224 ≤ s[i].toNat ∧ s[i].toNat ≤ 239
      · have k2 : (194 : Int) ≤ (s[i].toNat : Int) := by omega
        have k3 : ¬ (s[i].toNat : Int) ≤ 223 := by omega
        have k4 : (224 : Int) ≤ (s[i].toNat : Int) := by omega
        have k5 : (s[i].toNat : Int) ≤ 239 := by omega
        rw [if_pos h3]
        clear h1 h2 h3
        go_enter Tryd.func53, Tryd.ntmps53
        go_wp2_with fail
        refine c2.out.mono ?_
        rintro e w' ⟨rfl, rfl⟩
        cases b2
        · go_wp2
          go_ret
          exact ⟨rfl, rfl⟩
        · go_wp2
          go_ret
          exact ⟨rfl, rfl⟩
      · rw [if_neg h3]
        by_cases h4 : 240 ≤ s[i].toNat ∧ s[i].toNat ≤ 244
        · have k2 : (194 : Int) ≤ (s[i].toNat : Int) := by omega
          have k3 : ¬ (s[i].toNat : Int) ≤ 223 := by omega
          have k4 : (224 : Int) ≤ (s[i].toNat : Int) := by omega
          have k5 : ¬ (s[i].toNat : Int) ≤ 239 := by omega
          have k6 : (240 : Int) ≤ (s[i].toNat : Int) := by omega
          have k7 : (s[i].toNat : Int) ≤ 244 := by omega
          rw [if_pos h4]
          clear h1 h2 h3 h4
          go_enter Tryd.func53, Tryd.ntmps53
          go_wp2_with fail
          refine c3.out.mono ?_
          rintro e w' ⟨rfl, rfl⟩
          cases b3
          · go_wp2
            go_ret
            exact ⟨rfl, rfl⟩
          · go_wp2
            go_ret
            exact ⟨rfl, rfl⟩
        · rw [if_neg h4]
          have hc : Hid ((s[i].toNat : Int) < 194) ∨ Hid (244 < (s[i].toNat : Int)) := by
            by_cases hx : s[i].toNat < 194
            · exact Or.inl (hide (by omega))
            · exact Or.inr (hide (by omega))
          clear h1 h2 h3 h4
          rcases hc with hc | hc
          · have k2 : ¬ (194 : Int) ≤ (s[i].toNat : Int) := by have := hc.out; omega
            have k4 : ¬ (224 : Int) ≤ (s[i].toNat : Int) := by have := hc.out; omega
            have k6 : ¬ (240 : Int) ≤ (s[i].toNat : Int) := by have := hc.out; omega
            go_enter Tryd.func53, Tryd.ntmps53
            go_wp2
            go_ret
            exact ⟨rfl, rfl⟩
          · have k2 : (194 : Int) ≤ (s[i].toNat : Int) := by have := hc.out; omega
            have k3 : ¬ (s[i].toNat : Int) ≤ 223 := by have := hc.out; omega
            have k4 : (224 : Int) ≤ (s[i].toNat : Int) := by have := hc.out; omega
            have k5 : ¬ (s[i].toNat : Int) ≤ 239 := by have := hc.out; omega
            have k6 : (240 : Int) ≤ (s[i].toNat : Int) := by have := hc.out; omega
            have k7 : ¬ (s[i].toNat : Int) ≤ 244 := by have := hc.out; omega
            go_enter Tryd.func53, Tryd.ntmps53
            go_wp2
            go_ret
            exact ⟨rfl, rfl⟩

def agrees (z : Nat) (X : Nat × Nat) : Prop := (z = 0 ∧ (X.1 = 65533 ∧ X.2 = 1)) ∨ (¬ (X.1 = 65533 ∧ X.2 = 1) ∧ z = X.2)
theorem agrees_slow2 (n b0 b1 b2 b3 : Nat) (b : Bool) (hb : b = true ↔ (1 < n ∧ 128 ≤ b1 ∧ b1 ≤ 191)) : agrees (if b = true then 2 else 0) (Lib.slowN n b0 b1 b2 b3 2 128 191) := by
  by_cases hc : b = true
  · have hh := hb.1 hc
    rw [if_pos hc]
    unfold Lib.slowN
    rw [if_neg (by omega), if_neg (by omega), if_pos (Nat.le_refl 2)]
    exact Or.inr ⟨by simp, rfl⟩
  · have hh : ¬ _ := fun h => hc (hb.2 h)
    rw [if_neg hc]
    unfold Lib.slowN
    repeat' split
    all_goals first | exact Or.inl ⟨rfl, rfl, rfl⟩ | (exfalso; omega)
theorem agrees_slow3 (n b0 b1 b2 b3 lo hi : Nat) (b : Bool) (hb : b = true ↔ ((1 < n ∧ lo ≤ b1 ∧ b1 ≤ hi) ∧ (2 < n ∧ 128 ≤ b2 ∧ b2 ≤ 191))) : agrees (if b = true then 3 else 0) (Lib.slowN n b0 b1 b2 b3 3 lo hi) := by
  by_cases hc : b = true
  · have hh := hb.1 hc
    rw [if_pos hc]
    unfold Lib.slowN
    rw [if_neg (by omega), if_neg (by omega), if_neg (by omega), if_neg (by omega), if_pos (Nat.le_refl 3)]
    exact Or.inr ⟨by simp, rfl⟩
  · have hh : ¬ _ := fun h => hc (hb.2 h)
    rw [if_neg hc]
    unfold Lib.slowN
    repeat' split
    all_goals first | exact Or.inl ⟨rfl, rfl, rfl⟩ | (exfalso; omega)
theorem agrees_slow4 (n b0 b1 b2 b3 lo hi : Nat) (b : Bool) (hb : b = true ↔ ((1 < n ∧ lo ≤ b1 ∧ b1 ≤ hi) ∧ (2 < n ∧ 128 ≤ b2 ∧ b2 ≤ 191) ∧ (3 < n ∧ 128 ≤ b3 ∧ b3 ≤ 191))) : agrees (if b = true then 4 else 0) (Lib.slowN n b0 b1 b2 b3 4 lo hi) := by
  by_cases hc : b = true
  · have hh := hb.1 hc
    rw [if_pos hc]
    unfold Lib.slowN
    rw [if_neg (by omega), if_neg (by omega), if_neg (by omega), if_neg (by omega), if_neg (by omega), if_neg (by omega)]
    exact Or.inr ⟨by simp, rfl⟩
  · have hh : ¬ _ := fun h => hc (hb.2 h)
    rw [if_neg hc]
    unfold Lib.slowN
    repeat' split
    all_goals first | exact Or.inl ⟨rfl, rfl, rfl⟩ | (exfalso; omega)

/-- it is the decoder's -/
theorem sizeOf_agrees (s : ByteArray) (i : Nat) (h0 : i < s.size) : agrees (sizeOf s i) (Lib.decodeL (s.data.toList.drop i)) := by
  rw [Lib.decodeL_drop, Lib.decode_at]
  have n0 := (s.get! i).toNat_lt
  have n1 := (s.get! (i + 1)).toNat_lt
  have n2 := (s.get! (i + 2)).toNat_lt
  have n3 := (s.get! (i + 3)).toNat_lt
  have ht : ∀ (k lo hi : Nat), tailOf s (i + k) lo hi = true ↔ (k < s.size - i ∧ lo ≤ (s.get! (i + k)).toNat ∧ (s.get! (i + k)).toNat ≤ hi) := by
    intro k lo hi
    unfold tailOf
    rw [decide_eq_true_eq]
    omega
  unfold sizeOf threeOf fourOf
  have t1 := ht 1
  have t2 := ht 2
  have t3 := ht 3
  clear ht
  have t2' := t2 128 191
  have t3' := t3 128 191
  clear t2 t3
  generalize tailOf s (i + 2) 128 191 = b2 at *
  generalize tailOf s (i + 3) 128 191 = b3 at *
  generalize (s.get! i).toNat = c0 at *
  generalize (s.get! (i + 1)).toNat = c1 at *
  generalize (s.get! (i + 2)).toNat = c2 at *
  generalize (s.get! (i + 3)).toNat = c3 at *
  have hn : 1 ≤ s.size - i := by omega
  by_cases h1 : c0 ≤ 127
  · rw [if_pos h1]
    unfold Lib.decodeN
    rw [if_pos (by omega)]
    exact Or.inr ⟨by simp only; omega, rfl⟩
  rw [if_neg h1]
  by_cases h2 : 194 ≤ c0 ∧ c0 ≤ 223
  · rw [if_pos h2, ← Lib.slow_C2 _ _ _ _ _ hn n1 n2 n3 (by omega)]
    exact agrees_slow2 _ _ _ _ _ _ (t1 128 191)
  rw [if_neg h2]
  by_cases h3 : 224 ≤ c0 ∧ c0 ≤ 239
  · rw [if_pos h3]
    by_cases ha : c0 = 224
    · rw [if_pos ha, if_neg (show ¬ c0 = 237 by omega), ← Lib.slow_E0 _ _ _ _ _ hn n1 n2 n3 ha]
      exact agrees_slow3 _ _ _ _ _ _ _ _ (by rw [Bool.and_eq_true, t1 160 191, t2'])
    · rw [if_neg ha]
      by_cases hb : c0 = 237
      · rw [if_pos hb, ← Lib.slow_ED _ _ _ _ _ hn n1 n2 n3 hb]
        exact agrees_slow3 _ _ _ _ _ _ _ _ (by rw [Bool.and_eq_true, t1 128 159, t2'])
      · rw [if_neg hb, ← Lib.slow_E1 _ _ _ _ _ hn n1 n2 n3 (by omega)]
        exact agrees_slow3 _ _ _ _ _ _ _ _ (by rw [Bool.and_eq_true, t1 128 191, t2'])
  rw [if_neg h3]
  by_cases h4 : 240 ≤ c0 ∧ c0 ≤ 244
  · rw [if_pos h4]
    by_cases ha : c0 = 240
    · rw [if_pos ha, if_neg (show ¬ c0 = 244 by omega), ← Lib.slow_F0 _ _ _ _ _ hn n1 n2 n3 ha]
      exact agrees_slow4 _ _ _ _ _ _ _ _ (by rw [Bool.and_eq_true, Bool.and_eq_true, t1 144 191, t2', t3'])
    · rw [if_neg ha]
      by_cases hb : c0 = 244
      · rw [if_pos hb, ← Lib.slow_F4 _ _ _ _ _ hn n1 n2 n3 hb]
        exact agrees_slow4 _ _ _ _ _ _ _ _ (by rw [Bool.and_eq_true, Bool.and_eq_true, t1 128 143, t2', t3'])
      · rw [if_neg hb, ← Lib.slow_F1 _ _ _ _ _ hn n1 n2 n3 (by omega)]
        exact agrees_slow4 _ _ _ _ _ _ _ _ (by rw [Bool.and_eq_true, Bool.and_eq_true, t1 128 191, t2', t3'])
  rw [if_neg h4]
  have hd : Lib.decodeN (s.size - i) c0 c1 c2 c3 = (65533, 1) := by
    clear t1 t2' t3'
    unfold Lib.decodeN
    repeat' split
    all_goals first | rfl | (exfalso; omega)
  rw [hd]
  exact Or.inl ⟨rfl, rfl, rfl⟩
end Go.Proofs.YtkkgngmhdlmgnaaDoor.jw
