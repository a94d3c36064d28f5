import Derived.Test.YtkkgngmhdlmgnaaDoorSpellKit
namespace Go.Proofs.YtkkgngmhdlmgnaaDoor.jw
open Go.ChangeShapes Go.WideShapes Go.ChangeAt Go.RowKit Go.Proofs.YtkkgngmhdlmgnaaDoor.common
attribute [local go_sem ↓] Go.wp_at_zero Go.wp_at_succ

/-- a character as units -/
def units (n g : Nat) : List UInt8 := if n < 65536 then 92 :: 117 :: four n g else (92 :: 117 :: four (55296 + (n - 65536) / 1024) g) ++ (92 :: 117 :: four (56320 + (n - 65536) % 1024) (1 - g))
theorem units_len (n g : Nat) : (units n g).length ≤ 12 := by unfold units; split <;> simp [four]
theorem units_spelt (n g : Nat) (hn : Json.okRune n) (hg : g < 2) : Json.SpeltChar n (units n g) := by
  unfold units
  by_cases h : n < 65536
  · rw [if_pos h]
    exact Json.spelt_unit (four n g) n (by unfold Json.okRune at hn; omega) h (four_unit n g h hg)
  · rw [if_neg h]
    have hk : n ≤ 1114111 := by unfold Json.okRune at hn; omega
    have e := Json.spelt_units (four (55296 + (n - 65536) / 1024) g) (four (56320 + (n - 65536) % 1024) (1 - g)) (55296 + (n - 65536) / 1024) (56320 + (n - 65536) % 1024) (by omega) (by omega) (four_unit _ _ (by omega) hg) (four_unit _ _ (by omega) (by omega))
    have e2 : 65536 + (55296 + (n - 65536) / 1024 - 55296) * 1024 + (56320 + (n - 65536) % 1024 - 56320) = n := by omega
    rw [e2] at e
    exact e

set_option maxRecDepth 100000 in
set_option maxHeartbeats 1600000 in
theorem lspelt_any (n g : Nat) (w : World) (hn : n ≤ 1114111) (hg : g < 2) (I J : Int) (hI : I = (n : Int)) (hJ : J = (g : Int)) :
    Calls Tryd.prog 32 #[.int .i64 I, .int .i64 J] w fun x w' => x = .returned (S (units n g)) ∧ Below w.heap.size w w' := by
  have i0 : (0 : Int) ≤ I := by omega
  have i1 : I ≤ 1114111 := by omega
  have j0 : (0 : Int) ≤ J := by omega
  have j1 : J ≤ 1 := by omega
  have HI := hide hI
  have HJ := hide hJ
  by_cases h : n < 65536
  · have hU : units n g = 92 :: 117 :: four n g := if_pos h
    rw [hU]
    have h1 : I < 65536 := by omega
    clear hI hJ hU
    go_enter Tryd.func32, Tryd.ntmps32
    go_wp2_with fail
    refine (four_any n g w h hg I J HI.out HJ.out).mono ?_
    rintro x w1 ⟨rfl, hb⟩
    have H1 := hide hb
    clear hb
    go_wp2
    go_ret
    exact ⟨rfl, H1.out⟩
  · have hU : units n g = (92 :: 117 :: four (55296 + (n - 65536) / 1024) g) ++ (92 :: 117 :: four (56320 + (n - 65536) % 1024) (1 - g)) := if_neg h
    rw [hU]
    have h1 : ¬ I < 65536 := by omega
    have HA := hide (fun (W : World) => four_any (55296 + (n - 65536) / 1024) g W (by omega) hg (55296 + (I - 65536) / 1024) J (by omega) hJ)
    have HC := hide (fun (W : World) => four_any (56320 + (n - 65536) % 1024) (1 - g) W (by omega) (by omega) (56320 + (I - 65536) % 1024) (1 - J) (by omega) (by omega))
    have HL1 : Hid ((92 :: 117 :: four (55296 + (n - 65536) / 1024) g).length = 6) := rfl
    have HL2 : Hid ((92 :: 117 :: four (56320 + (n - 65536) % 1024) (1 - g)).length = 6) := rfl
    generalize (92 :: 117 :: four (55296 + (n - 65536) / 1024) g) = X at *
    generalize (92 :: 117 :: four (56320 + (n - 65536) % 1024) (1 - g)) = Y at *
    clear hI hJ hU
    go_enter Tryd.func32, Tryd.ntmps32
    go_wp2_with fail
    refine (HA.out w).mono ?_
    rintro x w1 ⟨rfl, hb⟩
    have H1 := hide hb
    clear hb
    go_wp2_with fail
    refine (HC.out w1).mono ?_
    rintro x w2 ⟨rfl, hb⟩
    have H2 := hide (H1.out.trans (hb.mono H1.out.size))
    clear hb
    obtain ⟨P, hP⟩ : ∃ P : ByteArray, (⟨X.toArray⟩ : ByteArray) = P := ⟨_, rfl⟩
    obtain ⟨Q, hQ⟩ : ∃ Q : ByteArray, (⟨Y.toArray⟩ : ByteArray) = Q := ⟨_, rfl⟩
    have hPs : P.size = 6 := by rw [← hP, str_size]; exact HL1.out
    have hQs : Q.size = 6 := by rw [← hQ, str_size]; exact HL2.out
    have HR : Hid (S (X ++ Y) = .string (P ++ Q)) := by
      show Value.string _ = _
      congr 1
      apply ba_ext
      rw [ByteArray.toList_data_append, ← hP, ← hQ]
    unfold S
    rw [hP, hQ]
    clear hP hQ
    have hsz : ¬ (9223372036854775807 < P.size + Q.size) := by omega
    have HPs := hide hPs
    have HQs := hide hQs
    clear hPs hQs
    go_wp2
    go_ret
    exact ⟨by rw [HR.out]; rfl, H2.out⟩

/-- the bytes of a character, one by one -/
theorem enc_bytes (s : ByteArray) (i d : Nat) (r : List UInt8) (hd : Json.okRune d) (h : s.data.toList.drop i = Lib.encodeRune (d : Int) ++ r) :
    (d < 128 ∧ (Lib.encodeRune (d : Int)).length = 1 ∧ ∃ h0 : i < s.size, s[i].toNat = d) ∨
    (128 ≤ d ∧ d < 2048 ∧ (Lib.encodeRune (d : Int)).length = 2 ∧ ∃ h1 : i + 1 < s.size, s[i].toNat = 192 + d / 64 ∧ s[i + 1].toNat = 128 + d % 64) ∨
    (2048 ≤ d ∧ d < 65536 ∧ (Lib.encodeRune (d : Int)).length = 3 ∧ ∃ h1 : i + 2 < s.size, s[i].toNat = 224 + d / 4096 ∧ s[i + 1].toNat = 128 + d / 64 % 64 ∧ s[i + 2].toNat = 128 + d % 64) ∨
    (65536 ≤ d ∧ d ≤ 1114111 ∧ (Lib.encodeRune (d : Int)).length = 4 ∧ ∃ h1 : i + 3 < s.size, s[i].toNat = 240 + d / 262144 ∧ s[i + 1].toNat = 128 + d / 4096 % 64 ∧ s[i + 2].toNat = 128 + d / 64 % 64 ∧ s[i + 3].toNat = 128 + d % 64) := by
  have hsz : s.size - i = (Lib.encodeRune (d : Int)).length + r.length := by
    have := congrArg List.length h
    rw [List.length_drop, len_list, List.length_append] at this
    exact this
  have key : ∀ (j : Nat) (hj : i + j < s.size) (u : UInt8), (Lib.encodeRune (d : Int))[j]? = some u → s[i + j] = u := fun j hj u hu => by
    have h1 : (s.data.toList.drop i)[j]? = some u := by rw [h]; exact (List.getElem?_append_left (List.getElem?_eq_some_iff.1 hu).1).trans hu
    rw [List.getElem?_drop, List.getElem?_eq_getElem (by rw [len_list]; exact hj)] at h1
    exact Option.some.inj h1
  have key0 : ∀ (hj : i < s.size) (u : UInt8), (Lib.encodeRune (d : Int))[0]? = some u → s[i] = u := fun hj u hu => key 0 hj u hu
  unfold Json.okRune at hd
  by_cases c1 : d < 128
  · left
    have e : Lib.encodeRune (d : Int) = [((d : Int)).toNat.toUInt8] := by unfold Lib.encodeRune; rw [Lib.encodeRuneZ_one (by omega) (by omega)]; rfl
    rw [e] at hsz key key0 ⊢
    simp at hsz
    have h0 : i < s.size := by omega
    exact ⟨c1, rfl, h0, by rw [key0 h0 _ rfl]; exact Json.toU8 (by omega) (by omega)⟩
  by_cases c2 : d < 2048
  · right; left
    have e : Lib.encodeRune (d : Int) = [(192 + (d : Int) / 64).toNat.toUInt8, (128 + (d : Int) % 64).toNat.toUInt8] := by unfold Lib.encodeRune; rw [Lib.encodeRuneZ_two (by omega) (by omega)]; rfl
    rw [e] at hsz key key0 ⊢
    simp at hsz
    have h1 : i + 1 < s.size := by omega
    exact ⟨by omega, c2, rfl, h1, by rw [key0 (by omega) _ rfl]; exact Json.toU8 (by omega) (by omega), by rw [key 1 h1 _ rfl]; exact Json.toU8 (by omega) (by omega)⟩
  by_cases c3 : d < 65536
  · right; right; left
    have e : Lib.encodeRune (d : Int) = [(224 + (d : Int) / 4096).toNat.toUInt8, (128 + (d : Int) / 64 % 64).toNat.toUInt8, (128 + (d : Int) % 64).toNat.toUInt8] := by unfold Lib.encodeRune; rw [Lib.encodeRuneZ_three (by omega)]; rfl
    rw [e] at hsz key key0 ⊢
    simp at hsz
    have h1 : i + 2 < s.size := by omega
    exact ⟨by omega, c3, rfl, h1, by rw [key0 (by omega) _ rfl]; exact Json.toU8 (by omega) (by omega), by rw [key 1 (by omega) _ rfl]; exact Json.toU8 (by omega) (by omega), by rw [key 2 h1 _ rfl]; exact Json.toU8 (by omega) (by omega)⟩
  · right; right; right
    have e : Lib.encodeRune (d : Int) = [(240 + (d : Int) / 262144).toNat.toUInt8, (128 + (d : Int) / 4096 % 64).toNat.toUInt8, (128 + (d : Int) / 64 % 64).toNat.toUInt8, (128 + (d : Int) % 64).toNat.toUInt8] := by unfold Lib.encodeRune; rw [Lib.encodeRuneZ_four (by omega) (by omega)]; rfl
    rw [e] at hsz key key0 ⊢
    simp at hsz
    have h1 : i + 3 < s.size := by omega
    exact ⟨by omega, by omega, rfl, h1, by rw [key0 (by omega) _ rfl]; exact Json.toU8 (by omega) (by omega), by rw [key 1 (by omega) _ rfl]; exact Json.toU8 (by omega) (by omega), by rw [key 2 (by omega) _ rfl]; exact Json.toU8 (by omega) (by omega), by rw [key 3 h1 _ rfl]; exact Json.toU8 (by omega) (by omega)⟩

set_option maxRecDepth 100000 in
set_option maxHeartbeats 3200000 in
theorem lnumber_any (s : ByteArray) (i d : Nat) (r : List UInt8) (w : World) (hs : s.size < 9223372036854775000) (hd : Json.okRune d) (h : s.data.toList.drop i = Lib.encodeRune (d : Int) ++ r) (I J : Int) (hI : I = (i : Int)) (hJ : J = ((Lib.encodeRune (d : Int)).length : Int)) :
    Calls Tryd.prog 33 #[.string s, .int .i64 I, .int .i64 J] w fun x w' => x = .returned (.int .i64 (d : Int)) ∧ Below w.heap.size w w' := by
  subst hI
  have i0 : (0 : Int) ≤ (i : Int) := by omega
  rcases enc_bytes s i d r hd h with ⟨c0, hl, h0, b0⟩ | ⟨c0, c1, hl, h1, b0, b1⟩ | ⟨c0, c1, hl, h1, b0, b1, b2⟩ | ⟨c0, c1, hl, h1, b0, b1, b2, b3⟩
  · rw [hl] at hJ
    obtain rfl : J = 1 := by omega
    have g0 : (i : Int) < (s.size : Int) := by omega
    obtain ⟨A, hA⟩ : ∃ A : Int, (s[i].toNat : Int) = A := ⟨_, rfl⟩
    have lA : (0 : Int) ≤ A ∧ A ≤ 255 := by omega
    have HV : Hid (A = (d : Int)) := by show _ = _; omega
    clear h hl hd hJ b0
    go_enter Tryd.func33, Tryd.ntmps33
    go_wp2
    go_ret
    exact ⟨by rw [← HV.out]; rfl, Below.refl _ _⟩
  · rw [hl] at hJ
    obtain rfl : J = 2 := by omega
    have g0 : (i : Int) < (s.size : Int) := by omega
    have g1 : (i : Int) + 1 < (s.size : Int) := by omega
    have t1 : ((i : Int) + 1).toNat = i + 1 := by omega
    have v1 : IntKind.i64.wrap ((i : Int) + 1) = (i : Int) + 1 := wrap_id _ (by omega) (by omega)
    have z1 : (0 : Int) ≤ (i : Int) + 1 := by omega
    obtain ⟨A, hA⟩ : ∃ A : Int, (s[i].toNat : Int) = A := ⟨_, rfl⟩
    have lA : (0 : Int) ≤ A ∧ A ≤ 255 := by omega
    obtain ⟨B, hB⟩ : ∃ A : Int, (s[i + 1].toNat : Int) = A := ⟨_, rfl⟩
    have lB : (0 : Int) ≤ B ∧ B ≤ 255 := by omega
    have HV : Hid ((A - 192) * 64 + B - 128 = (d : Int)) := by show _ = _; omega
    have w10 : IntKind.i64.wrap (A - 192) = A - 192 := wrap_id _ (by omega) (by omega)
    have w11 : IntKind.i64.wrap ((A - 192) * 64) = (A - 192) * 64 := wrap_id _ (by omega) (by omega)
    have w12 : IntKind.i64.wrap ((A - 192) * 64 + B) = (A - 192) * 64 + B := wrap_id _ (by omega) (by omega)
    have w13 : IntKind.i64.wrap ((A - 192) * 64 + B - 128) = (A - 192) * 64 + B - 128 := wrap_id _ (by omega) (by omega)
    clear h hl hd hJ b0 b1
    go_enter Tryd.func33, Tryd.ntmps33
    go_wp2_with fail
    go_quiet (fail)
    go_wp2_with fail
    go_ret
    exact ⟨by rw [← HV.out]; rfl, below_drewN _ _⟩
  · rw [hl] at hJ
    obtain rfl : J = 3 := by omega
    have g0 : (i : Int) < (s.size : Int) := by omega
    have g1 : (i : Int) + 1 < (s.size : Int) := by omega
    have t1 : ((i : Int) + 1).toNat = i + 1 := by omega
    have v1 : IntKind.i64.wrap ((i : Int) + 1) = (i : Int) + 1 := wrap_id _ (by omega) (by omega)
    have z1 : (0 : Int) ≤ (i : Int) + 1 := by omega
    have g2 : (i : Int) + 2 < (s.size : Int) := by omega
    have t2 : ((i : Int) + 2).toNat = i + 2 := by omega
    have v2 : IntKind.i64.wrap ((i : Int) + 2) = (i : Int) + 2 := wrap_id _ (by omega) (by omega)
    have z2 : (0 : Int) ≤ (i : Int) + 2 := by omega
    obtain ⟨A, hA⟩ : ∃ A : Int, (s[i].toNat : Int) = A := ⟨_, rfl⟩
    have lA : (0 : Int) ≤ A ∧ A ≤ 255 := by omega
    obtain ⟨B, hB⟩ : ∃ A : Int, (s[i + 1].toNat : Int) = A := ⟨_, rfl⟩
    have lB : (0 : Int) ≤ B ∧ B ≤ 255 := by omega
    obtain ⟨C, hC⟩ : ∃ A : Int, (s[i + 2].toNat : Int) = A := ⟨_, rfl⟩
    have lC : (0 : Int) ≤ C ∧ C ≤ 255 := by omega
    have HV : Hid ((A - 224) * 4096 + (B - 128) * 64 + C - 128 = (d : Int)) := by show _ = _; omega
    have w10 : IntKind.i64.wrap (A - 224) = A - 224 := wrap_id _ (by omega) (by omega)
    have w11 : IntKind.i64.wrap ((A - 224) * 4096) = (A - 224) * 4096 := wrap_id _ (by omega) (by omega)
    have w12 : IntKind.i64.wrap (B - 128) = B - 128 := wrap_id _ (by omega) (by omega)
    have w13 : IntKind.i64.wrap ((B - 128) * 64) = (B - 128) * 64 := wrap_id _ (by omega) (by omega)
    have w14 : IntKind.i64.wrap ((A - 224) * 4096 + (B - 128) * 64) = (A - 224) * 4096 + (B - 128) * 64 := wrap_id _ (by omega) (by omega)
    have w15 : IntKind.i64.wrap ((A - 224) * 4096 + (B - 128) * 64 + C) = (A - 224) * 4096 + (B - 128) * 64 + C := wrap_id _ (by omega) (by omega)
    have w16 : IntKind.i64.wrap ((A - 224) * 4096 + (B - 128) * 64 + C - 128) = (A - 224) * 4096 + (B - 128) * 64 + C - 128 := wrap_id _ (by omega) (by omega)
    clear h hl hd hJ b0 b1 b2
    go_enter Tryd.func33, Tryd.ntmps33
    go_wp2_with fail
    go_quiet (fail)
    go_wp2_with fail
    go_ret
    exact ⟨by rw [← HV.out]; rfl, below_drewN _ _⟩
  · rw [hl] at hJ
    obtain rfl : J = 4 := by omega
    have g0 : (i : Int) < (s.size : Int) := by omega
    have g1 : (i : Int) + 1 < (s.size : Int) := by omega
    have t1 : ((i : Int) + 1).toNat = i + 1 := by omega
    have v1 : IntKind.i64.wrap ((i : Int) + 1) = (i : Int) + 1 := wrap_id _ (by omega) (by omega)
    have z1 : (0 : Int) ≤ (i : Int) + 1 := by omega
    have g2 : (i : Int) + 2 < (s.size : Int) := by omega
    have t2 : ((i : Int) + 2).toNat = i + 2 := by omega
    have v2 : IntKind.i64.wrap ((i : Int) + 2) = (i : Int) + 2 := wrap_id _ (by omega) (by omega)
    have z2 : (0 : Int) ≤ (i : Int) + 2 := by omega
    have g3 : (i : Int) + 3 < (s.size : Int) := by omega
    have t3 : ((i : Int) + 3).toNat = i + 3 := by omega
    have v3 : IntKind.i64.wrap ((i : Int) + 3) = (i : Int) + 3 := wrap_id _ (by omega) (by omega)
    have z3 : (0 : Int) ≤ (i : Int) + 3 := by omega
    obtain ⟨A, hA⟩ : ∃ A : Int, (s[i].toNat : Int) = A := ⟨_, rfl⟩
    have lA : (0 : Int) ≤ A ∧ A ≤ 255 := by omega
    obtain ⟨B, hB⟩ : ∃ A : Int, (s[i + 1].toNat : Int) = A := ⟨_, rfl⟩
    have lB : (0 : Int) ≤ B ∧ B ≤ 255 := by omega
    obtain ⟨C, hC⟩ : ∃ A : Int, (s[i + 2].toNat : Int) = A := ⟨_, rfl⟩
    have lC : (0 : Int) ≤ C ∧ C ≤ 255 := by omega
    obtain ⟨E, hE⟩ : ∃ A : Int, (s[i + 3].toNat : Int) = A := ⟨_, rfl⟩
    have lE : (0 : Int) ≤ E ∧ E ≤ 255 := by omega
    have HV : Hid ((A - 240) * 262144 + (B - 128) * 4096 + (C - 128) * 64 + E - 128 = (d : Int)) := by show _ = _; omega
    have w10 : IntKind.i64.wrap (A - 240) = A - 240 := wrap_id _ (by omega) (by omega)
    have w11 : IntKind.i64.wrap ((A - 240) * 262144) = (A - 240) * 262144 := wrap_id _ (by omega) (by omega)
    have w12 : IntKind.i64.wrap (B - 128) = B - 128 := wrap_id _ (by omega) (by omega)
    have w13 : IntKind.i64.wrap ((B - 128) * 4096) = (B - 128) * 4096 := wrap_id _ (by omega) (by omega)
    have w14 : IntKind.i64.wrap (C - 128) = C - 128 := wrap_id _ (by omega) (by omega)
    have w15 : IntKind.i64.wrap ((C - 128) * 64) = (C - 128) * 64 := wrap_id _ (by omega) (by omega)
    have w16 : IntKind.i64.wrap ((A - 240) * 262144 + (B - 128) * 4096) = (A - 240) * 262144 + (B - 128) * 4096 := wrap_id _ (by omega) (by omega)
    have w17 : IntKind.i64.wrap ((A - 240) * 262144 + (B - 128) * 4096 + (C - 128) * 64) = (A - 240) * 262144 + (B - 128) * 4096 + (C - 128) * 64 := wrap_id _ (by omega) (by omega)
    have w18 : IntKind.i64.wrap ((A - 240) * 262144 + (B - 128) * 4096 + (C - 128) * 64 + E) = (A - 240) * 262144 + (B - 128) * 4096 + (C - 128) * 64 + E := wrap_id _ (by omega) (by omega)
    have w19 : IntKind.i64.wrap ((A - 240) * 262144 + (B - 128) * 4096 + (C - 128) * 64 + E - 128) = (A - 240) * 262144 + (B - 128) * 4096 + (C - 128) * 64 + E - 128 := wrap_id _ (by omega) (by omega)
    clear h hl hd hJ b0 b1 b2 b3
    go_enter Tryd.func33, Tryd.ntmps33
    go_wp2_with fail
    go_quiet (fail)
    go_wp2_with fail
    go_ret
    exact ⟨by rw [← HV.out]; rfl, below_drewN _ _⟩

set_option maxRecDepth 100000 in
set_option maxHeartbeats 3200000 in
theorem long_any (s : ByteArray) (i d : Nat) (r : List UInt8) (w : World) (hs : s.size < 9223372036854775000) (hd : Json.okRune d) (h : s.data.toList.drop i = Lib.encodeRune (d : Int) ++ r) (I : Int) (hI : I = (i : Int)) :
    Calls Tryd.prog 30 #[.string s, .int .i64 I] w fun x w' => x = .returned (.int .i64 ((Lib.encodeRune (d : Int)).length : Int)) ∧ w' = w := by
  subst hI
  have i0 : (0 : Int) ≤ (i : Int) := by omega
  unfold Json.okRune at hd
  rcases enc_bytes s i d r hd h with ⟨c0, hl, h0, b0⟩ | ⟨c0, c1, hl, h1, b0, b1⟩ | ⟨c0, c1, hl, h1, b0, b1, b2⟩ | ⟨c0, c1, hl, h1, b0, b1, b2, b3⟩
  · rw [hl]
    have g0 : (i : Int) < (s.size : Int) := by omega
    have g1 : ¬ (s.size : Int) < (i : Int) + 1 := by omega
    have k1 : ¬ (240 : Int) ≤ (s[i].toNat : Int) := by omega
    have k2 : ¬ (224 : Int) ≤ (s[i].toNat : Int) := by omega
    have k3 : ¬ (192 : Int) ≤ (s[i].toNat : Int) := by omega
    clear h hl hd b0
    go_enter Tryd.func30, Tryd.ntmps30
    go_wp2
    go_ret
    exact ⟨rfl, rfl⟩
  · rw [hl]
    have g0 : (i : Int) < (s.size : Int) := by omega
    have g1 : ¬ (s.size : Int) < (i : Int) + 2 := by omega
    have k1 : ¬ (240 : Int) ≤ (s[i].toNat : Int) := by omega
    have k2 : ¬ (224 : Int) ≤ (s[i].toNat : Int) := by omega
    have k3 : (192 : Int) ≤ (s[i].toNat : Int) := by omega
    clear h hl hd b0 b1
    go_enter Tryd.func30, Tryd.ntmps30
    go_wp2
    go_ret
    exact ⟨rfl, rfl⟩
  · rw [hl]
    have g0 : (i : Int) < (s.size : Int) := by omega
    have g1 : ¬ (s.size : Int) < (i : Int) + 3 := by omega
    have k1 : ¬ (240 : Int) ≤ (s[i].toNat : Int) := by omega
    have k2 : (224 : Int) ≤ (s[i].toNat : Int) := by omega
    clear h hl hd b0 b1 b2
    go_enter Tryd.func30, Tryd.ntmps30
    go_wp2
    go_ret
    exact ⟨rfl, rfl⟩
  · rw [hl]
    have g0 : (i : Int) < (s.size : Int) := by omega
    have g1 : ¬ (s.size : Int) < (i : Int) + 4 := by omega
    have k1 : (240 : Int) ≤ (s[i].toNat : Int) := by omega
    clear h hl hd b0 b1 b2 b3
    go_enter Tryd.func30, Tryd.ntmps30
    go_wp2
    go_ret
    exact ⟨rfl, rfl⟩

set_option maxRecDepth 100000 in
set_option maxHeartbeats 1600000 in
theorem inShort_any (c : UInt8) (w : World) :
    Calls Tryd.prog 31 #[.int .u8 (c.toNat : Int)] w fun x w' => (∃ m : UInt8, x = .returned (.int .u8 (m.toNat : Int)) ∧ (m ≠ 0 → Json.short m = some c.toNat ∧ m ≠ 117)) ∧ w' = w := by
  have hne : ∀ k : UInt8, c ≠ k → ((c.toNat : Int) == (k.toNat : Int)) = false := fun k h => beq_false_of_ne (fun e => h (UInt8.toNat_inj.1 (by omega)))
  by_cases n34 : c = 34
  · subst n34
    go_enter Tryd.func31, Tryd.ntmps31
    go_wp2
    go_ret
    exact ⟨⟨34, rfl, fun _ => ⟨rfl, by decide⟩⟩, rfl⟩
  by_cases n92 : c = 92
  · subst n92
    go_enter Tryd.func31, Tryd.ntmps31
    go_wp2
    go_ret
    exact ⟨⟨92, rfl, fun _ => ⟨rfl, by decide⟩⟩, rfl⟩
  by_cases n47 : c = 47
  · subst n47
    go_enter Tryd.func31, Tryd.ntmps31
    go_wp2
    go_ret
    exact ⟨⟨47, rfl, fun _ => ⟨rfl, by decide⟩⟩, rfl⟩
  by_cases n8 : c = 8
  · subst n8
    go_enter Tryd.func31, Tryd.ntmps31
    go_wp2
    go_ret
    exact ⟨⟨98, rfl, fun _ => ⟨rfl, by decide⟩⟩, rfl⟩
  by_cases n12 : c = 12
  · subst n12
    go_enter Tryd.func31, Tryd.ntmps31
    go_wp2
    go_ret
    exact ⟨⟨102, rfl, fun _ => ⟨rfl, by decide⟩⟩, rfl⟩
  by_cases n10 : c = 10
  · subst n10
    go_enter Tryd.func31, Tryd.ntmps31
    go_wp2
    go_ret
    exact ⟨⟨110, rfl, fun _ => ⟨rfl, by decide⟩⟩, rfl⟩
  by_cases n13 : c = 13
  · subst n13
    go_enter Tryd.func31, Tryd.ntmps31
    go_wp2
    go_ret
    exact ⟨⟨114, rfl, fun _ => ⟨rfl, by decide⟩⟩, rfl⟩
  by_cases n9 : c = 9
  · subst n9
    go_enter Tryd.func31, Tryd.ntmps31
    go_wp2
    go_ret
    exact ⟨⟨116, rfl, fun _ => ⟨rfl, by decide⟩⟩, rfl⟩
  have q34 : ((c.toNat : Int) == 34) = false := hne 34 n34
  have q92 : ((c.toNat : Int) == 92) = false := hne 92 n92
  have q47 : ((c.toNat : Int) == 47) = false := hne 47 n47
  have q8 : ((c.toNat : Int) == 8) = false := hne 8 n8
  have q12 : ((c.toNat : Int) == 12) = false := hne 12 n12
  have q10 : ((c.toNat : Int) == 10) = false := hne 10 n10
  have q13 : ((c.toNat : Int) == 13) = false := hne 13 n13
  have q9 : ((c.toNat : Int) == 9) = false := hne 9 n9
  clear hne n34 n92 n47 n8 n12 n10 n13 n9
  go_enter Tryd.func31, Tryd.ntmps31
  go_wp2
  go_ret
  exact ⟨⟨0, rfl, fun h => absurd rfl h⟩, rfl⟩
end Go.Proofs.YtkkgngmhdlmgnaaDoor.jw
