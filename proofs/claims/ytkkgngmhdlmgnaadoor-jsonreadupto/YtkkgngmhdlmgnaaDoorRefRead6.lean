import Derived.Test.YtkkgngmhdlmgnaaDoorRefRead5
namespace Go.Proofs.YtkkgngmhdlmgnaaDoor.jw
open Go.ChangeShapes Go.WideShapes Go.ChangeAt Go.RowKit Go.Proofs.YtkkgngmhdlmgnaaDoor.common
attribute [local go_sem ↓] Go.wp_at_zero Go.wp_at_succ

theorem word_u {s : ByteArray} {a : Nat} (h : a + 1 < s.size) (h1 : s[a] = 92) (h2 : s[a + 1] = 117) : Json.word [92, 117] (s.data.toList.drop a) = some (s.data.toList.drop (a + 2)) := by
  rw [word2, dif_pos h, if_pos ⟨h1, h2⟩]
theorem numbered_no {s : ByteArray} {a : Nat} (h : a + 1 < s.size) (h1 : s[a] = 92) (h2 : s[a + 1] = 117) (hu : unitAt s a = -1) : Json.numbered (s.data.toList.drop (a + 2)) = none := by
  unfold Json.numbered
  rw [unitAt_no hu (word_u h h1 h2)]
theorem numbered_one {s : ByteArray} {a m : Nat} (hu : unitAt s a = (m : Int)) (hm : m < 55296 ∨ 57344 ≤ m) : Json.numbered (s.data.toList.drop (a + 2)) = some (m, s.data.toList.drop (a + 6)) := by
  unfold Json.numbered
  rw [(unitAt_some hu).2.1]
  exact if_pos hm
theorem numbered_low {s : ByteArray} {a m : Nat} (hu : unitAt s a = (m : Int)) (h1 : 56320 ≤ m) (h2 : m < 57344) : Json.numbered (s.data.toList.drop (a + 2)) = none := by
  unfold Json.numbered
  rw [(unitAt_some hu).2.1]
  show (if m < 55296 ∨ 57344 ≤ m then _ else _) = _
  rw [if_neg (by omega)]
  split
  · rfl
  · split
    · rfl
    · rw [if_neg (by omega)]
theorem numbered_half {s : ByteArray} {a m : Nat} (hu : unitAt s a = (m : Int)) (h1 : 55296 ≤ m) (h2 : m < 57344) (hk : unitAt s (a + 6) = -1) : Json.numbered (s.data.toList.drop (a + 2)) = none := by
  unfold Json.numbered
  rw [(unitAt_some hu).2.1]
  show (if m < 55296 ∨ 57344 ≤ m then _ else _) = _
  rw [if_neg (by omega)]
  cases hw : Json.word [92, 117] (s.data.toList.drop (a + 6)) with
  | none => rfl
  | some r =>
    have hw2 := hw
    rw [word2] at hw2
    have hr : r = s.data.toList.drop (a + 6 + 2) := by
      split at hw2
      · split at hw2
        · injection hw2 with h; exact h.symm
        · cases hw2
      · cases hw2
    subst hr
    show (match Json.unit (s.data.toList.drop (a + 6 + 2)) with | none => none | some (k, r2) => _) = _
    rw [unitAt_no hk hw]
theorem numbered_two {s : ByteArray} {a m k : Nat} (hu : unitAt s a = (m : Int)) (h1 : 55296 ≤ m) (h2 : m < 57344) (hk : unitAt s (a + 6) = (k : Int)) : Json.numbered (s.data.toList.drop (a + 2)) = if m < 56320 ∧ 56320 ≤ k ∧ k < 57344 then some (65536 + (m - 55296) * 1024 + (k - 56320), s.data.toList.drop (a + 12)) else none := by
  unfold Json.numbered
  rw [(unitAt_some hu).2.1]
  show (if m < 55296 ∨ 57344 ≤ m then _ else _) = _
  rw [if_neg (by omega), (unitAt_some hk).1]
  show (match Json.unit (s.data.toList.drop (a + 6 + 2)) with | none => none | some (k, r2) => _) = _
  rw [(unitAt_some hk).2.1]

/-- a number and a place, or 0 and -1 -/
def NPl (s : ByteArray) (o : Option (Nat × List UInt8)) (x : Value) : Prop :=
  (o = none ∧ x = .tuple #[.int .i64 0, .int .i64 (-1)]) ∨ ∃ (n : Nat) (r : List UInt8) (b : Nat), o = some (n, r) ∧ b ≤ s.size ∧ x = .tuple #[.int .i64 (n : Int), .int .i64 (b : Int)] ∧ s.data.toList.drop b = r
theorem esc_u {s : ByteArray} {a : Nat} (h : a + 1 < s.size) (h2 : s[a + 1] = 117) : Json.escaped (s.data.toList.drop (a + 1)) = Json.numbered (s.data.toList.drop (a + 2)) := by
  rw [drop_cons s (a + 1) h]
  exact if_pos h2
theorem esc_s {s : ByteArray} {a : Nat} (h : a + 1 < s.size) (h2 : s[a + 1] ≠ 117) : Json.escaped (s.data.toList.drop (a + 1)) = match Json.short s[a + 1] with | none => none | some n => some (n, s.data.toList.drop (a + 2)) := by
  rw [drop_cons s (a + 1) h]
  exact if_neg h2

set_option maxRecDepth 100000 in
set_option maxHeartbeats 3200000 in
theorem refEscape_any (s : ByteArray) (a : Nat) (w : World) (hs : s.size < 9223372036854775000) (h0 : a < s.size) (h1 : s[a] = 92) (I : Int) (hI : I = (a : Int)) :
    Calls Tryd.prog 65 #[.string s, .int .i64 I] w fun x w' => (∃ v, x = .returned v ∧ NPl s (Json.escaped (s.data.toList.drop (a + 1))) v) ∧ w' = w := by
  subst hI
  by_cases hlt : a + 1 < s.size
  · have g1 : ¬ (s.size : Int) ≤ (a : Int) + 1 := by omega
    have g2 : (a : Int) + 1 < (s.size : Int) := by omega
    have g3 : ((a : Int) + 1).toNat = a + 1 := by omega
    have g4 : (0 : Int) ≤ (a : Int) + 1 := by omega
    by_cases h2 : s[a + 1] = 117
    · have HE := hide (esc_u hlt h2)
      have HW := hide (word_u hlt h1 h2)
      have p2 : (s[a + 1].toNat : Int) = 117 := by rw [h2]; rfl
      have H12 := hide (And.intro h1 h2)
      clear h1 h2
      go_enter Tryd.func65, Tryd.ntmps65
      go_wp2_with fail
      refine (refUnit_any s a w hs (by omega) _ rfl).mono ?_
      rintro x w1 ⟨rfl, hww⟩
      obtain rfl : w = w1 := hww.symm
      clear p2
      rcases unitAt_cases s a with hu | ⟨m, hu⟩
      · have HN := hide (numbered_no hlt H12.out.1 H12.out.2 hu)
        rw [hu]
        clear hu
        go_wp2
        go_ret2
        exact ⟨⟨_, rfl, Or.inl ⟨by rw [HE.out]; exact HN.out, rfl⟩⟩, rfl⟩
      · have HU := hide hu
        obtain ⟨_, _, hm, h6⟩ := unitAt_some hu
        obtain ⟨M, hM⟩ : ∃ M : Int, (m : Int) = M := ⟨_, rfl⟩
        rw [hu, hM]
        have HM := hide hM
        clear hu
        have m0 : ¬ M < 0 := by omega
        by_cases c1 : 56320 ≤ m ∧ m < 57344
        · have HN := hide (numbered_low HU.out c1.1 c1.2)
          have e1 : (56320 : Int) ≤ M := by omega
          have e2 : M ≤ 57343 := by omega
          clear c1 hM
          go_wp2
          go_ret2
          exact ⟨⟨_, rfl, Or.inl ⟨by rw [HE.out]; exact HN.out, rfl⟩⟩, rfl⟩
        · by_cases c2 : m < 55296 ∨ 57344 ≤ m
          · have HN := hide (numbered_one HU.out c2)
            rcases c2 with c2 | c2
            · have e1 : ¬ (56320 : Int) ≤ M := by omega
              have e2 : M < 55296 := by omega
              clear c1 c2 hM
              go_wp2
              go_ret2
              exact ⟨⟨_, rfl, Or.inr ⟨m, _, a + 6, by rw [HE.out]; exact HN.out, h6, by rw [HM.out]; go_num, rfl⟩⟩, rfl⟩
            · have e1 : (56320 : Int) ≤ M := by omega
              have e2 : ¬ M ≤ 57343 := by omega
              have e3 : ¬ M < 55296 := by omega
              have e4 : (56319 : Int) < M := by omega
              clear c1 c2 hM
              go_wp2
              go_ret2
              exact ⟨⟨_, rfl, Or.inr ⟨m, _, a + 6, by rw [HE.out]; exact HN.out, h6, by rw [HM.out]; go_num, rfl⟩⟩, rfl⟩
          · have e1 : ¬ (56320 : Int) ≤ M := by omega
            have e3 : ¬ M < 55296 := by omega
            have e4 : ¬ (56319 : Int) < M := by omega
            have hm1 : 55296 ≤ m := by omega
            have hm2 : m < 57344 := by omega
            have hm3 : m < 56320 := by omega
            clear c1 c2 hM
            go_wp2_with fail
            refine (refUnit_any s (a + 6) w hs (by omega) _ (by omega)).mono ?_
            rintro x w1 ⟨rfl, hww⟩
            obtain rfl : w = w1 := hww.symm
            rcases unitAt_cases s (a + 6) with hk | ⟨k, hk⟩
            · have HN := hide (numbered_half HU.out hm1 hm2 hk)
              rw [hk]
              clear hk
              go_wp2
              go_ret2
              exact ⟨⟨_, rfl, Or.inl ⟨by rw [HE.out]; exact HN.out, rfl⟩⟩, rfl⟩
            · have HN := hide (numbered_two HU.out hm1 hm2 hk)
              obtain ⟨_, _, hkm, h12⟩ := unitAt_some hk
              obtain ⟨K, hKK⟩ : ∃ K : Int, (k : Int) = K := ⟨_, rfl⟩
              rw [hk, hKK]
              have HKK := hide hKK
              clear hk
              by_cases c3 : 56320 ≤ k ∧ k < 57344
              · have f1 : ¬ K < 56320 := by omega
                have f2 : ¬ (57343 : Int) < K := by omega
                have HN2 : Hid (Json.numbered (s.data.toList.drop (a + 2)) = some (65536 + (m - 55296) * 1024 + (k - 56320), s.data.toList.drop (a + 12))) := by
                  show _ = _; rw [HN.out, if_pos ⟨hm3, c3⟩]
                have HC3 := hide c3
                clear c3 hKK
                go_wp2
                go_ret2
                exact ⟨⟨_, rfl, Or.inr ⟨_, _, a + 12, by rw [HE.out]; exact HN2.out, by omega, by have := HC3.out; have := HM.out; have := HKK.out; go_num, rfl⟩⟩, rfl⟩
              · have HN2 : Hid (Json.numbered (s.data.toList.drop (a + 2)) = none) := by
                  show _ = _; rw [HN.out, if_neg (by omega)]
                by_cases c4 : 56320 ≤ k
                · have f1 : ¬ K < 56320 := by omega
                  have f2 : (57343 : Int) < K := by omega
                  clear c3 c4 hKK
                  go_wp2
                  go_ret2
                  exact ⟨⟨_, rfl, Or.inl ⟨by rw [HE.out]; exact HN2.out, rfl⟩⟩, rfl⟩
                · have f1 : K < 56320 := by omega
                  clear c3 c4 hKK
                  go_wp2
                  go_ret2
                  exact ⟨⟨_, rfl, Or.inl ⟨by rw [HE.out]; exact HN2.out, rfl⟩⟩, rfl⟩
    · have HE := hide (esc_s hlt h2)
      have p2 : ((s[a + 1].toNat : Int) == 117) = false := beq_false_of_ne (fun e => h2 (UInt8.toNat_inj.1 (by show _ = 117; omega)))
      clear h1 h2
      go_enter Tryd.func65, Tryd.ntmps65
      go_wp2_with fail
      refine (refShort_any s[a + 1] w).mono ?_
      rintro x w1 ⟨rfl, hww⟩
      obtain rfl : w = w1 := hww.symm
      cases hsh : Json.short s[a + 1] with
      | none =>
        have HN : Hid (Json.escaped (s.data.toList.drop (a + 1)) = none) := by show _ = _; rw [HE.out, hsh]
        have hod : orNo none = -1 := rfl
        rw [hod]
        clear hod hsh
        go_wp2
        go_ret2
        exact ⟨⟨_, rfl, Or.inl ⟨HN.out, rfl⟩⟩, rfl⟩
      | some n =>
        have HN : Hid (Json.escaped (s.data.toList.drop (a + 1)) = some (n, s.data.toList.drop (a + 2))) := by show _ = _; rw [HE.out, hsh]
        have hod : orNo (some n) = (n : Int) := rfl
        rw [hod]
        have n0 : ¬ (n : Int) < 0 := by omega
        clear hod hsh
        go_wp2
        go_ret2
        exact ⟨⟨_, rfl, Or.inr ⟨n, _, a + 2, HN.out, by omega, by go_num, rfl⟩⟩, rfl⟩
  · have g1 : (s.size : Int) ≤ (a : Int) + 1 := by omega
    have HN : Hid (Json.escaped (s.data.toList.drop (a + 1)) = none) := by show _ = _; rw [drop_end s (a + 1) hlt]; rfl
    clear h1
    go_enter Tryd.func65, Tryd.ntmps65
    go_wp2
    go_ret2
    exact ⟨⟨_, rfl, Or.inl ⟨HN.out, rfl⟩⟩, rfl⟩
end Go.Proofs.YtkkgngmhdlmgnaaDoor.jw
