import Derived.Test.YtkkgngmhdlmgnaaDoorReadWalk1
namespace Go.Proofs.YtkkgngmhdlmgnaaDoor.jw
open Go.ChangeShapes Go.WideShapes Go.ChangeAt Go.RowKit Go.Proofs.YtkkgngmhdlmgnaaDoor.common
attribute [local go_sem ↓] Go.wp_at_zero Go.wp_at_succ

theorem hasPrefix_any (s p : ByteArray) (w : World) : Calls Tryd.prog 80 #[.string s, .string p] w fun e w' => e = .returned (.bool (Lib.hasPrefix s.data.toList p.data.toList)) ∧ w' = w := Any.strings_HasPrefix jl.lays99 s p w

theorem extract_list (s : ByteArray) (a : Nat) : (s.extract a s.size).data.toList = s.data.toList.drop a := by
  rw [ByteArray.data_extract, Array.toList_extract]
  show List.extract _ _ _ = _
  rw [List.extract_eq_take_drop]
  exact List.take_of_length_le (by rw [List.length_drop, len_list]; exact Nat.le_refl _)

/-- a word that stands there is taken -/
theorem word_at {s p : ByteArray} {a : Nat} {r : List UInt8} (ha : a ≤ s.size) (h : Json.word p.data.toList (s.data.toList.drop a) = some r) : a + p.size ≤ s.size ∧ s.data.toList.drop (a + p.size) = r := by
  obtain ⟨h1, h2⟩ := Json.word_le h
  rw [List.length_drop, len_list, len_list] at h1
  refine ⟨by omega, ?_⟩
  rw [← List.drop_drop, h2, ← len_list p, List.drop_left]

set_option maxRecDepth 100000 in
set_option maxHeartbeats 800000 in
theorem word_some (rb : Nat) (s p : ByteArray) (a : Nat) (mv : Value) (n : Nat) (w : World) (ha : a ≤ s.size) (hs : s.size < 9223372036854775800) (hr : Rd w rb s a mv n) (hw : Json.word p.data.toList (s.data.toList.drop a) ≠ none) :
    Calls Tryd.prog 61 #[ptr rb, .string p] w fun e w' => Ok rb s mv n w (a + p.size) (.tuple #[]) e w' := by
  have HR := hide hr
  have c0 := hr.c0
  have c1 := hr.c1
  have f1 := hr.nf 1
  clear hr
  have hle : a + p.size ≤ s.size := by
    cases hx : Json.word p.data.toList (s.data.toList.drop a) with
    | none => exact absurd hx hw
    | some r => exact (word_at ha hx).1
  have hpf : Lib.hasPrefix (s.extract a s.size).data.toList p.data.toList = true := by
    rw [extract_list]
    unfold Json.word at hw
    split at hw
    · assumption
    · exact absurd rfl hw
  have HC := hide (fun W => hasPrefix_any (s.extract a s.size) p W)
  rw [hpf] at HC
  have k0 : (0 : Int) ≤ (a : Int) := by omega
  have kn : (a : Int).toNat = a := by omega
  have k1 : (a : Int) ≤ (s.size : Int) := by omega
  have k2 : (a : Int) + (p.size : Int) < 9223372036854775800 := by omega
  clear hpf hw
  go_enter Tryd.func61, Tryd.ntmps61
  go_wp2_with fail
  go_region_held3 (fun W => W.cell? ⟨rb, 0, none⟩ = some (.string s) ∧ W.cell? ⟨rb, 1, none⟩ = some (.int .i64 a) ∧ W.frozen? ⟨rb, 1, none⟩ = false) (go_keep)
    ((go_at_call 80; refine (HC.out _).mono ?_; rintro x w2 ⟨rfl, rfl⟩))
  all_goals
    go_wp2
    first | go_end0 | refine bodyPost_ret (results_none rfl _ _ _) rfl ?_
    exact ⟨rfl, (Kp.refl _ _).drew.trans (Kp.set _ _ _ _), HR.out.drew.set1 _ _ (by omega)⟩

set_option maxRecDepth 100000 in
set_option maxHeartbeats 800000 in
theorem word_none (rb : Nat) (s p : ByteArray) (a : Nat) (mv : Value) (n : Nat) (ea : Addr) (w : World) (ha : a ≤ s.size) (hr : Rd w rb s a mv n) (he : Env w rb ea) (hw : Json.word p.data.toList (s.data.toList.drop a) = none) :
    Calls Tryd.prog 61 #[ptr rb, .string p] w fun e w' => No rb ea w e w' := by
  have c0 := hr.c0
  have c1 := hr.c1
  have ce : w.cell? ⟨1, 0, none⟩ = some (X ea) := he.txt
  clear hr he
  have hpf : Lib.hasPrefix (s.extract a s.size).data.toList p.data.toList = false := by
    rw [extract_list]
    unfold Json.word at hw
    split at hw
    · cases hw
    · rename_i h; exact eq_false_of_ne_true h
  have HC := hide (fun W => hasPrefix_any (s.extract a s.size) p W)
  rw [hpf] at HC
  have k0 : (0 : Int) ≤ (a : Int) := by omega
  have kn : (a : Int).toNat = a := by omega
  have k1 : (a : Int) ≤ (s.size : Int) := by omega
  clear hpf hw
  go_enter Tryd.func61, Tryd.ntmps61
  go_wp2_with fail
  go_region_held3 (fun W => W.cell? ⟨rb, 0, none⟩ = some (.string s) ∧ W.cell? ⟨rb, 1, none⟩ = some (.int .i64 a) ∧ W.cell? ⟨1, 0, none⟩ = some (X ea)) (go_keep)
    ((go_at_call 80; refine (HC.out _).mono ?_; rintro x w2 ⟨rfl, rfl⟩))
  all_goals
    go_wp2
    exact ⟨rfl, rfl, (Kp.refl _ _).drew⟩

/-- how a step ends that may give up -/
def Opt (rb : Nat) (s : ByteArray) (mv : Value) (n : Nat) (ea : Addr) (w : World) (o : Option (Value × List UInt8)) (e : Ending) (w' : World) : Prop :=
  (∃ v r a', o = some (v, r) ∧ a' ≤ s.size ∧ s.data.toList.drop a' = r ∧ Ok rb s mv n w a' v e w') ∨ (o = none ∧ No rb ea w e w')

theorem word_any (rb : Nat) (s p : ByteArray) (a : Nat) (mv : Value) (n : Nat) (ea : Addr) (w : World) (ha : a ≤ s.size) (hs : s.size < 9223372036854775800) (hr : Rd w rb s a mv n) (he : Env w rb ea) :
    Calls Tryd.prog 61 #[ptr rb, .string p] w fun e w' => Opt rb s mv n ea w ((Json.word p.data.toList (s.data.toList.drop a)).map fun r => (.tuple #[], r)) e w' := by
  cases hx : Json.word p.data.toList (s.data.toList.drop a) with
  | none => exact (word_none rb s p a mv n ea w ha hr he hx).mono fun e w' h => Or.inr ⟨rfl, h⟩
  | some r => exact (word_some rb s p a mv n w ha hs hr (by rw [hx]; simp)).mono fun e w' h => Or.inl ⟨_, r, a + p.size, rfl, (word_at ha hx).1, (word_at ha hx).2, h⟩

set_option maxRecDepth 100000 in
set_option maxHeartbeats 800000 in
/-- a sign with the blanks behind it, or not -/
theorem partIf_yes (rb : Nat) (s : ByteArray) (a : Nat) (mv : Value) (n : Nat) (w : World) (c : UInt8) (I : Int) (hI : I = (c.toNat : Int)) (h : a < s.size) (hc : s[a] = c) (hs : s.size < 9223372036854775800) (hr : Rd w rb s a mv n) :
    Calls Tryd.prog 36 #[ptr rb, .int .u8 I] w fun e w' => ∃ a', a' ≤ s.size ∧ Json.part c (s.data.toList.drop a) = some (s.data.toList.drop a') ∧ Ok rb s mv n w a' (.bool true) e w' := by
  subst hI
  have HC := hide (takeIf_yes rb s a mv n w c _ rfl h hc hs hr)
  have HP : Hid (Json.part c (s.data.toList.drop a) = some (Json.blanks (s.data.toList.drop (a + 1)))) := by
    show _ = _
    rw [drop_cons s a h, Json.part, if_pos hc]
  clear hr hc
  go_enter Tryd.func36, Tryd.ntmps36
  go_wp2_with fail
  refine HC.out.mono ?_
  rintro e w1 ⟨rfl, hk, hr⟩
  have HK := hide hk
  have HR := hide hr
  clear hk hr
  go_wp2_with fail
  refine (skipBlanks_any rb s (a + 1) mv n w1 (by omega) hs HR.out).mono ?_
  rintro e w2 ⟨a', ha', hd, rfl, hk2, hr2⟩
  have HK2 := hide (HK.out.trans hk2)
  have HR2 := hide hr2
  have HD := hide hd
  clear hk2 hr2 hd
  go_wp2
  go_ret
  exact ⟨a', ha', by rw [HP.out, HD.out], rfl, HK2.out, HR2.out⟩
set_option maxRecDepth 100000 in
theorem partIf_no (rb : Nat) (s : ByteArray) (a : Nat) (mv : Value) (n : Nat) (w : World) (c : UInt8) (I : Int) (hI : I = (c.toNat : Int)) (h : a < s.size) (hc : s[a] ≠ c) (hr : Rd w rb s a mv n) :
    Calls Tryd.prog 36 #[ptr rb, .int .u8 I] w fun e w' => Ok rb s mv n w a (.bool false) e w' := by
  subst hI
  have HC := hide (takeIf_no rb s a mv n w c _ rfl h hc hr)
  clear hr hc
  go_enter Tryd.func36, Tryd.ntmps36
  go_wp2_with fail
  refine HC.out.mono ?_
  rintro e w1 ⟨rfl, hk, hr⟩
  have HK := hide hk
  have HR := hide hr
  clear hk hr
  go_wp2
  go_ret
  exact ⟨rfl, HK.out, HR.out⟩
set_option maxRecDepth 100000 in
theorem partIf_none (rb : Nat) (s : ByteArray) (mv : Value) (n : Nat) (ea : Addr) (w : World) (I : Int) (hr : Rd w rb s s.size mv n) (he : Env w rb ea) :
    Calls Tryd.prog 36 #[ptr rb, .int .u8 I] w fun e w' => No rb ea w e w' := by
  have HC := hide (takeIf_none rb s mv n ea w I hr he)
  clear hr he
  go_enter Tryd.func36, Tryd.ntmps36
  go_wp2_with fail
  refine HC.out.mono ?_
  rintro e w1 ⟨rfl, hk⟩
  go_wp2
  exact ⟨rfl, rfl, hk⟩

/-- the reader's block lies in the world, so all below it stays -/
theorem Env.kp {w w' : World} {rb : Nat} {ea : Addr} {s : ByteArray} {a : Nat} {mv : Value} {n : Nat} (h : Env w rb ea) (hr : Rd w rb s a mv n) (hk : Kp rb w w') : Env w' rb ea := h.next (hk.under (Nat.le_of_lt hr.lt))

set_option maxRecDepth 100000 in
set_option maxHeartbeats 800000 in
theorem part_any (rb : Nat) (s : ByteArray) (a : Nat) (mv : Value) (n : Nat) (ea : Addr) (w : World) (c : UInt8) (I : Int) (hI : I = (c.toNat : Int)) (ha : a ≤ s.size) (hs : s.size < 9223372036854775800) (hr : Rd w rb s a mv n) (he : Env w rb ea) :
    Calls Tryd.prog 35 #[ptr rb, .int .u8 I] w fun e w' => Opt rb s mv n ea w ((Json.part c (s.data.toList.drop a)).map fun r => (.tuple #[], r)) e w' := by
  subst hI
  obtain ⟨o, ho⟩ : ∃ o, Json.part c (s.data.toList.drop a) = o := ⟨_, rfl⟩
  rw [ho]
  have HO := hide ho
  clear ho
  by_cases h : a < s.size
  · by_cases hc : s[a] = c
    · have HC := hide (partIf_yes rb s a mv n w c _ rfl h hc hs hr)
      clear hr hc
      go_enter Tryd.func35, Tryd.ntmps35
      go_wp2_with fail
      refine HC.out.mono ?_
      rintro e w1 ⟨a', ha', hp, rfl, hk, hr⟩
      have HK := hide hk
      have HR := hide hr
      have HP := hide hp
      clear hk hr hp
      go_wp2
      first | go_end0 | refine bodyPost_ret (results_none rfl _ _ _) rfl ?_
      refine Or.inl ⟨_, _, a', ?_, ha', rfl, rfl, HK.out, HR.out⟩
      rw [← HO.out, HP.out]; rfl
    · have HC := hide (partIf_no rb s a mv n w c _ rfl h hc hr)
      have HN : Hid (o = none) := by show _ = _; rw [← HO.out, drop_cons s a h, Json.part, if_neg hc]
      have HE := hide (fun w' (hk : Kp rb w w') => he.kp hr hk)
      clear hr hc
      go_enter Tryd.func35, Tryd.ntmps35
      go_wp2_with fail
      refine HC.out.mono ?_
      rintro e w1 ⟨rfl, hk, hr⟩
      have ce : w1.cell? ⟨1, 0, none⟩ = some (X ea) := (HE.out w1 hk).txt
      have HK := hide hk
      clear hk hr
      go_wp2
      exact ⟨rfl, Or.inr ⟨by rw [HN.out]; rfl, rfl, HK.out⟩⟩
  · obtain rfl : a = s.size := by omega
    have HC := hide (partIf_none rb s mv n ea w (c.toNat : Int) hr he)
    have HN : Hid (o = none) := by show _ = _; rw [← HO.out, drop_end s _ h, Json.part]
    clear hr
    go_enter Tryd.func35, Tryd.ntmps35
    go_wp2_with fail
    refine HC.out.mono ?_
    rintro e w1 ⟨rfl, hk⟩
    have HK := hide hk
    clear hk
    go_wp2
    exact ⟨rfl, Or.inr ⟨by rw [HN.out]; rfl, rfl, HK.out⟩⟩
end Go.Proofs.YtkkgngmhdlmgnaaDoor.jw
