import Derived.Test.YtkkgngmhdlmgnaaDoorReadWalk5
namespace Go.Proofs.YtkkgngmhdlmgnaaDoor.jw
open Go.ChangeShapes Go.WideShapes Go.ChangeAt Go.RowKit Go.Proofs.YtkkgngmhdlmgnaaDoor.common
attribute [local go_sem ↓] Go.wp_at_zero Go.wp_at_succ

theorem encode_len4 (d : Int) : (Lib.encodeRune d).length ≤ 4 := by
  have := (Lib.encodeRuneZ_length d).2
  unfold Lib.encodeRune; simpa using this
/-- what a part stands for is not longer than the part -/
theorem char_room {l r : List UInt8} {d : Nat} (h : Json.char l = some (d, r)) : (Lib.encodeRune (d : Int)).length + r.length ≤ l.length := by
  have h4 := encode_len4 (d : Int)
  cases l with
  | nil => cases h
  | cons c t =>
    simp only [Json.char] at h
    split at h
    · cases t with
      | nil => cases h
      | cons x y =>
        simp only [Json.escaped] at h
        split at h
        · have := Json.numbered_lt h
          simp only [List.length_cons]; omega
        · split at h
          · cases h
          · rename_i m hm
            injection h with h; injection h with h1 h2; subst h1; subst h2
            have : m < 128 := by
              unfold Json.short at hm
              repeat' split at hm
              all_goals first | (injection hm with hm; omega) | cases hm
            rw [Json.encode_ascii m this]
            simp only [List.length_cons, List.length_nil]; omega
    · split at h
      · cases h
      · rename_i hb
        injection h with h; injection h with h1 h2; subst h1; subst h2
        have hb2 : ¬ Json.bad (c :: t) := fun x => hb (Or.inr x)
        rw [Lib.encode_decode (c :: t) (by simp) hb2]
        have := Lib.decodeL_le (c :: t) (by simp)
        rw [List.length_take, List.length_drop]; omega

theorem Kp.then {rb : Nat} {w a b : World} (h : Kp rb w a) (hb : Below w.heap.size a b) : Kp rb w b :=
  ⟨hb.os.trans h.os, hb.tape.trans h.tape, hb.output.trans h.output, Nat.le_trans h.size hb.size, fun k hk hn => (hb.block k hk).trans (h.block k hk hn)⟩
theorem own_kp {w w' : World} {b rb : Nat} {e : TypeId} {z : Nat} {v : Value} {n : Nat} {xs : List Value} (h : w.ownsRow b e z v n xs) (hk : Kp rb w w') (hrb : rb < b) : w'.ownsRow b e z v n xs := by
  refine ⟨h.1, ?_⟩
  rcases h.2 with hn | ⟨g, cap, cur, hv, hg, hh, rest⟩
  · exact .inl hn
  · refine .inr ⟨g, cap, cur, hv, hg, ?_, rest⟩
    rw [hk.block g (Array.getElem?_eq_some_iff.1 hh).1 (by omega)]; exact hh
theorem Rd.under {w w' : World} {rb b : Nat} {s : ByteArray} {a : Nat} {mv : Value} {n : Nat} (h : Rd w rb s a mv n) (hb : Below b w w') (hl : rb < b) : Rd w' rb s a mv n := by
  unfold Rd; rw [hb.block rb hl]; exact h

set_option maxRecDepth 100000 in
set_option maxHeartbeats 3200000 in
theorem quoted_any (rb : Nat) (s : ByteArray) (a : Nat) (mv : Value) (n : Nat) (ea : Addr) (w : World) (ha : a ≤ s.size) (hs : s.size ≤ reachBytes) (hr : Rd w rb s a mv n) (he : Env w rb ea) :
    Calls Tryd.prog 49 #[ptr rb] w fun e w' => Opt rb s mv n ea w ((Json.quoted (s.data.toList.drop a)).map fun x => (S x.1, x.2)) e w' := by
  have hs63 : s.size < 9223372036854775800 := by unfold reachBytes at hs; omega
  obtain ⟨o, ho⟩ : ∃ o, Json.quoted (s.data.toList.drop a) = o := ⟨_, rfl⟩
  rw [ho]
  have HR := hide hr
  have HE := hide he
  have HLT := hide hr.lt
  unfold Json.quoted at ho
  clear hr he
  go_enter Tryd.func49, Tryd.ntmps49
  go_wp2_with fail
  refine (word_any rb s ⟨#[34]⟩ a mv n ea w ha hs63 HR.out HE.out).mono ?_
  rintro e w1 (⟨v, r, a1, ho1, ha1, hd1, rfl, hk1, hr1⟩ | ⟨ho1, rfl, hk1⟩)
  · obtain ⟨r', hw1, he1⟩ := Option.map_eq_some_iff.1 ho1
    simp only [Prod.mk.injEq] at he1
    obtain ⟨rfl, rfl⟩ := he1
    have hw1' : Json.word [34] (s.data.toList.drop a) = some r' := hw1
    rw [hw1'] at ho
    simp only at ho
    have HO : Hid (Json.chars (s.size + 1) [] (s.data.toList.drop a1) = o) := by
      show _ = _
      rw [← ho, hd1]
      have hl : r'.length ≤ s.size := by rw [← hd1, List.length_drop, len_list]; omega
      exact Json.chars_fuel _ _ _ _ (by omega) (by omega)
    have HK1 := hide hk1
    have HR1 := hide hr1
    clear ho1 hw1 hw1' ho hk1 hr1 hd1
    go_wp2_with fail
    go_loopw [3] (fun v wr => ∃ (k : Nat) (acc : List UInt8), k ≤ s.size ∧ acc.length + (s.size - k) ≤ s.size ∧ Hid (Json.chars (s.size + 1) acc (s.data.toList.drop k) = o) ∧ wr.ownsRow w.heap.size 5 1 v acc.length (acc.map B) ∧ Kp rb w wr ∧ Rd wr rb s k mv n) (fun _ wr => s.size - place wr rb)
    case atStart => exact ⟨a1, [], ha1, by simp, HO.out, World.ownsRow_nil _ _ _ _, HK1.out, HR1.out⟩
    case round =>
      obtain ⟨k, acc, hk, hal, hch, hown, hkp, hrr⟩ := hrel
      have HK := hide hkp
      have HRR := hide hrr
      have HOW := hide hown
      have HEE := hide (HE.out.kp HR.out hkp)
      have HPL := hide hrr.place
      clear hkp hrr hown HO
      by_cases h : k < s.size
      · have hdc := drop_cons s k h
        by_cases hc : s[k] = 34
        · have HX : Hid (o = some (acc, s.data.toList.drop (k + 1))) := by
            show _ = _
            rw [← hch.out, hdc, Json.chars, if_pos hc]
          have HC := hide (takeIf_yes rb s k mv n wr 34 34 rfl h hc hs63 HRR.out)
          clear hdc hc hch
          go_wp2_with fail
          refine HC.out.mono ?_
          rintro e w2 ⟨rfl, hk2, hr2⟩
          have HK2 := hide (HK.out.trans hk2)
          have HR2 := hide hr2
          have hconv := conv_own (own_kp HOW.out hk2 HLT.out) rfl
          clear hk2 hr2
          go_wp2
          go_ret
          exact Or.inl ⟨_, _, k + 1, by rw [HX.out]; rfl, by omega, rfl, rfl, HK2.out, HR2.out⟩
        · have HC := hide (takeIf_no rb s k mv n wr 34 34 rfl h hc HRR.out)
          have hch2 := hch.out
          rw [hdc, Json.chars, if_neg hc, ← hdc] at hch2
          have HCH := hide hch2
          clear hdc hc hch hch2
          go_wp2_with fail
          refine HC.out.mono ?_
          rintro e w2 ⟨rfl, hk2, hr2⟩
          have HK2 := hide (HK.out.trans hk2)
          have HR2 := hide hr2
          have HO2 := hide (own_kp HOW.out hk2 HLT.out)
          have HE2 := hide (HEE.out.kp HRR.out hk2)
          clear hk2 hr2
          go_wp2_with fail
          refine (char_any rb s k mv n ea w2 hk hs63 HR2.out HE2.out).mono ?_
          rintro e w3 (⟨v3, r3, a3, ho3, ha3, hd3, rfl, hk3, hr3⟩ | ⟨ho3, rfl, hk3⟩)
          · obtain ⟨d, hcd, rfl⟩ := some_of_map (f := fun k => .int .i32 (k : Int)) ho3
            have hok := Json.char_ok hcd
            have hroom := char_room hcd
            have hlt3 := Json.char_lt hcd
            rw [← hd3, List.length_drop, List.length_drop, len_list] at hroom hlt3
            have hch3 := HCH.out
            rw [hcd] at hch3
            simp only at hch3
            have HCH3 : Hid (Json.chars (s.size + 1) (acc ++ Lib.encodeRune (d : Int)) (s.data.toList.drop a3) = o) := by
              show _ = _
              rw [← hch3, ← hd3]
              have hl : (s.data.toList.drop a3).length < s.size := by rw [List.length_drop, len_list]; omega
              exact Json.chars_fuel _ _ _ _ (by omega) hl
            have HOK := hide hok
            have HK3 := hide (HK2.out.trans hk3)
            have HR3 := hide hr3
            have HO3 := hide (own_kp HO2.out hk3 HLT.out)
            have hsz3 : w.heap.size ≤ w3.heap.size := HK3.out.size
            have hD0 : Hid (0 ≤ (d : Int) ∧ (d : Int) ≤ 1114111) := by
              unfold Json.okRune at hok; exact ⟨by omega, by omega⟩
            obtain ⟨D, hD⟩ : ∃ D : Int, (d : Int) = D := ⟨_, rfl⟩
            rw [hD] at HCH3 hroom hD0
            rw [hD]
            have HROOM := hide hroom
            have HLT3 := hide hlt3
            clear ho3 hcd hok hk3 hr3 hch3 hd3 hroom hlt3 HCH HOK hD
            go_wp2_with fail
            refine (appendRune_any w.heap.size _ acc D w3 (by have := hD0.out.1; omega) (by have := hD0.out.2; omega) HO3.out (by unfold reachBytes at hs; omega) hsz3).mono ?_
            rintro e w4 ⟨v4, rfl, ho4, hf4⟩
            have HO4 := hide ho4
            have HK4 := hide (HK3.out.then hf4.below)
            have HR4 := hide (HR3.out.under hf4.below HLT.out)
            clear ho4 hf4
            go_wp2
            go_roundw
            case rel => exact ⟨a3, _, ha3, by have := HROOM.out; have := HLT3.out; rw [List.length_append]; omega, HCH3.out, HO4.out, HK4.out, HR4.out⟩
            case measure =>
              have h1 := HPL.out
              have h2 := HR4.out.place
              have h3 := HLT3.out
              omega
          · have hcn := none_of_map ho3
            have hch3 := HCH.out
            rw [hcn] at hch3
            have HX : Hid (o = none) := hch3.symm
            have HK3 := hide (HK2.out.trans hk3)
            clear ho3 hcn hch3 hk3
            go_wp2
            exact ⟨rfl, Or.inr ⟨by rw [HX.out]; rfl, rfl, HK3.out⟩⟩
      · obtain rfl : k = s.size := by omega
        have HX : Hid (o = none) := by
          show _ = _
          rw [← hch.out, drop_end s _ h, Json.chars]
        have HC := hide (takeIf_none rb s mv n ea wr 34 HRR.out HEE.out)
        clear hch
        go_wp2_with fail
        refine HC.out.mono ?_
        rintro e w2 ⟨rfl, hk2⟩
        have HK2 := hide (HK.out.trans hk2)
        clear hk2
        go_wp2
        exact ⟨rfl, Or.inr ⟨by rw [HX.out]; rfl, rfl, HK2.out⟩⟩
  · have hw1 := none_of_map ho1
    have hw1' : Json.word [34] (s.data.toList.drop a) = none := hw1
    rw [hw1'] at ho
    have HX : Hid (o = none) := ho.symm
    have HK1 := hide hk1
    clear ho1 hw1 hw1' ho hk1
    go_wp2
    exact ⟨rfl, Or.inr ⟨by rw [HX.out]; rfl, rfl, HK1.out⟩⟩
end Go.Proofs.YtkkgngmhdlmgnaaDoor.jw
