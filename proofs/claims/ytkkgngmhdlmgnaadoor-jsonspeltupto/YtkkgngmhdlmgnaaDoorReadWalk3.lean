import Derived.Test.YtkkgngmhdlmgnaaDoorReadWalk2
namespace Go.Proofs.YtkkgngmhdlmgnaaDoor.jw
open Go.ChangeShapes Go.WideShapes Go.ChangeAt Go.RowKit Go.Proofs.YtkkgngmhdlmgnaaDoor.common
attribute [local go_sem ↓] Go.wp_at_zero Go.wp_at_succ

def digOf : List UInt8 → Option (Nat × List UInt8)
  | [] => none
  | c :: r => (Json.hexa c).map fun d => (d, r)

set_option maxRecDepth 100000 in
set_option maxHeartbeats 1600000 in
theorem digit_any (rb : Nat) (s : ByteArray) (a : Nat) (mv : Value) (n : Nat) (ea : Addr) (w : World) (ha : a ≤ s.size) (hs : s.size < 9223372036854775800) (hr : Rd w rb s a mv n) (he : Env w rb ea) :
    Calls Tryd.prog 111 #[ptr rb] w fun e w' => Opt rb s mv n ea w ((digOf (s.data.toList.drop a)).map fun x => (.int .i32 (x.1 : Int), x.2)) e w' := by
  obtain ⟨o, ho⟩ : ∃ o, (digOf (s.data.toList.drop a)).map (fun x => (Value.int .i32 (x.1 : Int), x.2)) = o := ⟨_, rfl⟩
  rw [ho]
  have HE := hide (fun w' (hk : Kp rb w w') => he.kp hr hk)
  by_cases h : a < s.size
  · rw [drop_cons s a h] at ho
    have HC := hide (next_some rb s a mv n w h hs hr)
    have HI := hide (fun W => isDigit_any s[a] W)
    have hlt := s[a].toNat_lt
    clear hr he
    generalize s[a] = c at *
    simp only [digOf] at ho
    by_cases h1 : 48 ≤ c.toNat ∧ c.toNat ≤ 57
    · have hh : Json.hexa c = some (c.toNat - 48) := by unfold Json.hexa; rw [if_pos h1]
      have hd : Json.isDig c = true := by simp [Json.isDig, h1]
      rw [hh] at ho
      rw [hd] at HI
      have HO := hide ho
      have k1 : (48 : Int) ≤ (c.toNat : Int) := by omega
      have k2 : (c.toNat : Int) < 256 := by omega
      clear hh hd ho h1
      go_enter Tryd.func111, Tryd.ntmps111
      go_wp2_with fail
      refine HC.out.mono ?_
      rintro e w1 ⟨rfl, hk, hr⟩
      have HK := hide hk
      have HR := hide hr
      clear hk hr
      go_wp2_with fail
      refine (HI.out w1).mono ?_
      rintro e w2 ⟨rfl, rfl⟩
      go_wp2
      go_ret
      refine Or.inl ⟨_, _, a + 1, HO.out.symm.trans ?_, by omega, rfl, rfl, HK.out, HR.out⟩
      simp only [Option.map_some, Option.some.injEq, Prod.mk.injEq, and_true]
      show Value.int .i32 _ = Value.int .i32 _
      congr 1
      omega
    · have hd : Json.isDig c = false := by simp [Json.isDig]; omega
      rw [hd] at HI
      by_cases h2 : 97 ≤ c.toNat ∧ c.toNat ≤ 102
      · have hh : Json.hexa c = some (c.toNat - 87) := by unfold Json.hexa; rw [if_neg h1, if_pos h2]
        rw [hh] at ho
        have HO := hide ho
        have k1 : (97 : Int) ≤ (c.toNat : Int) := by omega
        have k2 : (c.toNat : Int) ≤ 102 := by omega
        have k3 : (c.toNat : Int) < 256 := by omega
        clear hh hd ho h1 h2
        go_enter Tryd.func111, Tryd.ntmps111
        go_wp2_with fail
        refine HC.out.mono ?_
        rintro e w1 ⟨rfl, hk, hr⟩
        have HK := hide hk
        have HR := hide hr
        clear hk hr
        go_wp2_with fail
        refine (HI.out w1).mono ?_
        rintro e w2 ⟨rfl, rfl⟩
        go_wp2
        go_ret
        refine Or.inl ⟨_, _, a + 1, HO.out.symm.trans ?_, by omega, rfl, rfl, HK.out, HR.out⟩
        simp only [Option.map_some, Option.some.injEq, Prod.mk.injEq, and_true]
        show Value.int .i32 _ = Value.int .i32 _
        congr 1
        omega
      · by_cases h3 : 65 ≤ c.toNat ∧ c.toNat ≤ 70
        · have hh : Json.hexa c = some (c.toNat - 55) := by unfold Json.hexa; rw [if_neg h1, if_neg h2, if_pos h3]
          rw [hh] at ho
          have HO := hide ho
          have k0 : ¬ (97 : Int) ≤ (c.toNat : Int) := by omega
          have k1 : (65 : Int) ≤ (c.toNat : Int) := by omega
          have k2 : (c.toNat : Int) ≤ 70 := by omega
          have k3 : (c.toNat : Int) < 256 := by omega
          clear hh hd ho h1 h2 h3
          go_enter Tryd.func111, Tryd.ntmps111
          go_wp2_with fail
          refine HC.out.mono ?_
          rintro e w1 ⟨rfl, hk, hr⟩
          have HK := hide hk
          have HR := hide hr
          clear hk hr
          go_wp2_with fail
          refine (HI.out w1).mono ?_
          rintro e w2 ⟨rfl, rfl⟩
          go_wp2
          go_ret
          refine Or.inl ⟨_, _, a + 1, HO.out.symm.trans ?_, by omega, rfl, rfl, HK.out, HR.out⟩
          simp only [Option.map_some, Option.some.injEq, Prod.mk.injEq, and_true]
          show Value.int .i32 _ = Value.int .i32 _
          congr 1
          omega
        · have hh : Json.hexa c = none := by unfold Json.hexa; rw [if_neg h1, if_neg h2, if_neg h3]
          rw [hh] at ho
          have HO : Hid (o = none) := ho.symm
          have hcs : Hid (c.toNat < 65) ∨ Hid (70 < c.toNat ∧ c.toNat < 97) ∨ Hid (102 < c.toNat) := by
            by_cases q1 : c.toNat < 65
            · exact Or.inl (hide q1)
            · by_cases q2 : c.toNat < 97
              · exact Or.inr (Or.inl (hide ⟨by omega, q2⟩))
              · exact Or.inr (Or.inr (hide (by omega)))
          clear hh hd ho h1 h2 h3
          rcases hcs with q | q | q
          · have k0 : ¬ (97 : Int) ≤ (c.toNat : Int) := by have := q.out; omega
            have k1 : ¬ (65 : Int) ≤ (c.toNat : Int) := by have := q.out; omega
            go_enter Tryd.func111, Tryd.ntmps111
            go_wp2_with fail
            refine HC.out.mono ?_
            rintro e w1 ⟨rfl, hk, hr⟩
            have ce : w1.cell? ⟨1, 0, none⟩ = some (X ea) := (HE.out w1 hk).txt
            have HK := hide hk
            clear hk hr
            go_wp2_with fail
            refine (HI.out w1).mono ?_
            rintro e w2 ⟨rfl, rfl⟩
            go_wp2
            exact ⟨rfl, Or.inr ⟨HO.out, rfl, HK.out⟩⟩
          · have k0 : ¬ (97 : Int) ≤ (c.toNat : Int) := by have := q.out.2; omega
            have k1 : (65 : Int) ≤ (c.toNat : Int) := by have := q.out.1; omega
            have k2 : ¬ (c.toNat : Int) ≤ 70 := by have := q.out.1; omega
            go_enter Tryd.func111, Tryd.ntmps111
            go_wp2_with fail
            refine HC.out.mono ?_
            rintro e w1 ⟨rfl, hk, hr⟩
            have ce : w1.cell? ⟨1, 0, none⟩ = some (X ea) := (HE.out w1 hk).txt
            have HK := hide hk
            clear hk hr
            go_wp2_with fail
            refine (HI.out w1).mono ?_
            rintro e w2 ⟨rfl, rfl⟩
            go_wp2
            exact ⟨rfl, Or.inr ⟨HO.out, rfl, HK.out⟩⟩
          · have k0 : (97 : Int) ≤ (c.toNat : Int) := by have := q.out; omega
            have k1 : ¬ (c.toNat : Int) ≤ 102 := by have := q.out; omega
            have k2 : (65 : Int) ≤ (c.toNat : Int) := by have := q.out; omega
            have k3 : ¬ (c.toNat : Int) ≤ 70 := by have := q.out; omega
            go_enter Tryd.func111, Tryd.ntmps111
            go_wp2_with fail
            refine HC.out.mono ?_
            rintro e w1 ⟨rfl, hk, hr⟩
            have ce : w1.cell? ⟨1, 0, none⟩ = some (X ea) := (HE.out w1 hk).txt
            have HK := hide hk
            clear hk hr
            go_wp2_with fail
            refine (HI.out w1).mono ?_
            rintro e w2 ⟨rfl, rfl⟩
            go_wp2
            exact ⟨rfl, Or.inr ⟨HO.out, rfl, HK.out⟩⟩
  · obtain rfl : a = s.size := by omega
    rw [drop_end s _ h] at ho
    have HO : Hid (o = none) := ho.symm
    have HC := hide (next_none rb s mv n ea w hr he)
    clear hr he ho
    go_enter Tryd.func111, Tryd.ntmps111
    go_wp2_with fail
    refine HC.out.mono ?_
    rintro e w1 ⟨rfl, hk⟩
    have HK := hide hk
    clear hk
    go_wp2
    exact ⟨rfl, Or.inr ⟨HO.out, rfl, HK.out⟩⟩
end Go.Proofs.YtkkgngmhdlmgnaaDoor.jw
