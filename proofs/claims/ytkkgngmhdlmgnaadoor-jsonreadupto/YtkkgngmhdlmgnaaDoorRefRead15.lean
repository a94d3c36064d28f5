import Derived.Test.YtkkgngmhdlmgnaaDoorRefRead14
import Derived.Test.YtkkgngmhdlmgnaaDoorRefMath5
import Derived.Test.YtkkgngmhdlmgnaaDoorRefObj
import Derived.Test.YtkkgngmhdlmgnaaDoorReadForm
namespace Go.Proofs.YtkkgngmhdlmgnaaDoor.jw
open Go.ChangeShapes Go.WideShapes Go.ChangeAt Go.RowKit Go.Proofs.YtkkgngmhdlmgnaaDoor.common
attribute [local go_sem ↓] Go.wp_at_zero Go.wp_at_succ

/-- what the document's reader answers -/
def RRef (base : Nat) (l : List UInt8) (x : Value) (w : World) : Prop :=
  ∃ v, x = .tuple #[v, .int .i64 ((Json.read l).1 : Int)] ∧ w.ownsRow base 37 5 v (Json.read l).2.length (cms (Json.read l).2)
theorem RRef.nil {base : Nat} {l : List UInt8} {c : Nat} {w : World} (h : Json.read l = (c, [])) : RRef base l (.tuple #[.slice none 0 0, .int .i64 (c : Int)]) w :=
  ⟨_, by rw [h], by rw [h]; exact World.ownsRow_nil _ _ _ _⟩

theorem LPl.split {base : Nat} {s : ByteArray} {o : Option (List Mem × List UInt8)} {x : Value} {w : World} (h : LPl base s o x w) : ∃ (v : Value) (I : Int) (L : List Mem), x = .tuple #[v, .int .i64 I] ∧ PlI s (o.map (·.2)) I ∧ w.ownsRow base 37 5 v L.length (cms L) ∧ L.length ≤ s.size ∧ ∀ t r, o = some (t, r) → t = L := by
  rcases h with ⟨rfl, rfl⟩ | ⟨l, r, b, v, rfl, hb, rfl, hd, hl, ho⟩
  · exact ⟨_, _, [], rfl, Or.inl ⟨rfl, rfl⟩, World.ownsRow_nil _ _ _ _, Nat.zero_le _, fun _ _ h => by cases h⟩
  · exact ⟨_, _, l, rfl, Or.inr ⟨r, b, rfl, hb, rfl, hd⟩, ho, hl, fun _ _ h => by injection h with h; injection h with h _; exact h.symm⟩
/-- from the parts to the object -/
theorem obj_none {s : ByteArray} {o : Option (List Mem × List UInt8)} {I : Int} {O : Option (List Mem)}
    (hO : O = match o with | none => none | some (ms, q) => match Json.part 125 (Json.blanks q) with | none => none | some r2 => if r2 = [] then some ms else none)
    (hp : PlI s ((o.map (·.2)).bind fun r => Json.part 125 (Json.blanks r)) I) (hI : I < 0 ∨ I ≠ (s.size : Int)) : O = none := by
  subst hO
  cases o with
  | none => rfl
  | some x =>
    obtain ⟨ms, q⟩ := x
    simp only [Option.map_some, Option.bind_some] at hp
    rcases hp with ⟨h, _⟩ | ⟨r, b, h, hb, rfl, hd⟩
    · simp only [h]
    · simp only [h]
      refine if_neg ?_
      intro e
      subst e
      have := congrArg List.length hd
      rw [List.length_drop, len_list, List.length_nil] at this
      omega
theorem obj_some {s : ByteArray} {o : Option (List Mem × List UInt8)} {I : Int} {O : Option (List Mem)} {L : List Mem}
    (hO : O = match o with | none => none | some (ms, q) => match Json.part 125 (Json.blanks q) with | none => none | some r2 => if r2 = [] then some ms else none)
    (hp : PlI s ((o.map (·.2)).bind fun r => Json.part 125 (Json.blanks r)) I) (hL : ∀ t r, o = some (t, r) → t = L) (h0 : ¬ I < 0) (hI : I = (s.size : Int)) : O = some L := by
  subst hO
  cases o with
  | none =>
    rcases hp with ⟨_, h⟩ | ⟨r, b, h, _⟩
    · omega
    · cases h
  | some x =>
    obtain ⟨ms, q⟩ := x
    obtain rfl := hL ms q rfl
    simp only [Option.map_some, Option.bind_some] at hp
    rcases hp with ⟨_, h⟩ | ⟨r, b, h, hb, rfl, hd⟩
    · omega
    · simp only [h]
      refine if_pos ?_
      rw [← hd]
      exact List.drop_eq_nil_of_le (by rw [len_list]; omega)

set_option maxRecDepth 100000 in
set_option maxHeartbeats 1600000 in
theorem refRead_any (s : ByteArray) (w : World) (hs : s.size * 56 ≤ 140737488351232) :
    Calls Tryd.prog 7 #[.string s] w fun x w' => (∃ v, x = .returned v ∧ RRef w.heap.size s.data.toList v w') ∧ Below w.heap.size w w' := by
  have HS := hide hs
  have HOP := hide (Json.object_parts s.data.toList)
  have H0 : Hid (PlI s (some s.data.toList) 0) := by
    have := PlI.at (s := s) (a := 0) (Nat.zero_le _)
    rw [List.drop_zero] at this
    exact this
  clear hs
  go_enter Tryd.func7, Tryd.ntmps7
  go_wp2_with fail
  refine (mark_at s _ 123 _ (by have := HS.out; omega) 0 123 H0.out rfl).mono ?_
  rintro x w1 ⟨⟨I1, rfl, hp1⟩, hw1⟩
  obtain rfl := hw1
  rw [Option.bind_some] at hp1
  by_cases hneg : I1 < 0
  · have HR : Hid (Json.read s.data.toList = (2, [])) := by
      refine Json.read_no ?_
      rcases hp1 with ⟨h, _⟩ | ⟨r, b, _, _, h, _⟩
      · rw [HOP.out, h]
      · omega
    clear hp1
    go_wp2_with fail
    go_ret2
    exact ⟨⟨_, rfl, RRef.nil HR.out⟩, Below.refl _ _⟩
  · obtain ⟨b, r, hbs, hI, hpr, hdr⟩ : ∃ (b : Nat) (r : List UInt8), b ≤ s.size ∧ I1 = (b : Int) ∧ Json.part 123 (Json.blanks s.data.toList) = some r ∧ s.data.toList.drop b = r := by
      rcases hp1 with ⟨_, h⟩ | ⟨r, b, h, hb, hI, hd⟩
      · omega
      · exact ⟨b, r, hb, hI, h, hd⟩
    subst hI
    have HOP2 := hide HOP.out
    rw [hpr] at HOP2
    have HDR := hide hdr
    clear hp1 hpr hdr HOP
    by_cases hin : ∃ h : b < s.size, s[b] ≠ 125
    · obtain ⟨hlt, h125⟩ := hin
      have g1 : (b : Int) < (s.size : Int) := by omega
      have g0 : (0 : Int) ≤ (b : Int) := by omega
      have p1 : ((s[b].toNat : Int) == 125) = false := beq_false_of_ne (fun e => h125 (UInt8.toNat_inj.1 (by show _ = 125; omega)))
      have HIn : Hid (Json.inside r = Json.mems [] r) := by
        show _ = _
        unfold Json.inside
        rw [← HDR.out, drop_cons s b hlt]
        refine if_neg ?_
        rintro (h | h)
        · cases h
        · injection h with h; exact h125 h
      clear h125
      go_wp2_with fail
      refine (refMembers_any s b _ HS.out hbs _ rfl).mono ?_
      rintro x w2 ⟨⟨v2, rfl, hv2⟩, hb2⟩
      rw [HDR.out] at hv2
      obtain ⟨v, I5, L, rfl, hp5, hown5, hll5, hL5⟩ := hv2.split
      have HPL := hide hp5
      have HOw := hide hown5
      have HLL := hide hL5
      have HBW := hide hb2
      have hl5 : L.length ≤ s.size := hll5
      have hS5 := HS.out
      have HOO := hide HOP2.out
      simp only [HIn.out] at HOO
      obtain ⟨oa, cap, rfl⟩ := own_form hown5
      clear hp5 hown5 hL5 hb2 hv2 hll5
      go_wp2_with fail
      refine (mark_at s _ 125 _ (by have := HS.out; omega) I5 125 HPL.out rfl).mono ?_
      rintro x w6 ⟨⟨I6, rfl, hp6⟩, hw6⟩
      obtain rfl := hw6
      have HP6 := hide hp6
      clear hp6
      by_cases e1 : I6 < 0
      · have HR := hide (Json.read_no (obj_none HOO.out HP6.out (Or.inl e1)))
        go_wp2_with fail
        go_ret2
        exact ⟨⟨_, rfl, RRef.nil HR.out⟩, HBW.out⟩
      · by_cases e2 : I6 = (s.size : Int)
        · have HOS := hide (obj_some HOO.out HP6.out HLL.out e1 e2)
          have e2b : (I6 != (s.size : Int)) = false := by simpa using e2
          have e1b : decide (I6 < 0) = false := decide_eq_false e1
          clear e2
          by_cases e3 : 32 < L.length
          · have HR := hide (Json.read_many HOS.out e3)
            have e3i : (32 : Int) < (L.length : Int) := by omega
            go_wp2_with fail
            go_ret2
            exact ⟨⟨_, rfl, RRef.nil HR.out⟩, HBW.out⟩
          · have e3i : ¬ (32 : Int) < (L.length : Int) := by omega
            have HLie := hide (lies_of_own HOw.out)
            go_wp2_with fail
            refine (refTwice_any _ L _ HLie.out (by omega)).mono ?_
            rintro x w7 ⟨rfl, hb7⟩
            have HBW7 := hide (HBW.out.trans (hb7.mono HBW.out.size))
            have HOw7 := hide (own_belowR HOw.out hb7)
            clear hb7
            cases htw : Json.twice L with
            | true =>
              have HR := hide (Json.read_twice HOS.out e3 htw)
              clear htw
              go_wp2_with fail
              go_ret2
              exact ⟨⟨_, rfl, RRef.nil HR.out⟩, HBW7.out⟩
            | false =>
              have HR := hide (Json.read_yes HOS.out e3 htw)
              clear htw
              go_wp2_with fail
              go_ret2
              exact ⟨⟨_, rfl, ⟨_, by rw [HR.out]; rfl, by rw [HR.out]; exact HOw7.out⟩⟩, HBW7.out⟩
        · have HR := hide (Json.read_no (obj_none HOO.out HP6.out (Or.inr e2)))
          have e2b : (I6 != (s.size : Int)) = true := by simpa using e2
          clear e2
          go_wp2_with fail
          go_ret2
          exact ⟨⟨_, rfl, RRef.nil HR.out⟩, HBW.out⟩
    · have HIn : Hid (Json.inside r = some ([], r)) := by
        show _ = _
        unfold Json.inside
        refine if_pos ?_
        by_cases h : b < s.size
        · refine Or.inr ?_
          rw [← HDR.out, drop_cons s b h]
          by_cases h2 : s[b] = 125
          · rw [h2]; rfl
          · exact absurd ⟨h, h2⟩ hin
        · exact Or.inl (by rw [← HDR.out, drop_end s b h])
      have HPL : Hid (PlI s ((Json.inside r).map (·.2)) (b : Int)) := by
        rw [HIn.out, ← HDR.out]
        exact PlI.at hbs
      have HOw : Hid (w1.ownsRow w1.heap.size 37 5 (.slice none 0 0) ([] : List Mem).length (cms [])) := World.ownsRow_nil _ _ _ _
      have HLL : Hid (∀ t q, Json.inside r = some (t, q) → t = []) := by
        intro t q h
        rw [HIn.out] at h
        injection h with h; injection h with h _; exact h.symm
      have HBW : Hid (Below w1.heap.size w1 w1) := Below.refl _ _
      have hS5 := HS.out
      have HOO := hide HOP2.out
      obtain ⟨L, hLe⟩ : ∃ L : List Mem, [] = L := ⟨_, rfl⟩
      have hL0 : L.length = 0 := by rw [← hLe]; rfl
      rw [hLe] at HOw HLL
      clear hLe
      by_cases h : b < s.size
      · have h125 : s[b] = 125 := by
          by_cases h2 : s[b] = 125
          · exact h2
          · exact absurd ⟨h, h2⟩ hin
        have g1 : (b : Int) < (s.size : Int) := by omega
        have g0 : (0 : Int) ≤ (b : Int) := by omega
        have p1 : (s[b].toNat : Int) = 125 := by rw [h125]; rfl
        clear h125 hin
        have HL0 := hide hL0
        clear hL0
        go_wp2_with fail
        refine (mark_at s _ 125 _ (by have := HS.out; omega) (b : Int) 125 HPL.out rfl).mono ?_
        rintro x w6 ⟨⟨I6, rfl, hp6⟩, hw6⟩
        obtain rfl := hw6
        have HP6 := hide hp6
        clear hp6
        by_cases e1 : I6 < 0
        · have HR := hide (Json.read_no (obj_none HOO.out HP6.out (Or.inl e1)))
          go_wp2_with fail
          go_ret2
          exact ⟨⟨_, rfl, RRef.nil HR.out⟩, HBW.out⟩
        · by_cases e2 : I6 = (s.size : Int)
          · have HOS := hide (obj_some HOO.out HP6.out HLL.out e1 e2)
            have e2b : (I6 != (s.size : Int)) = false := by simpa using e2
            have e1b : decide (I6 < 0) = false := decide_eq_false e1
            clear e2
            by_cases e3 : 32 < L.length
            · have HR := hide (Json.read_many HOS.out e3)
              exact absurd e3 (by have := HL0.out; omega)
            · skip
              have HLie := hide (lies_of_own HOw.out)
              go_wp2_with fail
              refine (refTwice_any _ L _ HLie.out (by omega)).mono ?_
              rintro x w7 ⟨rfl, hb7⟩
              have HBW7 := hide (HBW.out.trans (hb7.mono HBW.out.size))
              have HOw7 := hide (own_belowR HOw.out hb7)
              clear hb7
              cases htw : Json.twice L with
              | true =>
                have HR := hide (Json.read_twice HOS.out e3 htw)
                clear htw
                go_wp2_with fail
                go_ret2
                exact ⟨⟨_, rfl, RRef.nil HR.out⟩, HBW7.out⟩
              | false =>
                have HR := hide (Json.read_yes HOS.out e3 htw)
                clear htw
                go_wp2_with fail
                go_ret2
                exact ⟨⟨_, rfl, ⟨_, by rw [HR.out]; rfl, by rw [HR.out]; exact HOw7.out⟩⟩, HBW7.out⟩
          · have HR := hide (Json.read_no (obj_none HOO.out HP6.out (Or.inr e2)))
            have e2b : (I6 != (s.size : Int)) = true := by simpa using e2
            clear e2
            go_wp2_with fail
            go_ret2
            exact ⟨⟨_, rfl, RRef.nil HR.out⟩, HBW.out⟩
      · have g1 : ¬ (b : Int) < (s.size : Int) := by omega
        have g1d : decide ((b : Int) < (s.size : Int)) = false := decide_eq_false g1
        clear hin
        have HL0 := hide hL0
        clear hL0
        go_wp2_with fail
        refine (mark_at s _ 125 _ (by have := HS.out; omega) (b : Int) 125 HPL.out rfl).mono ?_
        rintro x w6 ⟨⟨I6, rfl, hp6⟩, hw6⟩
        obtain rfl := hw6
        have HP6 := hide hp6
        clear hp6
        by_cases e1 : I6 < 0
        · have HR := hide (Json.read_no (obj_none HOO.out HP6.out (Or.inl e1)))
          go_wp2_with fail
          go_ret2
          exact ⟨⟨_, rfl, RRef.nil HR.out⟩, HBW.out⟩
        · by_cases e2 : I6 = (s.size : Int)
          · have HOS := hide (obj_some HOO.out HP6.out HLL.out e1 e2)
            have e2b : (I6 != (s.size : Int)) = false := by simpa using e2
            have e1b : decide (I6 < 0) = false := decide_eq_false e1
            clear e2
            by_cases e3 : 32 < L.length
            · have HR := hide (Json.read_many HOS.out e3)
              exact absurd e3 (by have := HL0.out; omega)
            · skip
              have HLie := hide (lies_of_own HOw.out)
              go_wp2_with fail
              refine (refTwice_any _ L _ HLie.out (by omega)).mono ?_
              rintro x w7 ⟨rfl, hb7⟩
              have HBW7 := hide (HBW.out.trans (hb7.mono HBW.out.size))
              have HOw7 := hide (own_belowR HOw.out hb7)
              clear hb7
              cases htw : Json.twice L with
              | true =>
                have HR := hide (Json.read_twice HOS.out e3 htw)
                clear htw
                go_wp2_with fail
                go_ret2
                exact ⟨⟨_, rfl, RRef.nil HR.out⟩, HBW7.out⟩
              | false =>
                have HR := hide (Json.read_yes HOS.out e3 htw)
                clear htw
                go_wp2_with fail
                go_ret2
                exact ⟨⟨_, rfl, ⟨_, by rw [HR.out]; rfl, by rw [HR.out]; exact HOw7.out⟩⟩, HBW7.out⟩
          · have HR := hide (Json.read_no (obj_none HOO.out HP6.out (Or.inr e2)))
            have e2b : (I6 != (s.size : Int)) = true := by simpa using e2
            clear e2
            go_wp2_with fail
            go_ret2
            exact ⟨⟨_, rfl, RRef.nil HR.out⟩, HBW.out⟩
end Go.Proofs.YtkkgngmhdlmgnaaDoor.jw
