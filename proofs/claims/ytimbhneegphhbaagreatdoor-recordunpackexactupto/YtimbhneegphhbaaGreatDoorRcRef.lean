import Derived.Test.YtimbhneegphhbaaGreatDoorRcQuiet
import Derived.Test.YtimbhneegphhbaaGreatDoorRcCheck
import Derived.Test.YtimbhneegphhbaaGreatDoorRefUnUrl
import Derived.Test.YtimbhneegphhbaaGreatDoorRefScopes9
import Derived.Test.YtimbhneegphhbaaGreatDoorRefRed9
import Derived.Test.YtimbhneegphhbaaGreatDoorRedEq
namespace Go.Proofs.YtimbhneegphhbaaGreatDoor.pk
open Go.ChangeShapes Go.WideShapes Go.ChangeAt Go.RowKit Go.Proofs.YtimbhneegphhbaaGreatDoor.common

set_option maxHeartbeats 3200000 in
theorem refUnreserved_any (c : UInt8) (w : World) :
    Calls Tryz.prog 93 #[B c] w fun e w' => e = .returned (.bool (Pk.unb c)) ∧ w' = w := by
  have hc := c.toNat_lt
  have HR : Hid (Pk.unb c = decide ((65 ≤ c.toNat ∧ c.toNat ≤ 90) ∨ (97 ≤ c.toNat ∧ c.toNat ≤ 122) ∨ (48 ≤ c.toNat ∧ c.toNat ≤ 57) ∨ c.toNat = 45 ∨ c.toNat = 46 ∨ c.toNat = 95 ∨ c.toNat = 126)) := rfl
  generalize Pk.unb c = u at *
  unfold B
  generalize c.toNat = n at *
  by_cases e1 : n = 45
  · have := HR.out
    rw [decide_eq_true (by omega)] at this
    subst this e1
    clear HR
    go_enter Tryz.func93, Tryz.ntmps93
    go_wp2
    go_ret
    exact ⟨rfl, rfl⟩
  by_cases e2 : n = 46
  · have := HR.out
    rw [decide_eq_true (by omega)] at this
    subst this e2
    clear HR
    go_enter Tryz.func93, Tryz.ntmps93
    go_wp2
    go_ret
    exact ⟨rfl, rfl⟩
  by_cases e3 : n = 95
  · have := HR.out
    rw [decide_eq_true (by omega)] at this
    subst this e3
    clear HR
    go_enter Tryz.func93, Tryz.ntmps93
    go_wp2
    go_ret
    exact ⟨rfl, rfl⟩
  by_cases e4 : n = 126
  · have := HR.out
    rw [decide_eq_true (by omega)] at this
    subst this e4
    clear HR
    go_enter Tryz.func93, Tryz.ntmps93
    go_wp2
    go_ret
    exact ⟨rfl, rfl⟩
  have q1 : ((n : Int) == 45) = false := beq_false_of_ne (by omega)
  have q2 : ((n : Int) == 46) = false := beq_false_of_ne (by omega)
  have q3 : ((n : Int) == 95) = false := beq_false_of_ne (by omega)
  have q4 : ((n : Int) == 126) = false := beq_false_of_ne (by omega)
  have r1 : ¬ (n : Int) = 45 := by omega
  have r2 : ¬ (n : Int) = 46 := by omega
  have r3 : ¬ (n : Int) = 95 := by omega
  have r4 : ¬ (n : Int) = 126 := by omega
  have hu : u = decide ((65 ≤ n ∧ n ≤ 90) ∨ (97 ≤ n ∧ n ≤ 122) ∨ (48 ≤ n ∧ n ≤ 57)) := by
    rw [HR.out]
    exact decide_eq_decide.2 (by omega)
  clear HR
  by_cases h65 : (65 : Int) ≤ (n : Int) <;> by_cases h90 : (n : Int) ≤ 90 <;> (try (exfalso; omega)) <;>
  by_cases h97 : (97 : Int) ≤ (n : Int) <;> (try (exfalso; omega)) <;> by_cases h122 : (n : Int) ≤ 122 <;> (try (exfalso; omega)) <;>
  by_cases h48 : (48 : Int) ≤ (n : Int) <;> (try (exfalso; omega)) <;> by_cases h57 : (n : Int) ≤ 57 <;> (try (exfalso; omega))
  all_goals
    first
      | rw [decide_eq_true (by omega)] at hu
      | rw [decide_eq_false (by omega)] at hu
    subst hu
    clear e1 e2 e3 e4
    go_enter Tryz.func93, Tryz.ntmps93
    go_wp2
    go_ret
    first
      | exact ⟨rfl, rfl⟩
      | exact ⟨by simp_all, rfl⟩

set_option maxRecDepth 100000 in
set_option maxHeartbeats 1600000 in
theorem refVerifier_any (s : ByteArray) (w : World) :
    Calls Tryz.prog 73 #[.string s] w fun e w' => e = .returned (.bool (Pk.proof s.data.toList)) ∧ w' = w := by
  have HF := hide (fun c => refUnreserved_any c w)
  by_cases h1 : s.size < 43
  · have h1i : (s.size : Int) < 43 := by omega
    have HR : Hid (Pk.proof s.data.toList = false) := by
      show _ = _
      unfold Pk.proof
      rw [plen, decide_eq_false (by omega), Bool.false_and]
    go_enter Tryz.func73, Tryz.ntmps73
    go_wp2
    go_ret
    exact ⟨by rw [HR.out]; rfl, rfl⟩
  by_cases h2 : 128 < s.size
  · have h1i : ¬ (s.size : Int) < 43 := by omega
    have h2i : (128 : Int) < (s.size : Int) := by omega
    have HR : Hid (Pk.proof s.data.toList = false) := by
      show _ = _
      unfold Pk.proof
      rw [plen, decide_eq_false (by omega), Bool.false_and]
    go_enter Tryz.func73, Tryz.ntmps73
    go_wp2
    go_ret
    exact ⟨by rw [HR.out]; rfl, rfl⟩
  have h1i : ¬ (s.size : Int) < 43 := by omega
  have h2i : ¬ (128 : Int) < (s.size : Int) := by omega
  have HR : Hid (Pk.proof s.data.toList = s.data.toList.all Pk.unb) := by
    show _ = _
    unfold Pk.proof
    rw [plen, decide_eq_true (by omega), Bool.true_and]
  have HT : Hid (∀ k (_ : k < s.size), (s.data.toList.take (k + 1)).all Pk.unb = ((s.data.toList.take k).all Pk.unb && Pk.unb s[k])) := fun k h => Pk.all_take _ _ k (by simpa using h)
  have HE : Hid (s.data.toList.take s.size = s.data.toList) := ptake s
  have HA : Hid (∀ k, (s.data.toList.take k).all Pk.unb = false → s.data.toList.all Pk.unb = false) := fun k h => Pk.all_short _ _ k h
  go_enter Tryz.func73, Tryz.ntmps73
  go_wp2_with fail
  go_loopw [3] (fun i wr => ∃ k : Nat, k ≤ s.size ∧ i = .int .i64 k ∧ (s.data.toList.take k).all Pk.unb = true ∧ wr = w) (fun i _ => s.size - (intOf i).toNat)
  case atStart => exact ⟨0, Nat.zero_le _, rfl, by simp, rfl⟩
  case round =>
    obtain ⟨k, hk, rfl, ha, rfl⟩ := hrel
    have HAK := hide ha
    clear ha
    by_cases hlt : k < s.size
    · have hki : (k : Int) < (s.size : Int) := by omega
      have HTK := hide (HT.out k hlt)
      have HFK := hide (HF.out s[k])
      cases hp : Pk.unb s[k] with
      | true =>
        have HP := hide hp
        clear hp
        go_wp2_with fail
        refine HFK.out.mono ?_
        rintro x w2 ⟨rfl, rfl⟩
        rw [HP.out]
        go_wp2
        go_roundw
        case rel => exact ⟨k + 1, by omega, by go_num, by rw [HTK.out, HAK.out, HP.out]; rfl, by trivial⟩
        case measure => simp [intOf]; omega
      | false =>
        have HP := hide hp
        clear hp
        have HN : Hid (s.data.toList.all Pk.unb = false) := HA.out (k + 1) (by rw [HTK.out, HP.out, Bool.and_false])
        go_wp2_with fail
        refine HFK.out.mono ?_
        rintro x w2 ⟨rfl, rfl⟩
        rw [HP.out]
        go_wp2
        go_ret
        exact ⟨by rw [HR.out, HN.out]; rfl, rfl⟩
    · obtain rfl : k = s.size := by omega
      rw [HE.out] at HAK
      go_wp2
      go_ret
      exact ⟨by rw [HR.out, HAK.out]; rfl, rfl⟩

end Go.Proofs.YtimbhneegphhbaaGreatDoor.pk

namespace Go.Proofs.YtimbhneegphhbaaGreatDoor.rc
open Go.ChangeShapes Go.WideShapes Go.ChangeAt Go.RowKit Go.Proofs.YtimbhneegphhbaaGreatDoor.common Go.Proofs.YtimbhneegphhbaaGreatDoor.bk Go.Proofs.YtimbhneegphhbaaGreatDoor.ss
attribute [local go_sem ↓] Go.wp_at_zero Go.wp_at_succ

set_option maxHeartbeats 1600000 in
theorem refIdent_any (s : ByteArray) (w : World) (hs : s.size ≤ 1048576) :
    Calls Tryz.prog 50 #[.string s] w fun e w' => e = .returned (.bool (idB s)) ∧ Below w.heap.size w w' := by
  have HU := hide (radw.refUnUrl_any s w hs)
  have hln : (⟨(Rad.un64 Rad.urlT s.data.toList).toArray⟩ : ByteArray).size = (Rad.un64 Rad.urlT s.data.toList).length := by simp [ByteArray.size]
  have HI := hide (idB_iff s)
  have HN : Hid (¬ idP s → idB s = false) := fun h => idB_not h
  have HP : Hid (idP s ↔ (Rad.valid Rad.urlT 64 s.data.toList ∧ Rad.restOk Rad.urlT s.data.toList) ∧ (Rad.un64 Rad.urlT s.data.toList).length = 32) := Iff.rfl
  generalize idB s = t at *
  go_enter Tryz.func50, Tryz.ntmps50
  go_wp2_with fail
  refine HU.out.mono ?_
  rintro x w2 ⟨b2, ⟨hv, rfl⟩ | ⟨hv, rfl⟩⟩
  · have HV := hide hv
    have HB := hide b2
    generalize (⟨(Rad.un64 Rad.urlT s.data.toList).toArray⟩ : ByteArray) = q at *
    by_cases h32 : q.size = 32
    · have hq : ((q.size : Int) == 32) = true := by rw [h32]; rfl
      have HT : Hid (t = true) := HI.out.2 (HP.out.2 ⟨HV.out, by rw [← hln]; exact h32⟩)
      clear h32 hln hv b2
      go_wp2_with fail
      go_ret
      exact ⟨by rw [HT.out]; rfl, HB.out⟩
    · have hq : ((q.size : Int) == 32) = false := beq_false_of_ne (by omega)
      have HT : Hid (t = false) := HN.out (fun h => h32 (by rw [hln]; exact (HP.out.1 h).2))
      clear h32 hln hv b2
      go_wp2_with fail
      go_ret
      exact ⟨by rw [HT.out]; rfl, HB.out⟩
  · have HT : Hid (t = false) := HN.out (fun h => hv (HP.out.1 h).1)
    have HB := hide b2
    clear hv b2
    go_wp2_with fail
    go_ret
    exact ⟨by rw [HT.out]; rfl, HB.out⟩

def eit (a b c : Bool) : Bool := if a then b else c
theorem either_any (a b c : Bool) (w : World) : Calls Tryz.prog 55 #[.bool a, .bool b, .bool c] w fun e w' => e = .returned (.bool (eit a b c)) ∧ w' = w := by
  cases a with
  | true =>
    go_enter Tryz.func55, Tryz.ntmps55
    go_wp2
    go_ret
    exact ⟨rfl, rfl⟩
  | false =>
    go_enter Tryz.func55, Tryz.ntmps55
    go_wp2
    go_ret
    exact ⟨rfl, rfl⟩
theorem refChal_any (s : ByteArray) (w : World) : Calls Tryz.prog 53 #[.string s] w fun e w' => e = .returned (.bool (Pk.proof s.data.toList)) ∧ w' = w := by
  have H := hide (pk.refVerifier_any s w)
  go_enter Tryz.func53, Tryz.ntmps53
  go_wp2_with (go_at_call 73; refine H.out.mono ?_; rintro x w2 ⟨rfl, rfl⟩)
  go_ret
  exact ⟨rfl, rfl⟩

/-- the program's word for a scope, by what the document's Scopes answers -/
theorem oneSc_iff (s : ByteArray) : oneSc s = (decide (tm.scN s = 0) && decide (tm.scL s = [s])) := by
  unfold oneSc tm.scN
  cases tm.areSc s <;> cases tm.many s <;> simp
theorem fitL_yes {l : List ByteArray} (h0 : 0 < l.length) (h1 : l.length ≤ 16) (h2 : ∀ j (h : j < l.length), oneSc l[j] = true) (h3 : risB l = true) : fitL true l = true := by
  have h4 : (l.any fun s => !oneSc s) = false := by
    rw [List.any_eq_false]
    intro s hs
    obtain ⟨j, hj, rfl⟩ := List.mem_iff_getElem.1 hs
    simp [h2 j hj]
  simp [fitL, h0, h1, h3, h4]
theorem fitL_bad {l : List ByteArray} (j : Nat) (h : j < l.length) (h2 : oneSc l[j] = false) : fitL true l = false := by
  have h4 : (l.any fun s => !oneSc s) = true := List.any_eq_true.2 ⟨_, List.getElem_mem h, by simp [h2]⟩
  simp [fitL, h4]
theorem fitL_fall {l : List ByteArray} (h : risB l = false) : fitL true l = false := by simp [fitL, h]
theorem one_of {l : List ByteArray} (h : l.length = 1) : ∃ t, l = [t] := by
  cases l with
  | nil => cases h
  | cons a r =>
    cases r with
    | nil => exact ⟨a, rfl⟩
    | cons c r => simp at h
theorem wrap_sub (k m : Nat) (h : k = m + 1) (hk : k ≤ 4611686018427387904) : IntKind.i64.wrap ((k : Int) - 1) = (m : Int) := by rw [IntKind.wrap_i64]; omega

set_option maxRecDepth 100000 in
set_option maxHeartbeats 6400000 in
theorem scopesMayBe_any (v : Value) (l : List ByteArray) (w : World) (hL : Lies w v l) (hl : l.length ≤ 4611686018427387904) (hs : ∀ s ∈ l, s.size ≤ 4294967200) :
    Calls Tryz.prog 54 #[v] w fun e w' => e = .returned (.bool (fitL true l)) ∧ Below w.heap.size w w' := by
  have HL := hide hL
  obtain ⟨oa, cap, rfl⟩ := Lies.len hL
  have HS := hide hs
  clear hL hs
  by_cases h0 : l.length < 1
  · have h0i : (l.length : Int) < 1 := by omega
    have HR : Hid (fitL true l = false) := by show fitL true l = false; have : ¬ 0 < l.length := by omega
                                              simp [fitL, this]
    go_enter Tryz.func54, Tryz.ntmps54
    go_wp2_with fail
    go_ret
    exact ⟨by rw [HR.out]; rfl, Below.refl _ _⟩
  by_cases h1 : 16 < l.length
  · have h0i : ¬ (l.length : Int) < 1 := by omega
    have h1i : (16 : Int) < (l.length : Int) := by omega
    have HR : Hid (fitL true l = false) := by show fitL true l = false; have : ¬ l.length ≤ 16 := by omega
                                              simp [fitL, this]
    go_enter Tryz.func54, Tryz.ntmps54
    go_wp2_with fail
    go_ret
    exact ⟨by rw [HR.out]; rfl, Below.refl _ _⟩
  have h0i : ¬ (l.length : Int) < 1 := by omega
  have h1i : ¬ (16 : Int) < (l.length : Int) := by omega
  have HYES : Hid ((∀ j (h : j < l.length), oneSc l[j] = true) → ris l (l.length - 1) → fitL true l = true) := fun h2 h3 => fitL_yes (by omega) (by omega) h2 (decide_eq_true (fun i k1 k2 => h3 i (by omega) k2))
  have HBAD : Hid (∀ j (h : j < l.length), oneSc l[j] = false → fitL true l = false) := fun j h h2 => fitL_bad j h h2
  have HFALL : Hid (∀ i, i + 1 < l.length → ¬ (l.getD i ByteArray.empty).data.toList < (l.getD (i + 1) ByteArray.empty).data.toList → fitL true l = false) := fun i k1 k2 => fitL_fall (decide_eq_false (fun h => k2 (h i (by omega) k1)))
  generalize fitL true l = M at *
  go_enter Tryz.func54, Tryz.ntmps54
  go_wp2_with fail
  go_loopw [3] (fun i wr => ∃ k : Nat, k ≤ l.length ∧ i = .int .i64 k ∧ (∀ j (h : j < l.length), j < k → oneSc l[j] = true) ∧ ris l (k - 1) ∧ Below w.heap.size w wr) (fun i _ => l.length - (intOf i).toNat)
  case atStart => exact ⟨0, Nat.zero_le _, rfl, fun j _ h => absurd h (Nat.not_lt_zero _), fun i h => absurd h (Nat.not_lt_zero _), Below.refl _ _⟩
  case round =>
    obtain ⟨k, hk, rfl, ho, hr, hnx⟩ := hrel
    have HO := hide ho
    have HR := hide hr
    have HX := hide hnx
    by_cases hlt : k < l.length
    · have k1 : (k : Int) < (l.length : Int) := by omega
      have k0 : (0 : Int) ≤ (k : Int) := Int.natCast_nonneg _
      obtain ⟨_, _, hv, hc⟩ := HL.out.below hnx
      cases hv
      obtain ⟨b, o, rfl, hb, c0⟩ := hc k hlt
      have HSC := hide (tm.refScopes_any l[k] wr (HS.out _ (List.getElem_mem hlt)))
      have HBK := hide (HBAD.out k hlt)
      have HOI := hide (oneSc_iff l[k])
      have HOK : Hid (oneSc l[k] = true → ∀ j (h : j < l.length), j < k + 1 → oneSc l[j] = true) := fun h j h1 h2 => by
        by_cases hj : j < k
        · exact HO.out j h1 hj
        · obtain rfl : j = k := by omega
          exact h
      have HCC : Hid (∀ X, Below wr.heap.size wr X → X.cell? ⟨b, o + k, none⟩ = some (.string l[k])) := fun X hX => (hX.cell (p := ⟨b, o + k, none⟩) hb).trans c0
      have HPV : Hid (∀ m, k = m + 1 → (∀ X, Below wr.heap.size wr X → X.cell? ⟨b, o + m, none⟩ = some (.string (l.getD m ByteArray.empty)))) := fun m hm X hX => by
        obtain ⟨b', o', he, hb', c1⟩ := hc m (by omega)
        cases he
        rw [getD_at l m (by omega)]
        exact (hX.cell (p := ⟨b, o + m, none⟩) hb).trans c1
      have HKE : Hid (l.getD k ByteArray.empty = l[k]) := getD_at l k hlt
      generalize l[k]'hlt = s at *
      clear ho hr hnx hc
      go_wp2_with fail
      refine HSC.out.mono ?_
      rintro x w2 ⟨v1, rfl, ho1, b2⟩
      have HB2 := hide b2
      have HL1 := hide (lies_of_own ho1)
      have HBW : Hid (Below w.heap.size w w2) := keepW HX.out b2
      have d0 := HCC.out w2 b2
      obtain ⟨o1, ca1, rfl⟩ := Lies.len HL1.out
      clear ho1 b2 HSC c0
      by_cases hn : tm.scN s = 0
      · have q1 : ((tm.scN s) == 0) = true := by rw [hn]; rfl
        have HN0 := hide hn
        generalize tm.scL s = L at *
        by_cases hl1 : L.length = 1
        · obtain ⟨t, rfl⟩ := one_of hl1
          obtain ⟨_, _, hv1, hc1⟩ := HL1.out
          cases hv1
          obtain ⟨b1, oo1, he1, _, d1⟩ := hc1 0 (by simp)
          subst he1
          simp only [Nat.add_zero, List.getElem_cons_zero] at d1
          simp only [List.length_cons, List.length_nil, Nat.zero_add] at *
          clear hc1 hl1
          by_cases hts : t = s
          · subst hts
            have HONE : Hid (oneSc t = true) := by show oneSc t = true; rw [HOI.out, HN0.out]; simp
            clear HOI HBK
            rw [hn]
            clear hn q1
            go_wp2_with fail
            go_quiet (fail)
            go_wp2_with fail
            by_cases hk0 : k = 0
            · have k2 : ¬ (0 : Int) < (k : Int) := by omega
              have k3 : decide ((0 : Int) < (k : Int)) = false := decide_eq_false k2
              have k4 : decide (0 < k) = false := decide_eq_false (by omega)
              have k5 : ¬ 0 < k := by omega
              have HK0 := hide hk0
              clear hk0
              go_quiet (fail)
              go_wp2_with fail
              go_roundw
              case rel => exact ⟨k + 1, by omega, by go_num, HOK.out HONE.out, fun i h => absurd h (by have := HK0.out; omega), bdN' HBW.out _⟩
              case measure => simp [intOf]; omega
            · obtain ⟨m, hm⟩ : ∃ m, k = m + 1 := ⟨k - 1, by omega⟩
              have k2 : (0 : Int) < (k : Int) := by omega
              have k3 : decide ((0 : Int) < (k : Int)) = true := decide_eq_true k2
              have k4 : decide (0 < k) = true := decide_eq_true (by omega)
              have k5 : 0 < k := by omega
              have d2 := HPV.out m hm w2 HB2.out
              have hw := wrap_sub k m hm (by omega)
              have m0 : (0 : Int) ≤ (m : Int) := Int.natCast_nonneg _
              have m1 : (m : Int) < (l.length : Int) := by omega
              have hg := lessB (l.getD m ByteArray.empty) t
              have HFK := hide (HFALL.out m (by omega))
              have HRK : Hid ((l.getD m ByteArray.empty).data.toList < t.data.toList → ris l (k + 1 - 1)) := fun h i h1 h2 => by
                by_cases hi : i < k - 1
                · exact HR.out i hi h2
                · obtain rfl : i = m := by omega
                  rw [← hm, HKE.out]; exact h
              rw [← hm, HKE.out] at HFK
              generalize l.getD m ByteArray.empty = q at *
              by_cases hlq : q.data.toList < t.data.toList
              · rw [decide_eq_true hlq] at hg
                have HQ := hide (HRK.out hlq)
                clear hlq hk0 HFK HRK
                have HM := hide hm
                clear hm
                go_quiet (fail)
                go_wp2_with fail
                go_roundw
                case rel => exact ⟨k + 1, by omega, by go_num, HOK.out HONE.out, HQ.out, bdN' HBW.out _⟩
                case measure => simp [intOf]; omega
              · rw [decide_eq_false hlq] at hg
                have HQ := hide (HFK.out hlq)
                clear hlq hk0 HFK HRK
                have HM := hide hm
                clear hm
                go_quiet (fail)
                go_wp2_with fail
                go_ret
                exact ⟨by rw [HQ.out]; rfl, bdN' (bdN' HBW.out _) _⟩
          · have HF : Hid (M = false) := HBK.out (by rw [HOI.out]; simp [hts])
            have hne : (t.toList == s.toList) = false := beq_false_of_ne (fun h => hts (ba_ext (by rw [ByteArray.toList_eq, ByteArray.toList_eq] at h; exact h)))
            clear HOI HBK hts
            rw [hn]
            clear hn q1
            go_wp2_with fail
            go_quiet (fail)
            go_wp2_with fail
            go_ret
            exact ⟨by rw [HF.out]; rfl, bdN' HBW.out nq⟩
        · have HF : Hid (M = false) := HBK.out (by rw [HOI.out]; simp; intro _ h; exact hl1 (by rw [h]; rfl))
          have hne : ((L.length : Int) == 1) = false := beq_false_of_ne (by omega)
          have hne2 : ((L.length : Int) != 1) = true := by rw [bne, hne]; rfl
          have hne3 : (L.length == 1) = false := beq_false_of_ne (by omega)
          have hne4 : ¬ L.length = 1 := hl1
          clear HOI HBK hl1
          rw [hn]
          clear hn q1
          go_wp2_with fail
          go_quiet (fail)
          go_wp2_with fail
          go_ret
          exact ⟨by rw [HF.out]; rfl, bdN' HBW.out nq⟩
      · have HF : Hid (M = false) := HBK.out (by rw [HOI.out]; simp [hn])
        have hne : (tm.scN s == 0) = false := beq_false_of_ne hn
        have hne2 : (tm.scN s != 0) = true := by rw [bne, hne]; rfl
        clear HOI HBK
        generalize tm.scN s = nn at *
        go_wp2_with fail
        go_quiet (fail)
        go_wp2_with fail
        go_ret
        exact ⟨by rw [HF.out]; rfl, bdN' HBW.out nq⟩
    · have k1 : ¬ (k : Int) < (l.length : Int) := by omega
      have HF : Hid (M = true) := HYES.out (fun j h => ho j h (by omega)) (fun i h1 h2 => hr i (by omega) h2)
      clear ho hr hnx
      go_wp2_with fail
      go_ret
      exact ⟨by rw [HF.out]; rfl, HX.out⟩
end Go.Proofs.YtimbhneegphhbaaGreatDoor.rc
