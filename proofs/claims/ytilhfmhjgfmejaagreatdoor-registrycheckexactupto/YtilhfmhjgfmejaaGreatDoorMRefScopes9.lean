import Derived.Test.YtilhfmhjgfmejaaGreatDoorMLeastW
import Derived.Test.YtilhfmhjgfmejaaGreatDoorMStrHas
namespace Go.Proofs.YtilhfmhjgfmejaaGreatDoor.tm
open Go.ChangeShapes Go.WideShapes Go.ChangeAt Go.RowKit Go.Proofs.YtilhfmhjgfmejaaGreatDoor.common Go.Proofs.YtilhfmhjgfmejaaGreatDoor.bk
open Go.Proofs.YtilhfmhjgfmejaaGreatDoor.ss (sc Lies)
attribute [local go_sem ↓] Go.wp_at_zero Go.wp_at_succ

theorem least_next {l R : List ByteArray} (hR : R.Pairwise fun a b => a.data.toList < b.data.toList) (hm : ∀ x, x ∈ R ↔ x ∈ l) {i : Nat} (hi : i ≤ R.length) {last best : ByteArray} {first found : Bool} (hf : first = decide (i = 0)) (hl : ∀ (_ : i ≠ 0) (h : i - 1 < R.length), last = R[i - 1]) (H : Least l last first best found) :
    (found = false → i = R.length) ∧ (found = true → ∃ h : i < R.length, best = R[i]) := by
  have hab : ∀ j (h : j < R.length), i ≤ j → above last first R[j] = true := by
    intro j h hij
    unfold above
    rw [hf]
    by_cases h0 : i = 0
    · simp [h0]
    · have e := hl h0 (by omega)
      rw [decide_eq_false h0, Bool.false_or, e]
      exact decide_eq_true (List.pairwise_iff_getElem.1 hR (i - 1) j (by omega) h (by omega))
  constructor
  · intro hfo
    rcases Nat.lt_or_ge i R.length with h | h
    · have := H.no hfo R[i] ((hm _).1 (List.getElem_mem h))
      rw [hab i h (Nat.le_refl _)] at this; cases this
    · omega
  · intro hfo
    obtain ⟨j, hj, ej⟩ := List.mem_iff_getElem.1 ((hm best).2 (H.mem hfo))
    have hij : i ≤ j := by
      have h1 := H.ab hfo
      unfold above at h1
      rw [hf] at h1
      by_cases h0 : i = 0
      · omega
      · have e := hl h0 (by omega)
        rw [decide_eq_false h0, Bool.false_or, e, ← ej] at h1
        have h2 := of_decide_eq_true h1
        rcases Nat.lt_or_ge j i with hlt | hge
        · exfalso
          by_cases hje : j = i - 1
          · subst hje; exact Tm.lt_irr _ h2
          · exact Tm.lt_irr _ (Tm.lt_tr h2 (List.pairwise_iff_getElem.1 hR j (i - 1) hj (by omega) (by omega)))
        · exact hge
    refine ⟨by omega, ?_⟩
    have hlow := H.low hfo R[i] ((hm _).1 (List.getElem_mem (by omega))) (hab i (by omega) (Nat.le_refl _))
    rcases Nat.lt_or_ge i j with hlt | hge
    · exact absurd (by rw [← ej]; exact List.pairwise_iff_getElem.1 hR i j (by omega) hj hlt) hlow
    · have : i = j := by omega
      subst this; exact ej.symm

theorem own_mono {w : World} {b b' : Nat} {t : TypeId} {z : Nat} {v : Value} {n : Nat} {xs : List Value} (h : w.ownsRow b t z v n xs) (hb : b' ≤ b) : w.ownsRow b' t z v n xs := by
  refine ⟨h.1, ?_⟩
  rcases h.2 with hh | ⟨g, cap, cur, hv, hg, hr⟩
  · exact Or.inl hh
  · exact Or.inr ⟨g, cap, cur, hv, Nat.le_trans hb hg, hr⟩
/-- the number of the answer -/
def scN (s : ByteArray) : Int := if areSc s then (if many s then 3 else 0) else 2

set_option maxRecDepth 100000 in
set_option maxHeartbeats 6400000 in
theorem refScopes_any (s : ByteArray) (w : World) (hs : s.size ≤ 4294967200) :
    Calls Tryz.prog 81 #[.string s] w fun e w' => ∃ v, e = .returned (.tuple #[v, .int .i64 (scN s)]) ∧ w'.ownsRow w.heap.size 9 1 v (scL s).length (sc (scL s)) ∧ Below w.heap.size w w' := by
  obtain ⟨i0, hi, hz0, hz1, hz2⟩ := info_parts ss.infoS
  have HPL := hide (parts_le 32 s)
  have HPZ : Hid (∀ x ∈ tsq.parts 32 s, x.size ≤ 4611686018427387904) := by
    intro x hx
    have : ∀ (l : List UInt8) (y : List UInt8), y ∈ Tm.split 32 l → y.length ≤ l.length := by
      intro l
      induction l with
      | nil => intro y hy; simp [Tm.split] at hy; subst hy; exact Nat.le_refl _
      | cons c r ih =>
        intro y hy
        rw [Tm.split_cons] at hy
        by_cases hc : c = 32
        · rw [if_pos hc] at hy
          rcases List.mem_cons.1 hy with rfl | hy
          · exact Nat.zero_le _
          · exact Nat.le_succ_of_le (ih y hy)
        · rw [if_neg hc] at hy
          cases hsp : Tm.split 32 r with
          | nil => exact absurd hsp (Tm.split_ne 32 r)
          | cons u t =>
            rw [hsp] at hy
            rcases List.mem_cons.1 hy with rfl | hy
            · have := ih u (by rw [hsp]; exact List.mem_cons_self ..)
              simpa using this
            · exact Nat.le_succ_of_le (ih y (by rw [hsp]; exact List.mem_cons_of_mem _ hy))
    unfold tsq.parts at hx
    obtain ⟨y, hy, rfl⟩ := List.mem_map.1 hx
    have h1 := this _ y hy
    rw [len_list] at h1
    rw [str_size]; omega
  go_enter Tryz.func81, Tryz.ntmps81
  go_wp2_with fail
  refine (refParts_any s w hs).mono ?_
  rintro x w1 ⟨v1, rfl, ho1, hb1⟩
  have L1 := hide (ss.lies_of_own ho1)
  have B1 := hide hb1
  clear ho1 hb1
  obtain ⟨o1, c1, rfl, hc1⟩ := L1.out
  have HC := hide hc1
  clear hc1
  have HA : Hid (∀ k, ((tsq.parts 32 s).take k).all isSc = false → areSc s = false) := fun k h => ss.all_shortS _ _ k h
  have HT : Hid (∀ k (h : k < (tsq.parts 32 s).length), ((tsq.parts 32 s).take (k + 1)).all isSc = (((tsq.parts 32 s).take k).all isSc && isSc (tsq.parts 32 s)[k])) := fun k h => ss.all_takeS _ _ k h
  have HD : Hid (areSc s = (tsq.parts 32 s).all isSc) := rfl
  have hplen := HPL.out
  have HRL := hide (riseB_lt (tsq.parts 32 s))
  have HRM : Hid (∀ x, x ∈ riseB (tsq.parts 32 s) ↔ x ∈ tsq.parts 32 s) := fun x => mem_riseB
  have HMN : Hid (many s = decide (16 < (riseB (tsq.parts 32 s)).length)) := rfl
  have HSL : Hid (∀ a b, areSc s = a → many s = b → scL s = if a && !b then riseB (tsq.parts 32 s) else []) := by intro a b h1 h2; unfold scL; rw [h1, h2]
  have HSN : Hid (∀ a b, areSc s = a → many s = b → scN s = if a then (if b then 3 else 0) else 2) := by intro a b h1 h2; unfold scN; rw [h1, h2]
  generalize tsq.parts 32 s = P at *
  generalize riseB P = R at *
  go_wp2_with fail
  go_loopw [5] (fun i wr => ∃ k : Nat, k ≤ P.length ∧ i = .int .i64 k ∧ Hid ((P.take k).all isSc = true) ∧ w1 = wr) (fun i _ => P.length - (intOf i).toNat)
  case atStart => exact ⟨0, Nat.zero_le _, rfl, by show _ = _; simp, rfl⟩
  case round =>
    obtain ⟨k, hk, rfl, HAK, rfl⟩ := hrel
    by_cases hlt : k < P.length
    · have hki : (k : Int) < (P.length : Int) := by omega
      obtain ⟨b, o, rfl, hb, c0⟩ := HC.out k hlt
      have HTK := hide (HT.out k hlt)
      have HRS := hide (refScope_any P[k] w1 (HPZ.out _ (List.getElem_mem hlt)))
      generalize P[k] = p at *
      cases hp : isSc p with
      | true =>
        have R1 : Hid ((P.take (k + 1)).all isSc = true) := by show _ = _; rw [HTK.out, HAK.out, hp]; rfl
        rw [hp] at HRS
        clear hp
        go_wp2_with (go_at_call 101; refine HRS.out.mono ?_; rintro x w2 ⟨rfl, hw2⟩; obtain rfl := hw2.symm)
        go_roundw
        case rel => exact ⟨k + 1, by omega, by go_num, R1, by trivial⟩
        case measure => simp [intOf]; omega
      | false =>
        have hna : areSc s = false := HA.out (k + 1) (by rw [HTK.out, hp, Bool.and_false])
        have S1 := hide (HSL.out false _ hna rfl)
        have S2 := hide (HSN.out false _ hna rfl)
        rw [hp] at HRS
        clear hp hna
        go_wp2_with (go_at_call 101; refine HRS.out.mono ?_; rintro x w2 ⟨rfl, hw2⟩; obtain rfl := hw2.symm)
        refine bodyPost_ret (results_tmp2 rfl _ _ _) rfl ⟨.slice none 0 0, ?_, ?_, B1.out⟩
        · rw [S2.out]; rfl
        · rw [S1.out]; exact World.ownsRow_nil _ _ _ _
    · obtain rfl : k = P.length := by omega
      have HAR : Hid (areSc s = true) := by have := HAK.out; rw [List.take_length] at this; show _ = _; rw [HD.out]; exact this
      clear HAK HT HA HD
      go_wp2_with fail
      go_loopw [7, 8, 9] (fun v x i wx => ∃ (k : Nat) (last : ByteArray), k ≤ 17 ∧ k ≤ R.length ∧ i = .int .i64 k ∧ x = .string last ∧ Hid (∀ (_ : k ≠ 0) (h : k - 1 < R.length), last = R[k - 1]) ∧ Hid (wx.ownsRow w1.heap.size 9 1 v (R.take k).length (sc (R.take k))) ∧ Hid (Below w1.heap.size w1 wx)) (fun _ _ i _ => 17 - (intOf i).toNat)
      case atStart => exact ⟨0, ⟨#[]⟩, by omega, Nat.zero_le _, rfl, rfl, fun h => absurd rfl h, by rw [List.take_zero]; exact World.ownsRow_nil _ _ _ _, Below.refl _ _⟩
      case round =>
        obtain ⟨k, last, hk17, hk, rfl, rfl, HLA, HO, HB⟩ := hrel
        obtain ⟨oo, on, oc, rfl⟩ : ∃ oa n cap, u7 = .slice oa n cap := by
          rcases HO.out.2 with ⟨h, _⟩ | ⟨g, cap, cur, h, _⟩
          · exact ⟨none, 0, 0, h⟩
          · exact ⟨_, _, cap, h⟩
        by_cases hle : k ≤ 16
        · have hlei : (k : Int) ≤ 16 := by omega
          by_cases hk0 : k = 0
          · have hk0i : (k : Int) = 0 := by omega
            have hk0b : ((k : Int) == 0) = true := beq_iff_eq.2 hk0i
            have hkd : decide ((k : Int) = 0) = true := decide_eq_true hk0i
            go_wp2_with fail
            refine (least_any _ P last true wr (L1.out.below HB.out) (by omega)).mono ?_
            rintro x w2 ⟨best, found, rfl, HLS, hw2⟩
            obtain rfl := hw2.symm
            obtain ⟨n1, n2⟩ := least_next HRL.out HRM.out hk (first := true) ((decide_eq_true hk0).symm) (fun h h' => HLA.out h h') HLS
            clear HLS
            cases found with
            | false =>
              have hkR := n1 rfl
              have hmf : many s = false := by rw [HMN.out]; exact decide_eq_false (by omega)
              have S1 := hide (HSL.out true false HAR.out hmf)
              have S2 := hide (HSN.out true false HAR.out hmf)
              have O2 : Hid (wr.ownsRow w.heap.size 9 1 (.slice oo on oc) R.length (sc R)) := by
                have := own_mono HO.out B1.out.size
                rw [hkR, List.take_length] at this
                exact this
              clear hmf n1 n2
              go_wp2_with fail
              refine bodyPost_ret (results_tmp2 rfl _ _ _) rfl ⟨.slice oo on oc, ?_, ?_, keepD B1.out HB.out⟩
              · rw [S2.out]; rfl
              · rw [S1.out]; exact O2.out
            | true =>
              obtain ⟨hkR, hbest⟩ := n2 rfl
              clear n1 n2
              have hown := HO.out
              have hsz := HB.out.size
              have HTS : Hid (R.take (k + 1) = R.take k ++ [best]) := by show _ = _; rw [hbest]; exact ss.takeS R k hkR
              have htl : (R.take k).length = k := by rw [List.length_take]; omega
              have HTL := hide htl
              clear htl
              have HLN : Hid (∀ (_ : k + 1 ≠ 0) (h : k + 1 - 1 < R.length), best = R[k + 1 - 1]) := fun _ _ => hbest
              clear hbest
              generalize R.take k = q at *
              have hql : q.length ≤ 16 := by have := HTL.out; omega
              go_wp2_with (at_builtin; refine wpList_append_own _ rfl _ _ 43 rfl w1.heap.size 9 i0 (.string ⟨#[]⟩) 1 16 Tryz.underlying43 hi hz0 hz1 hz2 rfl (by decide) _ _ _ rfl (hown.alloc _) ⟨wr.heap.size, 0, none⟩ 1 1 [.string best] rfl rfl (bk.cell_one_new _ _ _) ?c2 ?c3 ?c4 ?c5 ?_)
              case c2 => first | rfl | (intro u hu; simp at hu; rcases hu with rfl; rfl)
              case c3 => unfold maxLen; omega
              case c4 => omega
              case c5 => have := B1.out.size; first | omega | (simp; omega)
              intro v' w3 hown' hgrow _
              have R1 : Hid (w3.ownsRow w1.heap.size 9 1 v' (R.take (k + 1)).length (sc (R.take (k + 1)))) := by
                show w3.ownsRow _ _ _ _ _ _
                rw [HTS.out, List.length_append]
                show w3.ownsRow _ _ _ _ _ (List.map Value.string (q ++ [best]))
                rw [List.map_append]; exact hown'
              have R2 : Hid (Below w1.heap.size w1 w3) := (HB.out.alloc hsz _).grown hgrow (by simp; omega) (fun b' h' => by have := (hown.lt b' h').1; exact this)
              clear hown' hgrow hown
              go_wp2
              go_roundw
              case rel => exact ⟨k + 1, best, by omega, by omega, by go_num, rfl, HLN, R1, R2⟩
              case measure => simp [intOf]; omega
          · have hk0i : ¬ (k : Int) = 0 := by omega
            have hk0b : ((k : Int) == 0) = false := beq_false_of_ne hk0i
            have hkd : decide ((k : Int) = 0) = false := decide_eq_false hk0i
            go_wp2_with fail
            refine (least_any _ P last false wr (L1.out.below HB.out) (by omega)).mono ?_
            rintro x w2 ⟨best, found, rfl, HLS, hw2⟩
            obtain rfl := hw2.symm
            obtain ⟨n1, n2⟩ := least_next HRL.out HRM.out hk (first := false) ((decide_eq_false hk0).symm) (fun h h' => HLA.out h h') HLS
            clear HLS
            cases found with
            | false =>
              have hkR := n1 rfl
              have hmf : many s = false := by rw [HMN.out]; exact decide_eq_false (by omega)
              have S1 := hide (HSL.out true false HAR.out hmf)
              have S2 := hide (HSN.out true false HAR.out hmf)
              have O2 : Hid (wr.ownsRow w.heap.size 9 1 (.slice oo on oc) R.length (sc R)) := by
                have := own_mono HO.out B1.out.size
                rw [hkR, List.take_length] at this
                exact this
              clear hmf n1 n2
              go_wp2_with fail
              refine bodyPost_ret (results_tmp2 rfl _ _ _) rfl ⟨.slice oo on oc, ?_, ?_, keepD B1.out HB.out⟩
              · rw [S2.out]; rfl
              · rw [S1.out]; exact O2.out
            | true =>
              obtain ⟨hkR, hbest⟩ := n2 rfl
              clear n1 n2
              have hown := HO.out
              have hsz := HB.out.size
              have HTS : Hid (R.take (k + 1) = R.take k ++ [best]) := by show _ = _; rw [hbest]; exact ss.takeS R k hkR
              have htl : (R.take k).length = k := by rw [List.length_take]; omega
              have HTL := hide htl
              clear htl
              have HLN : Hid (∀ (_ : k + 1 ≠ 0) (h : k + 1 - 1 < R.length), best = R[k + 1 - 1]) := fun _ _ => hbest
              clear hbest
              generalize R.take k = q at *
              have hql : q.length ≤ 16 := by have := HTL.out; omega
              go_wp2_with (at_builtin; refine wpList_append_own _ rfl _ _ 43 rfl w1.heap.size 9 i0 (.string ⟨#[]⟩) 1 16 Tryz.underlying43 hi hz0 hz1 hz2 rfl (by decide) _ _ _ rfl (hown.alloc _) ⟨wr.heap.size, 0, none⟩ 1 1 [.string best] rfl rfl (bk.cell_one_new _ _ _) ?c2 ?c3 ?c4 ?c5 ?_)
              case c2 => first | rfl | (intro u hu; simp at hu; rcases hu with rfl; rfl)
              case c3 => unfold maxLen; omega
              case c4 => omega
              case c5 => have := B1.out.size; first | omega | (simp; omega)
              intro v' w3 hown' hgrow _
              have R1 : Hid (w3.ownsRow w1.heap.size 9 1 v' (R.take (k + 1)).length (sc (R.take (k + 1)))) := by
                show w3.ownsRow _ _ _ _ _ _
                rw [HTS.out, List.length_append]
                show w3.ownsRow _ _ _ _ _ (List.map Value.string (q ++ [best]))
                rw [List.map_append]; exact hown'
              have R2 : Hid (Below w1.heap.size w1 w3) := (HB.out.alloc hsz _).grown hgrow (by simp; omega) (fun b' h' => by have := (hown.lt b' h').1; exact this)
              clear hown' hgrow hown
              go_wp2
              go_roundw
              case rel => exact ⟨k + 1, best, by omega, by omega, by go_num, rfl, HLN, R1, R2⟩
              case measure => simp [intOf]; omega
        · have hlei : ¬ (k : Int) ≤ 16 := by omega
          have hmt : many s = true := by rw [HMN.out]; exact decide_eq_true (by omega)
          have S1 := hide (HSL.out true true HAR.out hmt)
          have S2 := hide (HSN.out true true HAR.out hmt)
          clear hmt
          go_wp2_with fail
          refine bodyPost_ret (results_tmp2 rfl _ _ _) rfl ⟨.slice none 0 0, ?_, ?_, keepD B1.out HB.out⟩
          · rw [S2.out]; rfl
          · rw [S1.out]; exact World.ownsRow_nil _ _ _ _

end Go.Proofs.YtilhfmhjgfmejaaGreatDoor.tm
