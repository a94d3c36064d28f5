import Derived.Test.YthkbheojjcdglabDoorOnceWalks
namespace Go.Proofs.YthkbheojjcdglabDoor.pctw
open Go.ChangeShapes Go.WideShapes Go.ChangeAt Go.RowKit Go.Proofs.YthkbheojjcdglabDoor.common
open Go.Proofs.YthkbheojjcdglabDoor.lst (PB Lies cl cl_app infoP takeP own_ge cells_new ne_list emp getOf getOf_snoc get_any lies_of_own)
open Go.Proofs.YthkbheojjcdglabDoor.kitw (pick pick_any pick_bounds)
attribute [local go_sem ↓] Go.wp_at_zero Go.wp_at_succ

/-- five cells -/
theorem five_new (w : World) (c : List Value) (t : TypeId) (i : Nat) (v : Value) (h : c[i]? = some v) : ∀ X, Below (w.alloc (.cells c.toArray t)).heap.size (w.alloc (.cells c.toArray t)) X → X.cell? ⟨w.heap.size, i, none⟩ = some v := by
  intro X hX
  rw [hX.cell (by simp)]
  have := range_new w c.toArray t i v h
  rwa [Nat.zero_add] at this

theorem tot_rep (j : Nat) (p : PB) : tot (List.replicate j p) = j * (p.1.size + p.2.size + 1) := by
  induction j with
  | zero => simp [tot]
  | succ j ih => rw [List.replicate_succ]; show p.1.size + p.2.size + 1 + tot (List.replicate j p) = _; rw [ih, Nat.succ_mul]; omega

set_option maxRecDepth 100000 in
set_option maxHeartbeats 6400000 in
theorem lawOnce (v : Value) (l : List PB) (nm vl : ByteArray) (t a : Int) (w : World) (hl : Lies w v l) (hn : l.length ≤ 1048576) (hs : tot l + nm.size + vl.size ≤ 1048576) (ht : -9223372036854775808 ≤ t ∧ t ≤ 9223372036854775807) (ha : -9223372036854775808 ≤ a ∧ a ≤ 9223372036854775807)
    (htab : Tab w) (ea em : Addr) (he : Txt w ea) (hm : Mny w em) :
    Calls Tryd.prog 6 #[.agg #[v, .string nm, .string vl, .int .i64 t, .int .i64 a]] w fun e w' => e = .returned (.bool true) ∧ Below w.heap.size w w' := by
  obtain ⟨i0, hi, hz0, hz1, hz2⟩ := info_parts infoP
  have HTB := hide htab
  have HE := hide he
  have HM := hide hm
  have HB0 : Hid (Below w.heap.size w (w.alloc (.cells #[v, .string nm, .string vl, .int .i64 t, .int .i64 a] 37))) := (Below.refl _ _).alloc (Nat.le_refl _) _
  have x0 := five_new w [v, .string nm, .string vl, .int .i64 t, .int .i64 a] 37 0 _ rfl
  have x1 := five_new w [v, .string nm, .string vl, .int .i64 t, .int .i64 a] 37 1 _ rfl
  have x2 := five_new w [v, .string nm, .string vl, .int .i64 t, .int .i64 a] 37 2 _ rfl
  have x3 := five_new w [v, .string nm, .string vl, .int .i64 t, .int .i64 a] 37 3 _ rfl
  have x4 := five_new w [v, .string nm, .string vl, .int .i64 t, .int .i64 a] 37 4 _ rfl
  have HL := hide (hl.below HB0.out)
  obtain ⟨ov, cv, rfl, _⟩ := hl
  clear htab he hm
  go_enter Tryd.func6, Tryd.ntmps6
  go_wp2_with fail
  generalize w.alloc (.cells #[.slice ov l.length cv, .string nm, .string vl, .int .i64 t, .int .i64 a] 37) = W at *
  have hbr := Below.refl W.heap.size W
  refine (others_any _ l nm W HL.out hn).mono ?_
  rintro x w1 ⟨v1, r, rfl, ho1, hb1, hr30, htot, hne⟩
  have HLR := hide (lies_of_own ho1)
  have HTR := hide htot
  have HNE := hide hne
  clear htot hne hbr ho1
  have y3 := x3 _ hb1
  have y4 := x4 _ hb1
  have HB1 := hide hb1
  obtain ⟨o1, k1, rfl, hcr⟩ : ∃ oa cap, v1 = .slice oa r.length cap ∧ Hid (∀ i (h : i < r.length), ∃ b o, oa = some ⟨b, o, none⟩ ∧ b < w1.heap.size ∧ w1.cell? ⟨b, o + i * 2, none⟩ = some (.string r[i].1) ∧ w1.cell? ⟨b, o + i * 2 + 1, none⟩ = some (.string r[i].2)) := HLR.out
  go_wp2_with fail
  refine (pick_any t 3 w1 (by omega) (by omega) ht.1 ht.2).mono ?_
  rintro x w' ⟨rfl, hw⟩
  subst hw
  have pb := pick_bounds t 3
  obtain ⟨T, hT, hT2⟩ : ∃ T : Nat, pick t 3 = (T : Int) ∧ T ≤ 2 := ⟨(pick t 3).toNat, by omega, by omega⟩
  rw [hT]
  clear hT pb
  go_wp2_with fail
  refine (pick_any a ((r.length : Int) + 1) w' (by omega) (by omega) ha.1 ha.2).mono ?_
  rintro x w2 ⟨rfl, hw⟩
  obtain rfl : w2 = w' := hw
  have pb := pick_bounds a ((r.length : Int) + 1)
  obtain ⟨P, hP, hP2⟩ : ∃ P : Nat, pick a ((r.length : Int) + 1) = (P : Int) ∧ P ≤ r.length := ⟨(pick a ((r.length : Int) + 1)).toNat, by omega, by omega⟩
  rw [hP]
  clear hP pb y3 y4
  obtain ⟨w', hw'⟩ : ∃ w', w' = w2 := ⟨_, rfl⟩
  rw [← hw'] at HB1 HLR hcr hb1 ⊢
  clear hw'
  go_wp2_with fail
  go_loopw [6, 7] (fun v i wr => ∃ k : Nat, k ≤ P ∧ i = .int .i64 k ∧ wr.ownsRow w'.heap.size 34 2 v (r.take k).length (cl (r.take k)) ∧ Below w'.heap.size w' wr) (fun _ i _ => P - (intOf i).toNat)
  case atStart => exact ⟨0, Nat.zero_le _, rfl, World.ownsRow_nil _ _ _ _, Below.refl _ _⟩
  case round =>
    obtain ⟨k, hk, rfl, hown, hnx⟩ := hrel
    have hsz := hnx.size
    have htl : (r.take k).length = k := by rw [List.length_take]; omega
    by_cases hlt : k < P
    · have hki : (k : Int) < (P : Int) := by omega
      have hkr : (k : Int) < (r.length : Int) := by omega
      obtain ⟨b, o, rfl, hb, c0, c1⟩ := hcr.out k (by omega)
      have d0 := (hnx.cell (p := ⟨b, o + k * 2, none⟩) hb).trans c0
      have d1 := (hnx.cell (p := ⟨b, o + k * 2 + 1, none⟩) hb).trans c1
      have HSN := hide (takeP r k (by omega))
      clear c0 c1
      generalize r[k]'(by omega) = p at *
      go_wp2_with (at_builtin; refine wpList_append_own _ rfl _ _ 22 rfl w'.heap.size 34 i0 (.agg #[.string ⟨#[]⟩, .string ⟨#[]⟩]) 2 32 Tryd.underlying22 hi hz0 hz1 hz2 rfl (by decide) _ _ _ rfl (hown.alloc _) ⟨wr.heap.size, 0, none⟩ 1 1 [.string p.1, .string p.2] rfl rfl (cells_new _ _ _) ?c2 ?c3 ?c4 ?c5 ?_)
      case c2 => first | rfl | (intro u hu; simp at hu; rcases hu with rfl | rfl <;> rfl)
      case c3 => unfold maxLen; omega
      case c4 => omega
      case c5 => first | omega | (simp; omega)
      intro v' w1 hown' hgrow _
      have R1 : Hid (w1.ownsRow w'.heap.size 34 2 v' (r.take (k + 1)).length (cl (r.take (k + 1)))) := by
        show w1.ownsRow _ _ _ _ _ _
        rw [HSN.out, List.length_append, cl_app, htl]; exact hown'
      have R2 : Hid (Below w'.heap.size w' w1) := (hnx.alloc hsz _).grown hgrow (by simp; omega) (own_ge hown)
      clear hown' hgrow hown hnx
      go_wp2
      go_roundw
      case rel => exact ⟨k + 1, by omega, by go_num, R1.out, R2.out⟩
      case measure => simp [intOf]; omega
    · obtain rfl : k = P := by omega
      have HO0 := hide hown
      have HN0 := hide hnx
      clear hown hnx
      go_wp2_with fail
      go_loopw [6, 8] (fun v i wr => ∃ j : Nat, j ≤ T ∧ i = .int .i64 j ∧ wr.ownsRow w'.heap.size 34 2 v (r.take k ++ List.replicate j (nm, vl)).length (cl (r.take k ++ List.replicate j (nm, vl))) ∧ Below w'.heap.size w' wr) (fun _ i _ => T - (intOf i).toNat)
      case atStart => exact ⟨0, Nat.zero_le _, rfl, by rw [List.replicate_zero, List.append_nil]; exact HO0.out, HN0.out⟩
      case round =>
        obtain ⟨j, hj, rfl, hown, hnx⟩ := hrel
        have hsz := hnx.size
        have htl2 : (r.take k ++ List.replicate j (nm, vl)).length = k + j := by rw [List.length_append, htl, List.length_replicate]
        have hBW := HB1.out.trans (hnx.mono HB1.out.size)
        have y1 := x1 _ hBW
        have y2 := x2 _ hBW
        by_cases hlt2 : j < T
        · have hji : (j : Int) < (T : Int) := by omega
          have HSN : Hid (r.take k ++ List.replicate (j + 1) (nm, vl) = (r.take k ++ List.replicate j (nm, vl)) ++ [(nm, vl)]) := by show _ = _; rw [List.replicate_succ', List.append_assoc]
          go_wp2_with (at_builtin; refine wpList_append_own _ rfl _ _ 22 rfl w'.heap.size 34 i0 (.agg #[.string ⟨#[]⟩, .string ⟨#[]⟩]) 2 32 Tryd.underlying22 hi hz0 hz1 hz2 rfl (by decide) _ _ _ rfl (hown.alloc _) ⟨wr.heap.size, 0, none⟩ 1 1 [.string nm, .string vl] rfl rfl (cells_new _ _ _) ?c2 ?c3 ?c4 ?c5 ?_)
          case c2 => first | rfl | (intro u hu; simp at hu; rcases hu with rfl | rfl <;> rfl)
          case c3 => unfold maxLen; omega
          case c4 => omega
          case c5 => first | omega | (simp; omega)
          intro v' w1 hown' hgrow _
          have R1 : Hid (w1.ownsRow w'.heap.size 34 2 v' (r.take k ++ List.replicate (j + 1) (nm, vl)).length (cl (r.take k ++ List.replicate (j + 1) (nm, vl)))) := by
            show w1.ownsRow _ _ _ _ _ _
            rw [HSN.out, List.length_append, cl_app, htl2]; exact hown'
          have R2 : Hid (Below w'.heap.size w' w1) := (hnx.alloc hsz _).grown hgrow (by simp; omega) (own_ge hown)
          clear hown' hgrow hown hnx
          go_wp2
          go_roundw
          case rel => exact ⟨j + 1, by omega, by go_num, R1.out, R2.out⟩
          case measure => simp [intOf]; omega
        · obtain rfl : j = T := by omega
          have HO1 := hide hown
          have HN1 := hide hnx
          clear hown hnx y1 y2 hBW
          go_wp2_with fail
          go_loopw [6, 9] (fun v i wr => ∃ m : Nat, k + m ≤ r.length ∧ i = .int .i64 ((k + m : Nat) : Int) ∧ wr.ownsRow w'.heap.size 34 2 v ((r.take k ++ List.replicate j (nm, vl)) ++ (r.drop k).take m).length (cl ((r.take k ++ List.replicate j (nm, vl)) ++ (r.drop k).take m)) ∧ Below w'.heap.size w' wr) (fun _ i _ => r.length - (intOf i).toNat)
          case atStart => exact ⟨0, by omega, rfl, by rw [List.take_zero, List.append_nil]; exact HO1.out, HN1.out⟩
          case round =>
            obtain ⟨m, hm, rfl, hown, hnx⟩ := hrel
            have hsz := hnx.size
            have htl3 : ((r.take k ++ List.replicate j (nm, vl)) ++ (r.drop k).take m).length = k + j + m := by rw [List.length_append, htl2, List.length_take, List.length_drop]; omega
            by_cases hlt3 : k + m < r.length
            · have hmi : ((k + m : Nat) : Int) < (r.length : Int) := by omega
              have hm0 : (0 : Int) ≤ ((k + m : Nat) : Int) := Int.natCast_nonneg _
              obtain ⟨b, o, rfl, hb, c0, c1⟩ := hcr.out (k + m) hlt3
              have d0 := (hnx.cell (p := ⟨b, o + (k + m) * 2, none⟩) hb).trans c0
              have d1 := (hnx.cell (p := ⟨b, o + (k + m) * 2 + 1, none⟩) hb).trans c1
              have HSN : Hid ((r.take k ++ List.replicate j (nm, vl)) ++ (r.drop k).take (m + 1) = ((r.take k ++ List.replicate j (nm, vl)) ++ (r.drop k).take m) ++ [r[k + m]]) := by
                show _ = _
                rw [List.append_assoc (r.take k ++ List.replicate j (nm, vl)), List.take_succ_eq_append_getElem (by rw [List.length_drop]; omega)]
                congr 2
                simp
              clear c0 c1
              generalize r[k + m] = p at *
              obtain ⟨Q, hQ⟩ : ∃ Q, (r.take k ++ List.replicate j (nm, vl)) ++ (r.drop k).take m = Q := ⟨_, rfl⟩
              rw [hQ] at hown htl3 HSN
              clear hQ
              obtain ⟨I, hI⟩ : ∃ I, k + m = I := ⟨_, rfl⟩
              rw [hI] at d0 d1 hmi hm0 hlt3 ⊢
              have hIs : (I : Int) + 1 = ((k + (m + 1) : Nat) : Int) := by omega
              have HIS := hide hIs
              have HII := hide hI
              clear hIs hI
              go_wp2_with (at_builtin; refine wpList_append_own _ rfl _ _ 22 rfl w'.heap.size 34 i0 (.agg #[.string ⟨#[]⟩, .string ⟨#[]⟩]) 2 32 Tryd.underlying22 hi hz0 hz1 hz2 rfl (by decide) _ _ _ rfl (hown.alloc _) ⟨wr.heap.size, 0, none⟩ 1 1 [.string p.1, .string p.2] rfl rfl (cells_new _ _ _) ?c2 ?c3 ?c4 ?c5 ?_)
              case c2 => first | rfl | (intro u hu; simp at hu; rcases hu with rfl | rfl <;> rfl)
              case c3 => unfold maxLen; omega
              case c4 => omega
              case c5 => first | omega | (simp; omega)
              intro v' w1 hown' hgrow _
              have R1 : Hid (w1.ownsRow w'.heap.size 34 2 v' ((r.take k ++ List.replicate j (nm, vl)) ++ (r.drop k).take (m + 1)).length (cl ((r.take k ++ List.replicate j (nm, vl)) ++ (r.drop k).take (m + 1)))) := by
                show w1.ownsRow _ _ _ _ _ _
                rw [HSN.out, List.length_append, cl_app, htl3]; exact hown'
              have R2 : Hid (Below w'.heap.size w' w1) := (hnx.alloc hsz _).grown hgrow (by simp; omega) (own_ge hown)
              clear hown' hgrow hown hnx
              go_wp2
              go_roundw
              case rel => exact ⟨m + 1, by have := HII.out; omega, by exact int_eq HIS.out, R1.out, R2.out⟩
              case measure => have := HII.out; simp [intOf]; omega
            · have hkm : k + m = r.length := by omega
              have hdr : (r.drop k).take m = r.drop k := List.take_of_length_le (by rw [List.length_drop]; omega)
              rw [hdr] at hown htl3
              obtain ⟨Q, hQ⟩ : ∃ Q, (r.take k ++ List.replicate j (nm, vl)) ++ r.drop k = Q := ⟨_, rfl⟩
              have HG : Hid (getOf Q nm = if vl = emp ∨ j = 0 then (emp, 0) else (vl, j)) := by
                show _ = _
                rw [← hQ]
                exact get_once _ _ nm vl j (fun p hp => HNE.out p (List.mem_of_mem_take hp)) (fun p hp => HNE.out p (List.mem_of_mem_drop hp))
              have HTQ : Hid (tot Q = tot r + j * (nm.size + vl.size + 1)) := by
                show _ = _
                rw [← hQ, tot_app, tot_app, tot_rep]
                have : tot r = tot (r.take k) + tot (r.drop k) := by rw [← tot_app, List.take_append_drop]
                show tot (r.take k) + j * (nm.size + vl.size + 1) + tot (r.drop k) = _
                omega
              rw [hQ] at hown htl3
              have HQL : Hid (Q.length ≤ 32) := by show _ ≤ _; omega
              have hjm : j * (nm.size + vl.size + 1) ≤ 2 * (nm.size + vl.size + 1) := Nat.mul_le_mul_right _ hT2
              have HTS : Hid (4 * tot Q ≤ 100000000) := by show _ ≤ _; rw [HTQ.out]; have := HTR.out; omega
              have HLQ := hide (lies_of_own hown)
              have HN3 := hide hnx
              have HBW := hide (HB1.out.trans (hnx.mono HB1.out.size))
              have HBw := hide (HB0.out.trans (HBW.out.mono HB0.out.size))
              have hnl : ¬ ((k + m : Nat) : Int) < (r.length : Int) := by omega
              clear hQ hown hnx htl3 hdr hjm hcr
              go_wp2_with fail
              refine (form_any _ Q wr HLQ.out (HTB.out.below HBw.out (Nat.le_refl _)) (by have := HTS.out; omega) (by have := HQL.out; omega)).mono ?_
              rintro x w3 ⟨rfl, hb3⟩
              have HBW3 := hide (HBW.out.trans (hb3.mono HBW.out.size))
              have HBw3 := hide (HB0.out.trans (HBW3.out.mono HB0.out.size))
              clear hb3
              obtain ⟨Y, hY⟩ : ∃ Y : ByteArray, (⟨(Pct.form (Q.map pr)).toArray⟩ : ByteArray) = Y := ⟨_, rfl⟩
              rw [show S (Pct.form (Q.map pr)) = .string Y from congrArg Value.string hY]
              have HYS : Hid (Y.size ≤ reachBytes) := by
                show _ ≤ _
                rw [← hY, str_size]; have := form_len Q; have := HTS.out; unfold reachBytes; omega
              have HYL : Hid (Y.data.toList = Pct.form (Q.map pr)) := by show _ = _; rw [← hY]
              have HPL : Hid ((Pct.pieces Y.data.toList).length = Q.length) := by show _ = _; rw [HYL.out, Pct.pieces_form, List.length_map, List.length_map]
              have HPA : Hid (Pct.pairAll (Pct.pieces Y.data.toList) = some (Q.map pr)) := by show _ = _; rw [HYL.out, Pct.pairAll_form]
              clear hY
              go_wp2_with fail
              refine (pairs_any Y w3 HYS.out ea em (HE.out.below HBw3.out) (HM.out.below HBw3.out)).mono ?_
              rintro x w4 ⟨hb4, hx⟩
              have HBW4 := hide (HBW3.out.trans (hb4.mono HBW3.out.size))
              clear hb4
              rcases hx with ⟨h33, rfl⟩ | ⟨h32, hno, rfl⟩ | ⟨h32, q, v, hq, rfl, hown⟩
              · rw [HPL.out] at h33; have := HQL.out; omega
              · rw [HPA.out] at hno; cases hno
              · obtain rfl : q = Q.map pr := (Option.some.inj (HPA.out.symm.trans hq)).symm
                rw [map_mk] at hown
                have HLM := hide (lies_of_own hown)
                clear hq hown h32
                have y1 := x1 _ HBW4.out
                go_wp2_with fail
                refine (get_any _ Q nm w4 HLM.out (by have := HQL.out; omega)).mono ?_
                rintro x w5 ⟨rfl, hb5⟩
                have HBW5 := hide (HBW4.out.trans (hb5.mono HBW4.out.size))
                rw [HG.out]
                clear hb5 y1
                have y2 := x2 _ HBW5.out
                by_cases hvl : vl = emp
                · rw [if_pos (Or.inl hvl)]
                  subst hvl
                  go_wp2_with fail
                  go_ret
                  exact ⟨by simp, HB0.out.trans (HBW5.out.mono HB0.out.size)⟩
                · have hv2 : ¬ vl.toList = [] := fun e => hvl (ba_ext (by rw [ByteArray.toList_eq] at e; rw [e]))
                  have hv3 : (vl.toList == []) = false := beq_false_of_ne hv2
                  have hv4 : vl.toList.isEmpty = false := by
                    cases hh : vl.toList with
                    | nil => exact absurd hh hv2
                    | cons _ _ => rfl
                  by_cases hj0 : j = 0
                  · rw [if_pos (Or.inr hj0)]
                    have hji : (j : Int) = 0 := by omega
                    go_wp2_with fail
                    go_ret
                    exact ⟨by simp, HB0.out.trans (HBW5.out.mono HB0.out.size)⟩
                  · rw [if_neg (by simp [hvl, hj0])]
                    have hji : ¬ (j : Int) = 0 := by omega
                    go_wp2_with fail
                    go_ret
                    exact ⟨by simp, HB0.out.trans (HBW5.out.mono HB0.out.size)⟩

end Go.Proofs.YthkbheojjcdglabDoor.pctw
