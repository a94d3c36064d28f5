import Derived.Test.YtjalggkhpnfbiaaDoorBBrMath
import Derived.Deep.RegionHeld3
import Derived.Deep.AppendLies
namespace Go.Proofs.YtjalggkhpnfbiaaDoor.br
open Go.ChangeShapes Go.WideShapes Go.ChangeAt Go.RowKit Go.Proofs.YtjalggkhpnfbiaaDoor.common Go.Maps
open Go.Proofs.YtjalggkhpnfbiaaDoor.lst (PB cl Lies getOf)
open Go.Proofs.YtjalggkhpnfbiaaDoor.pg (Inp LiesI mayB)
attribute [local go_sem ↓] Go.wp_at_zero Go.wp_at_succ

theorem cn_take (xs : List Inp) (n : ByteArray) (k : Nat) (h : k < xs.length) : cn (xs.take (k + 1)) n = cn (xs.take k) n + if xs[k].name = n then 1 else 0 := by
  unfold cn
  rw [List.take_succ_eq_append_getElem h, List.countP_append]
  by_cases e : xs[k].name = n
  · rw [if_pos e, List.countP_singleton]; simp [e]
  · rw [if_neg e, List.countP_singleton]; simp [e]
set_option maxRecDepth 100000 in
set_option maxHeartbeats 1600000 in
theorem alone_any (vI : Value) (act but n : ByteArray) (xs : List Inp) (w : World) (hI : LiesI w vI xs) (hs : xs.length ≤ 1000000) :
    Calls Tryd.prog 26 #[.agg #[.string act, vI, .string but], .string n] w fun e w' => e = .returned (.bool (decide (cn xs n = 1))) ∧ Below w.heap.size w w' := by
  have BA : Below w.heap.size w (w.alloc (.cells #[.string act, vI, .string but] 31)) := (Below.refl _ _).alloc (Nat.le_refl _) _
  have hbx := pg.at_new w (.cells #[.string act, vI, .string but] 31)
  obtain ⟨oi, ci, rfl, hc⟩ := hI
  obtain ⟨_, p1, _, _, _, _⟩ := pg.three_cells hbx
  have HC := hide hc
  have HBA := hide BA
  clear BA hbx hc
  go_enter Tryd.func26, Tryd.ntmps26
  go_wp2_with fail
  generalize w.alloc (.cells #[.string act, .slice oi xs.length ci, .string but] 31) = V at *
  go_loopw [5, 6] (fun vn vi wr => ∃ (k c : Nat), k ≤ xs.length ∧ vi = .int .i64 k ∧ vn = .int .i64 c ∧ c ≤ k ∧ Hid (c = cn (xs.take k) n) ∧ Hid (wr = V)) (fun _ vi _ => xs.length - (intOf vi).toNat)
  case atStart => exact ⟨0, 0, Nat.zero_le _, rfl, rfl, Nat.le_refl _, rfl, rfl⟩
  case round =>
    obtain ⟨k, c, hk, rfl, rfl, hck, HCN, hV⟩ := hrel
    obtain rfl := hV.out.symm
    clear hV
    by_cases hlt : k < xs.length
    · have k0 : (0 : Int) ≤ (k : Int) := Int.natCast_nonneg _
      have k1 : (k : Int) < (xs.length : Int) := by omega
      obtain ⟨b, o, rfl, hb, _, c1, _, _⟩ := HC.out k hlt
      have d1 := (HBA.out.cell (p := ⟨b, o + k * 4 + 1, none⟩) hb).trans c1
      have HCT := hide (cn_take xs n k hlt)
      generalize xs[k].name = nm at *
      clear c1
      by_cases hnm : nm = n
      · have e1 : (nm.toList == n.toList) = true := by rw [hnm]; exact beq_self_eq_true _
        have HN : Hid (c + 1 = cn (xs.take (k + 1)) n) := by have h1 := HCT.out; have h2 := HCN.out; rw [if_pos hnm] at h1; show _ = _; omega
        clear hnm
        go_wp2_with fail
        go_roundw
        case rel => exact ⟨k + 1, c + 1, by omega, by go_num, by go_num, by omega, HN, hide trivial⟩
        case measure => simp [intOf]; omega
      · have e1 : (nm.toList == n.toList) = false := lst.ne_list hnm
        have HN : Hid (c = cn (xs.take (k + 1)) n) := by have h1 := HCT.out; have h2 := HCN.out; rw [if_neg hnm] at h1; show _ = _; omega
        clear hnm
        go_wp2_with fail
        go_roundw
        case rel => exact ⟨k + 1, c, by omega, by go_num, rfl, by omega, HN, hide trivial⟩
        case measure => simp [intOf]; omega
    · have k1 : ¬ (k : Int) < (xs.length : Int) := by omega
      obtain rfl : k = xs.length := by omega
      rw [List.take_length] at HCN
      clear hlt hk
      by_cases h : c = 1
      · have e1 : ((c : Int) == 1) = true := by simp [h]
        have HD : Hid (decide (cn xs n = 1) = true) := by rw [← HCN.out]; exact decide_eq_true h
        clear h
        go_wp2_with fail
        go_ret
        exact ⟨by rw [HD.out] <;> rfl, HBA.out⟩
      · have e1 : ((c : Int) == 1) = false := by simp; omega
        have HD : Hid (decide (cn xs n = 1) = false) := by rw [← HCN.out]; exact decide_eq_false h
        clear h
        go_wp2_with fail
        go_ret
        exact ⟨by rw [HD.out] <;> rfl, HBA.out⟩

/-- what told asks of the variables -/
structure EnvB (w : World) (ea em : Addr) : Prop where
  tab : pctw.Tab w
  txt : pctw.Txt w ea
  mny : pctw.Mny w em
theorem EnvB.below {w w' : World} {ea em : Addr} (h : EnvB w ea em) (hb : Below w.heap.size w w') : EnvB w' ea em := ⟨h.tab.below hb (Nat.le_refl _), h.txt.below hb, h.mny.below hb⟩
theorem pv_take (xs : List Inp) (k : Nat) (h : k < xs.length) : cl (pv (xs.take (k + 1))) = cl (pv (xs.take k)) ++ [.string xs[k].name, .string xs[k].value] := by
  unfold pv
  rw [List.take_succ_eq_append_getElem h, List.map_append, lst.cl_app]
  rfl
theorem pv_len (xs : List Inp) : (pv xs).length = xs.length := by unfold pv; rw [List.length_map]

set_option maxRecDepth 100000 in
set_option maxHeartbeats 6400000 in
theorem told_any (vI vJ vT : Value) (act but act2 but2 : ByteArray) (xs : List Inp) (l : List PB) (M : Nat) (ea em : Addr) (w : World) (hI : LiesI w vI xs) (hJ : LiesI w vJ xs) (hT : Lies w vT l) (hE : EnvB w ea em) (hm : xs.all mayB = true) (h32 : xs.length ≤ 32) (hf : sent.Fits l) (hx : sent.FitsI (xs.map si)) (hl : l.length * 32 ≤ 140737488355328) (hM : M ≤ 4294967296) (hM1 : ∀ k, (l.getD k (⟨#[]⟩, ⟨#[]⟩)).2.size ≤ M) (hM2 : ∀ x ∈ xs, x.name.size + x.value.size ≤ M) :
    Calls Tryd.prog 13 #[.agg #[.string act, vI, .string but], .agg #[.string act2, vJ, .string but2], vT] w fun e w' => e = .returned (.bool true) ∧ Below w.heap.size w w' := by
  obtain ⟨i0, hi, hz0, hz1, hz2⟩ := info_parts lst.infoP
  have HI := hide hI
  have HJ := hide hJ
  have HT := hide hT
  have HE := hide hE
  have HM := hide hm
  have HF := hide hf
  have HX := hide hx
  have HL := hide hl
  have HM1 := hide hM1
  have HM2 := hide hM2
  obtain ⟨oi, ci, rfl, hc⟩ := hI
  obtain ⟨oj, cj, rfl, _⟩ := hJ
  obtain ⟨ot, ct, rfl, _⟩ := hT
  have HC := hide hc
  have BA : Below w.heap.size w ((w.alloc (.cells #[.string act, .slice oi xs.length ci, .string but] 31)).alloc (.cells #[.string act2, .slice oj xs.length cj, .string but2] 31)) := ((Below.refl _ _).alloc (Nat.le_refl _) _).alloc (by simp) _
  have hF : ((w.alloc (.cells #[.string act, .slice oi xs.length ci, .string but] 31)).alloc (.cells #[.string act2, .slice oj xs.length cj, .string but2] 31)).heap[w.heap.size]? = some (.cells #[.string act, .slice oi xs.length ci, .string but] 31) := by
    show ((w.heap.push _).push _)[w.heap.size]? = _
    rw [Array.getElem?_push, if_neg (by simp), Array.getElem?_push, if_pos rfl]
  have hG : ((w.alloc (.cells #[.string act, .slice oi xs.length ci, .string but] 31)).alloc (.cells #[.string act2, .slice oj xs.length cj, .string but2] 31)).heap[w.heap.size + 1]? = some (.cells #[.string act2, .slice oj xs.length cj, .string but2] 31) := by
    show ((w.heap.push _).push _)[w.heap.size + 1]? = _
    rw [Array.getElem?_push, if_pos (by simp)]
  have HFB := hide hF
  have HGB := hide hG
  have HBA := hide BA
  clear hc hm hf hx hl hM1 hM2 hE BA hF hG
  go_enter Tryd.func13, Tryd.ntmps13
  go_wp2_with fail
  generalize (w.alloc (.cells #[.string act, .slice oi xs.length ci, .string but] 31)).alloc (.cells #[.string act2, .slice oj xs.length cj, .string but2] 31) = V at *
  have hFl := (Array.getElem?_eq_some_iff.1 HFB.out).1
  go_loopw [7, 8] (fun vv vi wr => ∃ k : Nat, k ≤ xs.length ∧ vi = .int .i64 k ∧ Hid (wr.ownsRow V.heap.size 66 2 vv k (cl (pv (xs.take k)))) ∧ Hid (Below V.heap.size V wr)) (fun _ vi _ => xs.length - (intOf vi).toNat)
  case atStart => exact ⟨0, Nat.zero_le _, rfl, World.ownsRow_nil _ _ _ _, Below.refl _ _⟩
  case round =>
    obtain ⟨k, hk, rfl, HO, HB⟩ := hrel
    have hF1 := (HB.out.block _ hFl).trans HFB.out
    obtain ⟨_, p1, _, _, _, _⟩ := pg.three_cells hF1
    by_cases hlt : k < xs.length
    · have k0 : (0 : Int) ≤ (k : Int) := Int.natCast_nonneg _
      have k1 : (k : Int) < (xs.length : Int) := by omega
      obtain ⟨ov, cv, rfl⟩ := pg.form_w HO.out
      obtain ⟨b, o, rfl, hb, _, c1, c2, _⟩ := HC.out k hlt
      have hbv : b < V.heap.size := Nat.lt_of_lt_of_le hb HBA.out.size
      have d1 := (HBA.out.cell (p := ⟨b, o + k * 4 + 1, none⟩) hb).trans c1
      have d2 := (HBA.out.cell (p := ⟨b, o + k * 4 + 2, none⟩) hb).trans c2
      have p1v : V.cell? ⟨w.heap.size, 1, none⟩ = some (.slice (some ⟨b, o, none⟩) xs.length ci) := (pg.three_cells HFB.out).2.1
      have y0 : ∀ Y, Below V.heap.size V Y → Y.cell? ⟨w.heap.size, 1, none⟩ = some (.slice (some ⟨b, o, none⟩) xs.length ci) := fun Y hY => (hY.cell (p := ⟨w.heap.size, 1, none⟩) hFl).trans p1v
      have y1 : ∀ Y, Below V.heap.size V Y → Y.cell? ⟨b, o + k * 4 + 1, none⟩ = some (.string xs[k].name) := fun Y hY => (hY.cell (p := ⟨b, o + k * 4 + 1, none⟩) hbv).trans d1
      have y2 : ∀ Y, Below V.heap.size V Y → Y.cell? ⟨b, o + k * 4 + 2, none⟩ = some (.string xs[k].value) := fun Y hY => (hY.cell (p := ⟨b, o + k * 4 + 2, none⟩) hbv).trans d2
      have HPV := hide (pv_take xs k hlt)
      generalize xs[k].name = nm at *
      generalize xs[k].value = vl at *
      have hsz := HB.out.size
      have own := HO.out
      clear c1 c2 d1 d2 hF1
      go_wp2_with fail
      have hb0 : Below V.heap.size V wr := HB.out
      have own_g := pg.own_ge own
      clear p1v p1
      go_region_held3 (fun Y => Below V.heap.size V Y)
        (first
          | assumption
          | exact HB.out.drew
          | exact (HB.out.alloc hsz _).drew
          | exact HB.out.alloc hsz _
          | exact ((HB.out.alloc hsz _).drew).grown (by assumption) (by simp; omega) own_g)
        ((refine step_append_lies _ (by rfl) _ _ _ (by rfl) V.heap.size 66 i0 _ 2 32 Tryd.underlying43 hi hz0 hz1 hz2 rfl (by omega) (.slice ov k cv) k _ (by rfl) ((own.alloc _).drew)
            ⟨wr.heap.size, 0, none⟩ 1 1 [.string nm, .string vl] (by rfl) (by rfl) (World.news_of_block (cs := #[.string nm, .string vl]) (t := 66) (fr := (0, 0)) (heap_alloc_new wr _)) (by simp [Value.oneCell'])
            (by omega) (by unfold maxLen; omega) (by omega) (by simp; omega) (wr.heap.size + 1) (by simp) ?_; intro gg cap w1 hown1 hgrow hat hlt2))
      all_goals
        have HN : Hid (w1.ownsRow V.heap.size 66 2 (.slice (some ⟨gg, 0, none⟩) (k + 1) cap) (k + 1) (cl (pv (xs.take (k + 1))))) := by
          show World.ownsRow _ _ _ _ _ _ _
          rw [HPV.out]
          exact hown1
        have HBN : Hid (Below V.heap.size V w1) := ((HB.out.alloc hsz _).drew).grown hgrow (by simp; omega) own_g
        clear hown1 hgrow hat hlt2 y0 y1 y2 own hb0
        go_wp2_with fail
        go_roundw
        case rel => exact ⟨k + 1, by omega, by go_num, HN, HBN⟩
        case measure => simp [intOf]; omega
    · have k1 : ¬ (k : Int) < (xs.length : Int) := by omega
      obtain rfl : k = xs.length := by omega
      rw [List.take_length] at HO
      have HW0 := hide (HBA.out.trans (HB.out.mono HBA.out.size))
      have HG1 := hide ((HB.out.block _ (Array.getElem?_eq_some_iff.1 HGB.out).1).trans HGB.out)
      have HF1 := hide hF1
      have HRG := hide (pg.range3 HG1.out)
      have HSN := hide (sent.sent_any (.slice oj xs.length cj) (.slice none 0 0) act2 but2 [] (xs.map si) wr (liesI_si (HJ.out.below HW0.out)) ⟨none, 0, rfl, fun i hi => absurd hi (Nat.not_lt_zero _)⟩ (fun k => by rw [show ([] : List PB).getD k (⟨#[]⟩, ⟨#[]⟩) = (⟨#[]⟩, ⟨#[]⟩) from rfl]; exact ⟨Nat.zero_le _, Nat.zero_le _⟩) HX.out (by simp) (by rw [List.length_map]; omega))
      rw [sent_nil xs HM.out, pv_len] at HSN
      have HOL : Hid (Lies wr _ (pv xs)) := lst.lies_of_own (by rw [pv_len]; exact HO.out)
      obtain ⟨ov, cv, rfl⟩ := pg.form_w HO.out
      clear hlt hk hF1 HO
      go_wp2_with (refine wpList_load_mid rfl 31 _ rfl (w.heap.size + 1) 0 rfl _ _ HRG.out Tryd.underlying31 rfl (by kernel_rfl) ?_)
      refine HSN.out.mono ?_
      rintro x X1 ⟨v1, rfl, hown1, b1⟩
      have HL1 : Hid (Lies X1 v1 (pv xs)) := lst.lies_of_own (by rw [pv_len]; exact hown1)
      have HW1 := hide (HW0.out.trans (b1.mono HW0.out.size))
      have HF2 := hide ((b1.block _ (Array.getElem?_eq_some_iff.1 HF1.out).1).trans HF1.out)
      have HG2 := hide ((b1.block _ (Array.getElem?_eq_some_iff.1 HG1.out).1).trans HG1.out)
      have HSM := hide (lst.same_any v1 _ (pv xs) X1 HL1.out (HOL.out.below b1) (by rw [pv_len]; omega))
      clear HSN HRG hown1 b1 p1 k1 HF1 HG1 HOL HL1
      go_wp2_with fail
      refine HSM.out.mono ?_
      rintro x X2 ⟨rfl, b2⟩
      have HW2 := hide (HW1.out.trans (b2.mono HW1.out.size))
      have HF3 := hide ((b2.block _ (Array.getElem?_eq_some_iff.1 HF2.out).1).trans HF2.out)
      have HRG := hide (pg.range3 ((b2.block _ (Array.getElem?_eq_some_iff.1 HG2.out).1).trans HG2.out))
      have HSN := hide (sent.sent_any (.slice oj xs.length cj) (.slice ot l.length ct) act2 but2 l (xs.map si) X2 (liesI_si (HJ.out.below HW2.out)) (HT.out.below HW2.out) HF.out HX.out HL.out (by rw [List.length_map]; omega))
      have HSL : Hid ((sent.sentL l (xs.map si)).length ≤ 32) := Nat.le_trans (sent_len l xs) h32
      have HST : Hid (pctw.tot (sent.sentL l (xs.map si)) ≤ 32 * (2 * M + 1)) := Nat.le_trans (sent_tot l M HM1.out xs HM2.out) (Nat.mul_le_mul_right _ h32)
      have HGT : Hid (∀ i (hi : i < xs.length), xs[i].kind = 1 → xs[i].value ≠ ⟨#[]⟩ → cn xs xs[i].name = 1 → getOf (sent.sentL l (xs.map si)) xs[i].name = (xs[i].value, 1)) := fun i hi h1 h2 h3 => get_one l xs i hi (List.all_eq_true.1 HM.out _ (List.getElem_mem hi)) h1 h2 h3
      generalize sent.sentL l (xs.map si) = T at *
      clear HSM b2 HF2 HG2 HW1
      go_wp2_with (refine wpList_load_mid rfl 31 _ rfl (w.heap.size + 1) 0 rfl _ _ HRG.out Tryd.underlying31 rfl (by kernel_rfl) ?_)
      refine HSN.out.mono ?_
      rintro x X3 ⟨v3, rfl, hown3, b3⟩
      have HL3 := hide (lst.lies_of_own hown3)
      have HW3 := hide (HW2.out.trans (b3.mono HW2.out.size))
      have HF4 := hide ((b3.block _ (Array.getElem?_eq_some_iff.1 HF3.out).1).trans HF3.out)
      obtain ⟨o3, c3, rfl⟩ := pg.form_w hown3
      have hsl := HSL.out
      have hst := HST.out
      have HFM := hide (pctw.form_any _ T X3 HL3.out (HE.out.below HW3.out).tab (by omega) (by omega))
      obtain ⟨Y, hY⟩ : ∃ Y : ByteArray, (⟨(Pct.form (T.map pctw.pr)).toArray⟩ : ByteArray) = Y := ⟨_, rfl⟩
      rw [show pctw.S (Pct.form (T.map pctw.pr)) = .string Y from congrArg Value.string hY] at HFM
      have HYS : Hid (Y.size ≤ reachBytes) := by
        show _ ≤ _
        rw [← hY, pctw.str_size]; have := pctw.form_len T; unfold reachBytes; omega
      have HYL : Hid (Y.data.toList = Pct.form (T.map pctw.pr)) := by show _ = _; rw [← hY]
      have HPL : Hid ((Pct.pieces Y.data.toList).length = T.length) := by show _ = _; rw [HYL.out, Pct.pieces_form, List.length_map, List.length_map]
      have HPA : Hid (Pct.pairAll (Pct.pieces Y.data.toList) = some (T.map pctw.pr)) := by show _ = _; rw [HYL.out, Pct.pairAll_form]
      clear HSN HRG hown3 b3 HF3 HW2 hY hsl hst
      go_wp2_with fail
      refine HFM.out.mono ?_
      rintro x X4 ⟨rfl, b4⟩
      have HW4 := hide (HW3.out.trans (b4.mono HW3.out.size))
      have HF5 := hide ((b4.block _ (Array.getElem?_eq_some_iff.1 HF4.out).1).trans HF4.out)
      have HL4 := hide (HL3.out.below b4)
      have HPR : Hid (Calls Tryd.prog 25 #[.string Y] X4 fun x w' => ∃ v, x = .returned (.tuple #[v, .nilIface]) ∧ Lies w' v T ∧ Below X4.heap.size X4 w') := by
        refine (pctw.pairs_any Y X4 HYS.out ea em (HE.out.below HW4.out).txt (HE.out.below HW4.out).mny).mono ?_
        rintro x w' ⟨hb, h⟩
        rcases h with ⟨h, _⟩ | ⟨_, h, _⟩ | ⟨_, q, v, h, hx, ho⟩
        · have := HPL.out; have := HSL.out; omega
        · rw [HPA.out] at h; cases h
        · rw [HPA.out] at h
          cases h
          rw [map_mk] at ho
          exact ⟨v, hx, lst.lies_of_own ho, hb⟩
      clear HFM HF4 HW3 HL3 b4 HYS HYL HPL HPA
      go_wp2_with fail
      refine HPR.out.mono ?_
      rintro x X5 ⟨v5, rfl, hL5, b5⟩
      have HW5 := hide (HW4.out.trans (b5.mono HW4.out.size))
      have HF6 := hide ((b5.block _ (Array.getElem?_eq_some_iff.1 HF5.out).1).trans HF5.out)
      have HL5 := hide hL5
      obtain ⟨o5, c5, rfl, _⟩ := hL5
      have HSM := hide (lst.same_any _ _ T X5 HL5.out (HL4.out.below b5) (by have := HSL.out; omega))
      clear HPR HF5 HW4 HL4 b5
      go_wp2_with fail
      refine HSM.out.mono ?_
      rintro x X6 ⟨rfl, b6⟩
      have HW6 := hide (HW5.out.trans (b6.mono HW5.out.size))
      have HF7 := hide ((b6.block _ (Array.getElem?_eq_some_iff.1 HF6.out).1).trans HF6.out)
      have HL6 := hide (HL5.out.below b6)
      have hFl6 := (Array.getElem?_eq_some_iff.1 HF7.out).1
      clear HSM HF6 HW5 HL5 b6
      go_wp2_with fail
      go_loopw [15] (fun vi wr => ∃ k : Nat, k ≤ xs.length ∧ vi = .int .i64 k ∧ Hid (Below X6.heap.size X6 wr)) (fun vi _ => xs.length - (intOf vi).toNat)
      case atStart => exact ⟨0, Nat.zero_le _, rfl, Below.refl _ _⟩
      case round =>
        obtain ⟨k, hk, rfl, HBr⟩ := hrel
        have hF8 := (HBr.out.block _ hFl6).trans HF7.out
        obtain ⟨_, p1, _, _, _, _⟩ := pg.three_cells hF8
        by_cases hlt : k < xs.length
        · have k0 : (0 : Int) ≤ (k : Int) := Int.natCast_nonneg _
          have k1 : (k : Int) < (xs.length : Int) := by omega
          obtain ⟨b, o, rfl, hb, c0, c1, c2, c3⟩ := HC.out k hlt
          have HWr := hide (HW6.out.trans (HBr.out.mono HW6.out.size))
          have d0 := (HWr.out.cell (p := ⟨b, o + k * 4, none⟩) hb).trans c0
          have d1 := (HWr.out.cell (p := ⟨b, o + k * 4 + 1, none⟩) hb).trans c1
          have d2 := (HWr.out.cell (p := ⟨b, o + k * 4 + 2, none⟩) hb).trans c2
          have d3 := (HWr.out.cell (p := ⟨b, o + k * 4 + 3, none⟩) hb).trans c3
          have HGK := hide (HGT.out k hlt)
          generalize xs[k].kind = kd at *
          generalize xs[k].name = nm at *
          generalize xs[k].value = vl at *
          generalize xs[k].label = lb at *
          have HRI : Hid (wr.rangeAt b (o + k * 4) [.int .i64 kd, .string nm, .string vl, .string lb]) := fun j u hu => by
            match j, hu with
            | 0, hu => cases hu; exact d0
            | 1, hu => cases hu; exact d1
            | 2, hu => cases hu; exact d2
            | 3, hu => cases hu; exact d3
          have BX : Below wr.heap.size wr (wr.alloc (.cells #[.int .i64 kd, .string nm, .string vl, .string lb] 28)) := (Below.refl _ _).alloc (Nat.le_refl _) _
          have HBX := hide BX
          have HX8 := hide (pg.at_new wr (.cells #[.int .i64 kd, .string nm, .string vl, .string lb] 28))
          have HRF := hide (pg.range3 ((BX.block _ (Array.getElem?_eq_some_iff.1 hF8).1).trans hF8))
          have HAL := hide (alone_any (.slice (some ⟨b, o, none⟩) xs.length ci) act but nm xs _ ((HI.out.below HWr.out).below BX) (by omega))
          clear c0 c1 c2 c3 d0 d1 d2 d3 BX
          go_wp2_with (first
            | (refine wpList_load_mid rfl 28 _ rfl b (o + k * 4) rfl _ _ HRI.out Tryd.underlying28 rfl (by kernel_rfl) ?_)
            | (refine wpList_load_mid rfl 31 _ rfl w.heap.size 0 rfl _ _ HRF.out Tryd.underlying31 rfl (by kernel_rfl) ?_))
          generalize wr.alloc (.cells #[.int .i64 kd, .string nm, .string vl, .string lb] 28) = V8 at *
          refine HAL.out.mono ?_
          rintro x X9 ⟨rfl, b9⟩
          have HB9 := hide ((HBr.out.trans (HBX.out.mono HBr.out.size)).trans (b9.mono (Nat.le_trans HBr.out.size HBX.out.size)))
          have hX9 := (b9.block _ (Array.getElem?_eq_some_iff.1 HX8.out).1).trans HX8.out
          have x0 : X9.cell? ⟨wr.heap.size, 0, none⟩ = some (.int .i64 kd) := by simp [World.cell?, hX9]
          have x1 : X9.cell? ⟨wr.heap.size, 1, none⟩ = some (.string nm) := by simp [World.cell?, hX9]
          have x2 : X9.cell? ⟨wr.heap.size, 2, none⟩ = some (.string vl) := by simp [World.cell?, hX9]
          have HX9 := hide hX9
          clear HAL HRI HRF b9 p1 hF8 hX9
          by_cases hkd : kd = 1
          · by_cases hvl : vl = ⟨#[]⟩
            · have e1 : (kd == 1) = true := by simp [hkd]
              have e2 : vl.toList.isEmpty = true := by rw [hvl, ByteArray.toList_eq]; rfl
              clear hkd hvl
              go_wp2_with fail
              go_roundw
              case rel => exact ⟨k + 1, by omega, by go_num, HB9⟩
              case measure => simp [intOf]; omega
            · by_cases hcn : cn xs nm = 1
              · have HGG := hide (HGK.out hkd hvl hcn)
                have HGA := hide (lst.get_any _ T nm X9 (HL6.out.below HB9.out) (by have := HSL.out; omega))
                rw [HGG.out] at HGA
                have e1 : (kd == 1) = true := by simp [hkd]
                have e2 : vl.toList.isEmpty = false := sent.not_emp hvl
                have e3 : decide (cn xs nm = 1) = true := decide_eq_true hcn
                clear hkd hvl hcn
                go_wp2_with fail
                refine HGA.out.mono ?_
                rintro x Y1 ⟨rfl, b1⟩
                have HBY := hide (HB9.out.trans (b1.mono HB9.out.size))
                have hY1 := (b1.block _ (Array.getElem?_eq_some_iff.1 HX9.out).1).trans HX9.out
                have y2 : Y1.cell? ⟨wr.heap.size, 2, none⟩ = some (.string vl) := by simp [World.cell?, hY1]
                clear HGA HGG b1 hY1 x0 x1 x2
                go_wp2_with fail
                go_roundw
                case rel => exact ⟨k + 1, by omega, by go_num, HBY⟩
                case measure => simp [intOf]; omega
              · have e1 : (kd == 1) = true := by simp [hkd]
                have e2 : vl.toList.isEmpty = false := sent.not_emp hvl
                have e3 : decide (cn xs nm = 1) = false := decide_eq_false hcn
                clear hkd hvl hcn
                go_wp2_with fail
                go_roundw
                case rel => exact ⟨k + 1, by omega, by go_num, HB9⟩
                case measure => simp [intOf]; omega
          · have e1 : (kd == 1) = false := by simpa using hkd
            clear hkd
            go_wp2_with fail
            go_roundw
            case rel => exact ⟨k + 1, by omega, by go_num, HB9⟩
            case measure => simp [intOf]; omega
        · have k1 : ¬ (k : Int) < (xs.length : Int) := by omega
          have HWE := hide (HW6.out.trans (HBr.out.mono HW6.out.size))
          go_wp2_with fail
          go_ret
          exact ⟨rfl, HWE.out⟩
end Go.Proofs.YtjalggkhpnfbiaaDoor.br
