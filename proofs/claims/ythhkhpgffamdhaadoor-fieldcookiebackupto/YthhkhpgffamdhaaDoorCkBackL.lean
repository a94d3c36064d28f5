import Derived.Test.YthhkhpgffamdhaaDoorCkBackM
import Derived.Test.YthhkhpgffamdhaaDoorCkText2
import Derived.Test.YthhkhpgffamdhaaDoorCrumb
import Derived.Test.YthhkhpgffamdhaaDoorSameWalks
import Derived.Test.YthhkhpgffamdhaaDoorListCopy
import Derived.Test.YthhkhpgffamdhaaDoorErrWalks
import Derived.Test.YthhkhpgffamdhaaDoorListOpen
namespace Go.Proofs.YthhkhpgffamdhaaDoor.fd
open Go.ChangeShapes Go.WideShapes Go.ChangeAt Go.RowKit Go.Proofs.YthhkhpgffamdhaaDoor.common Go.Proofs.YthhkhpgffamdhaaDoor.bk
open Go.Proofs.YthhkhpgffamdhaaDoor.lst (PB Lies Row)
attribute [local go_sem ↓] Go.wp_at_zero Go.wp_at_succ

theorem err_eql (w : World) (a : Addr) : (binOp .eql 28 (X a) (X a)).run Tryd.prog w = .ok (.bool true) w := by
  obtain ⟨info, hinfo, hcomp⟩ := Option.map_eq_some_iff.1 errw.compErr
  obtain ⟨jinfo, hj1, hj2⟩ := Option.map_eq_some_iff.1 errw.sizeErr
  exact run_eql_iface_ptr_same w a Tryd.underlying28 Tryd.underlying172 hinfo hcomp hj1

theorem bulk_totB {H : Type} (l : List PB) : tot l ≤ 3 * Rows.uptoBulkAll (l.map (lst.dat (H := H))) := by
  induction l with
  | nil => exact Nat.zero_le _
  | cons p r ih =>
    have e : Rows.uptoBulkAll ((p :: r).map (lst.dat (H := H))) = Rows.uptoBulk (lst.dat (H := H) p) + Rows.uptoBulkAll (r.map (lst.dat (H := H))) := by
      rw [List.map_cons, Rows.uptoBulkAll]
    have h2 : p.1.size + p.2.size + 1 ≤ Rows.uptoBulk (lst.dat (H := H) p) := by
      unfold lst.dat
      simp only [Rows.uptoBulk, Rows.uptoBulkAll, len_list]
      omega
    rw [e]
    show p.1.size + p.2.size + 3 + tot r ≤ _
    omega

set_option maxRecDepth 100000 in
set_option maxHeartbeats 6400000 in
theorem lawCookieBack (v : Value) (l : List PB) (w : World) (hl : Lies w v l) (hn : (l.length + 2) * 32 ≤ 140737488355328) (hs : tot l ≤ 140737488355328) (ea em : Addr) (he : Ev 0 w (X ea)) (hm : Ev 1 w (X em)) :
    Calls Tryd.prog 5 #[v] w fun x w' => x = .returned (.bool true) ∧ Below w.heap.size w w' := by
  have HL := hide hl
  have HE : Hid (∀ W, Below w.heap.size w W → Ev 0 W (X ea)) := fun W hW => he.below hW
  have HM : Hid (∀ W, Below w.heap.size w W → Ev 1 W (X em)) := fun W hW => hm.below hW
  have HT : Hid (∀ W, Below w.heap.size w W → Calls Tryd.prog 17 #[v] W fun x w' => x = .returned (ckTextR l (X em) (X ea)) ∧ Below W.heap.size W w') := fun W hW => cookieText_any v l W (hl.below hW) hs _ _ (hm.below hW) (he.below hW)
  have HSZ : Hid (∀ k (h : k < l.length), l[k].1.size ≤ 4611686018427387904 ∧ l[k].2.size ≤ 4611686018427387904) := by
    intro k h
    have := tot_mem (List.getElem_mem h)
    exact ⟨by omega, by omega⟩
  have HJ : Hid ((joinB l).size ≤ 140737488355328) := by
    show _ ≤ _
    unfold joinB; rw [str_size]; exact Nat.le_trans (joinL_len l) hs
  obtain ⟨ov, cv, rfl, _⟩ := hl
  clear he hm
  go_enter Tryd.func5, Tryd.ntmps5
  go_wp2_with fail
  refine (lst.copied_any _ l w HL.out (by omega)).mono ?_
  rintro x w1 ⟨v1, rfl, ho1, hb1⟩
  have HO1 := hide (lst.lies_of_own ho1)
  have HB1 := hide hb1
  obtain ⟨o1, c1, rfl, hc1⟩ := HO1.out
  have HC1 := hide hc1
  clear hb1 ho1 hc1
  go_wp2_with fail
  refine (HT.out w1 HB1.out).mono ?_
  rintro x w2 ⟨rfl, hb2⟩
  have HO2 := hide (HO1.out.below hb2)
  have HC2 : Hid (∀ i (h : i < l.length), ∃ b o, o1 = some ⟨b, o, none⟩ ∧ b < w2.heap.size ∧ w2.cell? ⟨b, o + i * 2, none⟩ = some (.string l[i].1) ∧ w2.cell? ⟨b, o + i * 2 + 1, none⟩ = some (.string l[i].2)) := by
    intro i h
    obtain ⟨b, o, hb, hlt, c0, c1⟩ := HC1.out i h
    exact ⟨b, o, hb, Nat.lt_of_lt_of_le hlt hb2.size, (hb2.cell hlt).trans c0, (hb2.cell hlt).trans c1⟩
  have HB2 := hide (keepD HB1.out hb2)
  clear hb2 HO1 HC1
  by_cases hbig : 16 < l.length
  · have hbi : (16 : Int) < (l.length : Int) := by omega
    rw [show ckTextR l (X em) (X ea) = .tuple #[.string ⟨#[]⟩, X em] by unfold ckTextR; rw [if_pos hbig]]
    have hx : w2.cell? ⟨1, 0, none⟩ = some (X em) := HM.out w2 HB2.out
    have hq := err_eql w2 em
    go_wp2_with fail
    go_ret
    exact ⟨by simp, HB2.out⟩
  · have hbi : ¬ (16 : Int) < (l.length : Int) := by omega
    rw [show ckTextR l (X em) (X ea) = if allCk l then .tuple #[.string (joinB l), .nilIface] else .tuple #[.string ⟨#[]⟩, X ea] by unfold ckTextR; rw [if_neg hbig]]
    have HAT : Hid (∀ k (h : k < l.length), allCk (l.take (k + 1)) = (allCk (l.take k) && isCk l[k].1 l[k].2)) := fun k h => allCk_take l k h
    have HAF : Hid (∀ k, allCk (l.take k) = false → allCk l = false) := fun k h => allCk_false h
    have HAE : Hid (∀ k, k = l.length → allCk (l.take k) = allCk l) := fun k h => by subst h; rw [List.take_length]
    cases hall : allCk l with
    | false =>
      rw [if_neg (by decide)]
      have HF : Hid (allCk l = false) := hall
      clear hall hbig
      go_wp2_with fail
      go_loopw [6] (fun i wr => ∃ k : Nat, k ≤ l.length ∧ i = .int .i64 k ∧ allCk (l.take k) = true ∧ Below w2.heap.size w2 wr) (fun i _ => l.length - (intOf i).toNat)
      case atStart => exact ⟨0, Nat.zero_le _, rfl, rfl, Below.refl _ _⟩
      case round =>
        obtain ⟨k, hk, rfl, hak, hnx⟩ := hrel
        have HX := hide hnx
        have HAK := hide hak
        clear hnx hak
        by_cases hlt : k < l.length
        · have hki : (k : Int) < (l.length : Int) := by omega
          have k0 : (0 : Int) ≤ (k : Int) := Int.natCast_nonneg _
          obtain ⟨b, o, rfl, hb, c0, c1⟩ := HC2.out k hlt
          have d0 := (HX.out.cell (p := ⟨b, o + k * 2, none⟩) hb).trans c0
          have HD1 : Hid (∀ W, Below w2.heap.size w2 W → W.cell? ⟨b, o + k * 2 + 1, none⟩ = some (.string l[k].2)) := fun W hW => (hW.cell (p := ⟨b, o + k * 2 + 1, none⟩) hb).trans c1
          have hsz := HSZ.out k hlt
          have HTK := hide (HAT.out k hlt)
          clear c0 c1
          have HIC : Hid (isCk l[k].1 l[k].2 = (Fd.token l[k].1.data.toList && l[k].2.data.toList.all Fd.ck)) := rfl
          rw [HIC.out] at HTK
          generalize l[k] = p at *
          go_wp2_with fail
          refine (token_any p.1 wr hsz.1).mono ?_
          rintro x w3 ⟨rfl, hb3⟩
          have HX3 := hide (HX.out.trans (hb3.mono HX.out.size))
          have d1 := HD1.out w3 HX3.out
          clear hb3
          cases htok : Fd.token p.1.data.toList with
          | false =>
            have hx : w3.cell? ⟨0, 0, none⟩ = some (X ea) := HE.out w3 (HB2.out.trans (HX3.out.mono HB2.out.size))
            have hq := err_eql w3 ea
            go_wp2_with fail
            go_ret
            exact ⟨by simp, HB2.out.trans (HX3.out.mono HB2.out.size)⟩
          | true =>
            rw [htok, Bool.true_and] at HTK
            go_wp2_with fail
            refine (crumb_any p.2 w3 hsz.2).mono ?_
            rintro x w4 ⟨rfl, rfl⟩
            cases hck : p.2.data.toList.all Fd.ck with
            | false =>
              have hx : w4.cell? ⟨0, 0, none⟩ = some (X ea) := HE.out w4 (HB2.out.trans (HX3.out.mono HB2.out.size))
              have hq := err_eql w4 ea
              go_wp2_with fail
              go_ret
              exact ⟨by simp, HB2.out.trans (HX3.out.mono HB2.out.size)⟩
            | true =>
              rw [hck, HAK.out] at HTK
              go_wp2_with fail
              go_roundw
              case rel => exact ⟨k + 1, by omega, by go_num, HTK.out, HX3.out⟩
              case measure => simp [intOf]; omega
        · exfalso
          have hke : k = l.length := by omega
          have := HAE.out k hke
          rw [HAK.out, HF.out] at this
          cases this
    | true =>
      rw [if_pos rfl]
      have HA : Hid (∀ k (h : k < l.length), Fd.token l[k].1.data.toList = true ∧ l[k].2.data.toList.all Fd.ck = true) := by
        intro k h
        have := List.all_eq_true.1 hall l[k] (List.getElem_mem h)
        exact Bool.and_eq_true_iff.1 this
      obtain ⟨hb1, hb2, hb3⟩ := ck_back l hall (by omega)
      have HBK : Hid ((pcsL (joinB l).data.toList []).length = l.length ∧ (pcsL (joinB l).data.toList []).all pcOk = true ∧ (pcsL (joinB l).data.toList []).map mkP = l) := ⟨hb1, hb2, hb3⟩
      clear hall hbig hb1 hb2 hb3 HAT HAF HAE
      generalize joinB l = JB at *
      go_wp2_with fail
      go_loopw [6] (fun i wr => ∃ k : Nat, k ≤ l.length ∧ i = .int .i64 k ∧ Below w2.heap.size w2 wr) (fun i _ => l.length - (intOf i).toNat)
      case atStart => exact ⟨0, Nat.zero_le _, rfl, Below.refl _ _⟩
      case round =>
        obtain ⟨k, hk, rfl, hnx⟩ := hrel
        have HX := hide hnx
        clear hnx
        by_cases hlt : k < l.length
        · have hki : (k : Int) < (l.length : Int) := by omega
          have k0 : (0 : Int) ≤ (k : Int) := Int.natCast_nonneg _
          obtain ⟨b, o, rfl, hb, c0, c1⟩ := HC2.out k hlt
          have d0 := (HX.out.cell (p := ⟨b, o + k * 2, none⟩) hb).trans c0
          have HD1 : Hid (∀ W, Below w2.heap.size w2 W → W.cell? ⟨b, o + k * 2 + 1, none⟩ = some (.string l[k].2)) := fun W hW => (hW.cell (p := ⟨b, o + k * 2 + 1, none⟩) hb).trans c1
          have hsz := HSZ.out k hlt
          have HAK := hide (HA.out k hlt)
          clear c0 c1
          generalize l[k] = p at *
          go_wp2_with fail
          refine (token_any p.1 wr hsz.1).mono ?_
          rintro x w3 ⟨rfl, hb3⟩
          have HX3 := hide (HX.out.trans (hb3.mono HX.out.size))
          have d1 := HD1.out w3 HX3.out
          rw [HAK.out.1]
          clear hb3
          go_wp2_with fail
          refine (crumb_any p.2 w3 hsz.2).mono ?_
          rintro x w4 ⟨rfl, rfl⟩
          rw [HAK.out.2]
          go_wp2_with fail
          go_roundw
          case rel => exact ⟨k + 1, by omega, by go_num, HX3.out⟩
          case measure => simp [intOf]; omega
        · have hkn : ¬ (k : Int) < (l.length : Int) := by omega
          have HBr := hide (HB2.out.trans (HX.out.mono HB2.out.size))
          go_wp2_with fail
          refine (cookies_any JB wr HJ.out ea em (HE.out wr HBr.out) (HM.out wr HBr.out)).mono ?_
          rintro x w5 ⟨hb5, h5⟩
          have HB5 := hide (keepD HBr.out hb5)
          have HO5 := hide ((HO2.out.below HX.out).below hb5)
          obtain ⟨q1, q2, q3⟩ := HBK.out
          rcases h5 with ⟨h5, _⟩ | ⟨_, h5, _⟩ | ⟨_, _, v5, rfl, ho5⟩
          · exfalso; omega
          · exfalso; rw [q2] at h5; cases h5
          · rw [q3] at ho5
            have HM5 := hide (lst.lies_of_own ho5)
            clear hb5 ho5 q1 q2 q3
            go_wp2_with fail
            refine (lst.same_any _ _ l w5 HM5.out HO5.out (by omega)).mono ?_
            rintro x w6 ⟨rfl, hb6⟩
            have HB6 := hide (keepD HB5.out hb6)
            clear hb6
            go_wp2_with fail
            go_ret
            exact ⟨by simp, HB6.out⟩

end Go.Proofs.YthhkhpgffamdhaaDoor.fd
