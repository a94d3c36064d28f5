import Derived.Test.YtkkgngmhdlmgnaaDoorRefObj
import Derived.Test.YtkkgngmhdlmgnaaDoorObjWalk3
import Derived.Shelf.Strconv.Itoa3
import Derived.Lib.AppendIntMem
namespace Go.Proofs.YtkkgngmhdlmgnaaDoor.jw
open Go.ChangeShapes Go.WideShapes Go.ChangeAt Go.RowKit Go.Proofs.YtkkgngmhdlmgnaaDoor.common
attribute [local go_sem ↓] Go.wp_at_zero Go.wp_at_succ

theorem itoa_any (i : Int) (w : World) (hi : Json.inRange i) (hp : Pow w.heap.size w) :
    Calls Tryd.prog 26 #[.int .i64 i] w fun e w' => e = .returned (S (Lib.itoa i)) ∧ Below w.heap.size w w' := by
  refine (Any.strconv_Itoa jl.lays171 i hi.1 hi.2 w (hp w (Below.refl _ _))).mono ?_
  rintro e w' ⟨rfl, k, os, rfl⟩
  exact ⟨rfl, Lib.below_grow _ w (Nat.le_refl _) k os⟩

theorem pow_below {w w' : World} (h : Pow w.heap.size w) (hb : Below w.heap.size w w') : Pow w'.heap.size w' := fun w'' h'' => h w'' (hb.trans (h''.mono hb.size))
theorem fin_list (T1 : ByteArray) (l : List Mem) (k : Nat) (hlt : k < l.length) (p : Mem) (hp : l[k] = p) (h : T1.data.toList = 123 :: (Json.rowOf (l.take k) ++ sep (l.take k))) (V : ByteArray) (hV : V.data.toList = Json.valueOf p) (Q : ByteArray) (hQ : (⟨(Json.quote p.name).toArray⟩ : ByteArray) = Q) :
    (T1 ++ Q ++ ⟨#[58]⟩ ++ V).data.toList = 123 :: Json.rowOf (l.take (k + 1)) := by
  subst hQ
  rw [List.take_succ_eq_append_getElem hlt, row_snoc, hp]
  rw [ByteArray.data_append, ByteArray.data_append, ByteArray.data_append, Array.toList_append, Array.toList_append, Array.toList_append, h, hV]
  unfold Json.memberOf
  simp

theorem itoa_le (n : Int) (h : Json.inRange n) : (Lib.itoa n).length ≤ 21 := by
  exact Lib.itoa_length_le n h.1 h.2

set_option maxRecDepth 100000 in
set_option maxHeartbeats 3200000 in
theorem refObject_any (v : Value) (l : List Mem) (w : World) (hl : Lies w v l) (hr : ∀ m ∈ l, Json.inRange m.num) (ht : tot l + 100 ≤ 140737488355328) (hn : l.length ≤ 4611686018427387904) (hp : Pow w.heap.size w) :
    Calls Tryd.prog 12 #[v] w fun x w' => x = .returned (if Json.check l = 0 then .tuple #[S (Json.objOf l), .int .i64 0] else .tuple #[S [], .int .i64 ((Json.check l : Nat) : Int)]) ∧ Below w.heap.size w w' := by
  have HL := hide hl
  have HR := hide hr
  have HP := hide hp
  have HZ : Hid (∀ m ∈ l, 6 * (m.name.length + m.text.length) + 40 ≤ tot l) := fun m hm => tot_mem hm
  obtain ⟨oa, ca, rfl, hcp, hca⟩ := hl
  have HA := hide hca
  clear hr hp hca
  by_cases hck : Json.check l = 0
  · rw [if_pos hck]
    have HCK := hide hck
    clear hck
    go_enter Tryd.func12, Tryd.ntmps12
    go_wp2_with fail
    refine (refCheck_any _ l w HL.out (fun m hm => by have := HZ.out m hm; omega) hn).mono ?_
    rintro x w1 ⟨rfl, hb1⟩
    rw [HCK.out]
    have hz0 : ((0 : Nat) : Int) = 0 := rfl
    rw [hz0]
    have HX1 := hide hb1
    clear hb1
    go_wp2_with fail
    go_loopw [5, 6] (fun o i wr => ∃ (k : Nat) (T : ByteArray), k ≤ l.length ∧ o = .string T ∧ i = .int .i64 k ∧ Hid (T.data.toList = 123 :: Json.rowOf (l.take k)) ∧ Below w.heap.size w wr) (fun _ i _ => l.length - (intOf i).toNat)
    case atStart => exact ⟨0, ⟨#[123]⟩, Nat.zero_le _, rfl, rfl, rfl, HX1.out⟩
    case round =>
      obtain ⟨k, T, hk, rfl, rfl, HTT, hnx⟩ := hrel
      have hTs : T.size ≤ 1 + tot (l.take k) := by
        have h1 : T.data.toList.length = T.size := by simp
        have h2 := row_len (l.take k) (fun m hm => HR.out m (List.mem_of_mem_take hm))
        rw [← h1, HTT.out, List.length_cons]
        omega
      by_cases hlt : k < l.length
      · have hki : (k : Int) < (l.length : Int) := by omega
        have k0 : (0 : Int) ≤ (k : Int) := Int.natCast_nonneg _
        have hzz := HZ.out _ (List.getElem_mem hlt)
        have hpi := List.getElem_mem hlt
        have htk := tot_take l k hlt
        have hck2 := (Json.check_ok HCK.out).2.1 _ hpi
        obtain ⟨b, o, rfl, hb, ha⟩ := HA.out k hlt
        have hA := ha.below hnx hb
        have d0 := hA.c0
        have d1 := hA.c1
        have d2 := hA.c2
        have d3 := hA.c3
        have d4 := hA.c4
        have hbl : b < wr.heap.size := Nat.lt_of_lt_of_le hb hnx.size
        obtain ⟨p, hp⟩ : ∃ p, l[k] = p := ⟨_, rfl⟩
        rw [hp] at d0 d1 d2 d3 d4 hzz hpi hck2 htk
        have HPP := hide hp
        have HPI := hide hpi
        have HPM := hide hck2.2
        have hkn := (known_iff _).1 hck2.1
        obtain ⟨K, hK⟩ : ∃ K, p.kind = K := ⟨_, rfl⟩
        rw [hK] at d1 hkn
        have HK := hide hK
        have HVN : Hid (Lib.validD p.name = true) := by
          have := HPM.out
          unfold Json.plainMem at this
          rw [Bool.and_eq_true] at this
          exact this.1
        have HX := hide hnx
        clear hA ha hp hpi hck2 hK hnx
        by_cases hk0 : k = 0
        · have HT1 : Hid (T.data.toList = 123 :: (Json.rowOf (l.take k) ++ sep (l.take k))) := by
            show _ = _
            rw [HTT.out, hk0]; rfl
          have hkz : ¬ (0 : Int) < (k : Int) := by omega
          have hkn2 : ¬ 0 < k := by omega
          have hkd : decide (0 < k) = false := decide_eq_false hkn2
          clear HTT hk0
          go_wp2_with fail
          refine (refQuote_any ⟨p.name.toArray⟩ wr (by rw [str_size]; omega)).mono ?_
          rintro x w2 ⟨rfl, hb2⟩
          rw [str_list, if_pos HVN.out]
          obtain ⟨Q, hQ⟩ : ∃ Q : ByteArray, (⟨(Json.quote p.name).toArray⟩ : ByteArray) = Q := ⟨_, rfl⟩
          have hQs : Q.size ≤ 6 * p.name.length + 2 := by rw [← hQ, str_size]; exact quote_len _
          have hSQ : S (Json.quote p.name) = .string Q := by unfold S; rw [hQ]
          rw [hSQ]
          have HQ := hide hQ
          clear hQ hSQ
          have HX2 := hide (HX.out.trans (hb2.mono HX.out.size))
          have e1 := (hb2.cell (p := ⟨b, o + k * 5 + 1, none⟩) hbl).trans d1
          have e2 := (hb2.cell (p := ⟨b, o + k * 5 + 2, none⟩) hbl).trans d2
          have e3 := (hb2.cell (p := ⟨b, o + k * 5 + 3, none⟩) hbl).trans d3
          have e4 := (hb2.cell (p := ⟨b, o + k * 5 + 4, none⟩) hbl).trans d4
          clear hb2 d0 d1 d2 d3 d4
          rcases hkn with rfl | rfl | rfl
          · have HVT : Hid (Lib.validD p.text = true) := by
              have := HPM.out
              unfold Json.plainMem at this
              rw [HK.out] at this
              simp at this
              exact this.2
            go_wp2_with fail
            refine (refQuote_any ⟨p.text.toArray⟩ w2 (by rw [str_size]; omega)).mono ?_
            rintro x w3 ⟨rfl, hb3⟩
            rw [str_list, if_pos HVT.out]
            obtain ⟨V, hV⟩ : ∃ V : ByteArray, (⟨(Json.quote p.text).toArray⟩ : ByteArray) = V := ⟨_, rfl⟩
            have hVs : V.size ≤ 6 * p.text.length + 2 := by rw [← hV, str_size]; exact quote_len _
            have hSV : S (Json.quote p.text) = .string V := by unfold S; rw [hV]
            rw [hSV]
            have HV : Hid (V.data.toList = Json.quote p.text) := by show _ = _; rw [← hV]
            clear hV hSV
            have HX3 := hide (HX2.out.trans (hb3.mono HX2.out.size))
            clear hb3
            go_wp2
            go_roundw
            case rel => exact ⟨k + 1, _, by omega, rfl, by go_num, fin_list T l k hlt p HPP.out HT1.out _ (by rw [HV.out]; unfold Json.valueOf; rw [if_pos HK.out]) Q HQ.out, HX3.out⟩
            case measure => simp [intOf] <;> omega
          · go_wp2_with fail
            refine (itoa_any p.num w2 (HR.out p HPI.out) (pow_below HP.out HX2.out)).mono ?_
            rintro x w3 ⟨rfl, hb3⟩
            obtain ⟨V, hV⟩ : ∃ V : ByteArray, (⟨(Lib.itoa p.num).toArray⟩ : ByteArray) = V := ⟨_, rfl⟩
            have hVs : V.size ≤ 21 := by rw [← hV, str_size]; exact itoa_le _ (HR.out p HPI.out)
            have hSV : S (Lib.itoa p.num) = .string V := by unfold S; rw [hV]
            rw [hSV]
            have HV : Hid (V.data.toList = Lib.itoa p.num) := by show _ = _; rw [← hV]
            clear hV hSV
            have HX3 := hide (HX2.out.trans (hb3.mono HX2.out.size))
            clear hb3
            go_wp2
            go_roundw
            case rel => exact ⟨k + 1, _, by omega, rfl, by go_num, fin_list T l k hlt p HPP.out HT1.out _ (by rw [HV.out]; unfold Json.valueOf; rw [if_neg (by rw [HK.out]; decide), if_pos HK.out]) Q HQ.out, HX3.out⟩
            case measure => simp [intOf] <;> omega
          · obtain ⟨F, hF⟩ : ∃ F, p.flag = F := ⟨_, rfl⟩
            rw [hF] at e4
            have HF := hide hF
            clear hF
            cases F with
            | true =>
              go_wp2
              go_roundw
              case rel => exact ⟨k + 1, _, by omega, rfl, by go_num, fin_list T l k hlt p HPP.out HT1.out _ (by unfold Json.valueOf; rw [if_neg (by rw [HK.out]; decide), if_neg (by rw [HK.out]; decide), HF.out]; rfl) Q HQ.out, HX2.out⟩
              case measure => simp [intOf] <;> omega
            | false =>
              go_wp2
              go_roundw
              case rel => exact ⟨k + 1, _, by omega, rfl, by go_num, fin_list T l k hlt p HPP.out HT1.out _ (by unfold Json.valueOf; rw [if_neg (by rw [HK.out]; decide), if_neg (by rw [HK.out]; decide), HF.out]; rfl) Q HQ.out, HX2.out⟩
              case measure => simp [intOf] <;> omega
        · have HT1 : Hid ((T ++ (⟨#[44]⟩ : ByteArray)).data.toList = 123 :: (Json.rowOf (l.take k) ++ sep (l.take k))) := by
            show _ = _
            rw [ByteArray.data_append, Array.toList_append, HTT.out]
            unfold sep
            rw [if_neg (by intro h; have := congrArg List.length h; rw [List.length_take, List.length_nil] at this; omega)]
            rfl
          have hkz : (0 : Int) < (k : Int) := by omega
          have hkn2 : 0 < k := by omega
          clear HTT hk0
          go_wp2_with fail
          refine (refQuote_any ⟨p.name.toArray⟩ wr (by rw [str_size]; omega)).mono ?_
          rintro x w2 ⟨rfl, hb2⟩
          rw [str_list, if_pos HVN.out]
          obtain ⟨Q, hQ⟩ : ∃ Q : ByteArray, (⟨(Json.quote p.name).toArray⟩ : ByteArray) = Q := ⟨_, rfl⟩
          have hQs : Q.size ≤ 6 * p.name.length + 2 := by rw [← hQ, str_size]; exact quote_len _
          have hSQ : S (Json.quote p.name) = .string Q := by unfold S; rw [hQ]
          rw [hSQ]
          have HQ := hide hQ
          clear hQ hSQ
          have HX2 := hide (HX.out.trans (hb2.mono HX.out.size))
          have e1 := (hb2.cell (p := ⟨b, o + k * 5 + 1, none⟩) hbl).trans d1
          have e2 := (hb2.cell (p := ⟨b, o + k * 5 + 2, none⟩) hbl).trans d2
          have e3 := (hb2.cell (p := ⟨b, o + k * 5 + 3, none⟩) hbl).trans d3
          have e4 := (hb2.cell (p := ⟨b, o + k * 5 + 4, none⟩) hbl).trans d4
          clear hb2 d0 d1 d2 d3 d4
          rcases hkn with rfl | rfl | rfl
          · have HVT : Hid (Lib.validD p.text = true) := by
              have := HPM.out
              unfold Json.plainMem at this
              rw [HK.out] at this
              simp at this
              exact this.2
            go_wp2_with fail
            refine (refQuote_any ⟨p.text.toArray⟩ w2 (by rw [str_size]; omega)).mono ?_
            rintro x w3 ⟨rfl, hb3⟩
            rw [str_list, if_pos HVT.out]
            obtain ⟨V, hV⟩ : ∃ V : ByteArray, (⟨(Json.quote p.text).toArray⟩ : ByteArray) = V := ⟨_, rfl⟩
            have hVs : V.size ≤ 6 * p.text.length + 2 := by rw [← hV, str_size]; exact quote_len _
            have hSV : S (Json.quote p.text) = .string V := by unfold S; rw [hV]
            rw [hSV]
            have HV : Hid (V.data.toList = Json.quote p.text) := by show _ = _; rw [← hV]
            clear hV hSV
            have HX3 := hide (HX2.out.trans (hb3.mono HX2.out.size))
            clear hb3
            go_wp2
            go_roundw
            case rel => exact ⟨k + 1, _, by omega, rfl, by go_num, fin_list (T ++ (⟨#[44]⟩ : ByteArray)) l k hlt p HPP.out HT1.out _ (by rw [HV.out]; unfold Json.valueOf; rw [if_pos HK.out]) Q HQ.out, HX3.out⟩
            case measure => simp [intOf] <;> omega
          · go_wp2_with fail
            refine (itoa_any p.num w2 (HR.out p HPI.out) (pow_below HP.out HX2.out)).mono ?_
            rintro x w3 ⟨rfl, hb3⟩
            obtain ⟨V, hV⟩ : ∃ V : ByteArray, (⟨(Lib.itoa p.num).toArray⟩ : ByteArray) = V := ⟨_, rfl⟩
            have hVs : V.size ≤ 21 := by rw [← hV, str_size]; exact itoa_le _ (HR.out p HPI.out)
            have hSV : S (Lib.itoa p.num) = .string V := by unfold S; rw [hV]
            rw [hSV]
            have HV : Hid (V.data.toList = Lib.itoa p.num) := by show _ = _; rw [← hV]
            clear hV hSV
            have HX3 := hide (HX2.out.trans (hb3.mono HX2.out.size))
            clear hb3
            go_wp2
            go_roundw
            case rel => exact ⟨k + 1, _, by omega, rfl, by go_num, fin_list (T ++ (⟨#[44]⟩ : ByteArray)) l k hlt p HPP.out HT1.out _ (by rw [HV.out]; unfold Json.valueOf; rw [if_neg (by rw [HK.out]; decide), if_pos HK.out]) Q HQ.out, HX3.out⟩
            case measure => simp [intOf] <;> omega
          · obtain ⟨F, hF⟩ : ∃ F, p.flag = F := ⟨_, rfl⟩
            rw [hF] at e4
            have HF := hide hF
            clear hF
            cases F with
            | true =>
              go_wp2
              go_roundw
              case rel => exact ⟨k + 1, _, by omega, rfl, by go_num, fin_list (T ++ (⟨#[44]⟩ : ByteArray)) l k hlt p HPP.out HT1.out _ (by unfold Json.valueOf; rw [if_neg (by rw [HK.out]; decide), if_neg (by rw [HK.out]; decide), HF.out]; rfl) Q HQ.out, HX2.out⟩
              case measure => simp [intOf] <;> omega
            | false =>
              go_wp2
              go_roundw
              case rel => exact ⟨k + 1, _, by omega, rfl, by go_num, fin_list (T ++ (⟨#[44]⟩ : ByteArray)) l k hlt p HPP.out HT1.out _ (by unfold Json.valueOf; rw [if_neg (by rw [HK.out]; decide), if_neg (by rw [HK.out]; decide), HF.out]; rfl) Q HQ.out, HX2.out⟩
              case measure => simp [intOf] <;> omega
      · obtain rfl : k = l.length := by omega
        have HFT : Hid (Value.string (T ++ ⟨#[125]⟩) = S (Json.objOf l)) := by
          show _ = _
          have h2 := HTT.out
          rw [List.take_length] at h2
          unfold S
          congr 1
          apply ByteArray.ext
          rw [ByteArray.data_append]
          apply Array.toList_inj.1
          rw [Array.toList_append, h2]
          rfl
        have HX := hide hnx
        have hTz : T.size ≤ 1 + tot l := by rwa [List.take_length] at hTs
        clear hnx hTs
        go_wp2
        go_ret2
        exact ⟨by rw [← HFT.out]; rfl, HX.out⟩
  · rw [if_neg hck]
    obtain ⟨c, hc⟩ : ∃ c : Int, ((Json.check l : Nat) : Int) = c := ⟨_, rfl⟩
    have hc0 : ¬ c = 0 := by omega
    have hce : (c == 0) = false := beq_false_of_ne hc0
    have hcn : (c != 0) = true := by simp [bne, hce]
    have HC := hide hc
    rw [hc]
    clear hck hc
    go_enter Tryd.func12, Tryd.ntmps12
    go_wp2_with fail
    refine (refCheck_any _ l w HL.out (fun m hm => by have := HZ.out m hm; omega) hn).mono ?_
    rintro x w1 ⟨rfl, hb1⟩
    rw [HC.out]
    have HX1 := hide hb1
    clear hb1
    go_wp2
    go_ret2
    exact ⟨rfl, HX1.out⟩
end Go.Proofs.YtkkgngmhdlmgnaaDoor.jw
