import Derived.Test.YtaeleccngpfngaaDoorRefAll
import Derived.Test.YtaeleccngpfngaaDoorTagMath
namespace Go.Proofs.YtaeleccngpfngaaDoor.pg
open Go.ChangeShapes Go.WideShapes Go.ChangeAt Go.RowKit Go.Proofs.YtaeleccngpfngaaDoor.common Go.Maps
attribute [local go_sem ↓] Go.wp_at_zero Go.wp_at_succ

theorem shIn_len (x : Inp) : (shIn x).length ≤ 62 := by
  unfold shIn
  split
  · decide
  split
  · decide
  split <;> decide
theorem shIns_len : ∀ xs : List Inp, (xs.flatMap shIn).length ≤ 6 * insW xs
  | [] => Nat.le_refl _
  | x :: r => by
    have h1 := shIn_len x
    have h2 := shIns_len r
    rw [List.flatMap_cons, List.length_append]
    show _ ≤ 6 * (inW x + 100 + insW r)
    omega
theorem shFrm_len (f : Frm) : (shFrm f).length ≤ 6 * frmW f := by
  have h := shIns_len f.ins
  have e1 : sForm.data.toList.length = 26 := rfl
  have e2 : sFormEnd.data.toList.length = 39 := rfl
  unfold shFrm
  rw [List.length_append, List.length_append, e1, e2]
  show _ ≤ 6 * (f.act.size + insW f.ins + f.but.size + 100)
  omega
theorem shFrms_len : ∀ fs : List Frm, (fs.flatMap shFrm).length ≤ 6 * frmsW fs
  | [] => Nat.le_refl _
  | f :: r => by
    have h1 := shFrm_len f
    have h2 := shFrms_len r
    rw [List.flatMap_cons, List.length_append]
    show _ ≤ 6 * (frmW f + frmsW r)
    omega
def shLn (_ : ByteArray) : List UInt8 := sLine.data.toList
theorem shLines_len : ∀ ls : List ByteArray, (ls.flatMap shLn).length ≤ 6 * linesW ls
  | [] => Nat.le_refl _
  | s :: r => by
    have h2 := shLines_len r
    have e : (shLn s).length = 7 := rfl
    rw [List.flatMap_cons, List.length_append, e]
    show _ ≤ 6 * (s.size + 20 + linesW r)
    omega

set_option maxRecDepth 100000 in
set_option maxHeartbeats 3200000 in
theorem shape_any (w : World) (t : ByteArray) (vL vF : Value) (ls : List ByteArray) (fs : List Frm) (hL : LiesS w vL ls) (hF : LiesF w vF fs) (hl : 6 * pageW t ls fs + 6 ≤ 140737488355) (hls : ls.length ≤ 4611686018427387904) (hfs : fs.length ≤ 4611686018427387904) (hfi : ∀ f ∈ fs, f.ins.length ≤ 4611686018427387904) (hok : ∀ f ∈ fs, okF f = true) :
    Calls Tryd.prog 11 #[.agg #[.string t, vL, vF]] w fun e w' => e = .returned (S (shPage ls fs)) ∧ Below w.heap.size w w' := by
  obtain ⟨ol, cl, rfl, hLc⟩ := hL
  obtain ⟨of, cf, rfl, hFc⟩ := hF
  have hpl : 6 * (t.size + t.size + linesW ls + frmsW fs + 300) + 6 ≤ 140737488355 := hl
  have BA : Below w.heap.size w (w.alloc (.cells #[.string t, .slice ol ls.length cl, .slice of fs.length cf] 25)) := (Below.refl _ _).alloc (Nat.le_refl _) _
  have hP : (w.alloc (.cells #[.string t, .slice ol ls.length cl, .slice of fs.length cf] 25)).heap[w.heap.size]? = some (.cells #[.string t, .slice ol ls.length cl, .slice of fs.length cf] 25) := by show (w.heap.push _)[w.heap.size]? = _; simp
  have hPl := (Array.getElem?_eq_some_iff.1 hP).1
  have HP := hide hP
  have HBA := hide BA
  have HFC := hide hFc
  have HOKF := hide hok
  have HSL := hide (shLines_len ls)
  have HSF := hide (shFrms_len fs)
  clear hP BA hLc hFc hok
  have hszW : (w.alloc (.cells #[.string t, .slice ol ls.length cl, .slice of fs.length cf] 25)).heap.size = w.heap.size + 1 := by simp
  have s1 : sHead.size = 89 := rfl
  have s2 : sLine.size = 7 := rfl
  have s3 : sForm.size = 26 := rfl
  have s4 : sHidden.size = 32 := rfl
  have s5 : sText.size = 54 := rfl
  have s6 : sSecret.size = 45 := rfl
  have s7 : sBox.size = 62 := rfl
  have s8 : sFormEnd.size = 39 := rfl
  have s9 : sEnd.size = 14 := rfl
  go_enter Tryd.func11, Tryd.ntmps11
  go_wp2_with (at_builtin; refine app_str _ rfl _ _ rfl (w.heap.size + 1) _ [] rfl (World.ownsRow_nil _ _ _ _) sHead rfl (by rw [s1]; decide) (by simp) ?_)
  intro v2 w2 L2 E2 N2 own2 k2
  generalize w.alloc (.cells #[.string t, .slice ol ls.length cl, .slice of fs.length cf] 25) = W at *
  have hwW := HBA.out.size
  rw [← hszW] at own2 k2
  clear hszW
  have O2 := hide own2
  have H2 := hide (k2 _ (Below.refl _ _))
  obtain ⟨ao2, n2, c2, rfl⟩ := own_form own2
  have n2' : L2.length = 89 := N2.out
  clear own2 k2
  go_wp2_with fail
  go_loopw [3, 4] (fun v i wr => ∃ (k : Nat) (L : List UInt8), k ≤ ls.length ∧ i = .int .i64 k ∧ Hid (L = L2 ++ (ls.take k).flatMap shLn) ∧ Hid (wr.ownsRow W.heap.size 5 1 v L.length (L.map B)) ∧ Hid (Below W.heap.size W wr)) (fun _ i _ => ls.length - (intOf i).toNat)
  case atStart => exact ⟨0, L2, by omega, rfl, by show _ = _; rw [List.take_zero]; show _ = _ ++ []; rw [List.append_nil], O2, H2⟩
  case round =>
    obtain ⟨k, L, hk, rfl, EL, OL, HL⟩ := hrel
    obtain ⟨aol, nl, cll, rfl⟩ := own_form OL.out
    clear O2 H2
    have hPr := (HL.out.block _ hPl).trans HP.out
    have f1 : wr.cell? ⟨w.heap.size, 1, none⟩ = some (.slice ol ls.length cl) := by simp [World.cell?, hPr]
    have f2 : wr.cell? ⟨w.heap.size, 2, none⟩ = some (.slice of fs.length cf) := by simp [World.cell?, hPr]
    clear hPr
    by_cases hlt : k < ls.length
    · have hki : (k : Int) < (ls.length : Int) := by omega
      have k0 : (0 : Int) ≤ (k : Int) := Int.natCast_nonneg _
      have HS := hide (flat_snocL shLn ls k hlt)
      have HLN : Hid (L.length + 7 ≤ 140737488355) := by
        have h1 := shLines_len (ls.take k)
        have h2 := linesW_take ls k hlt
        show _ ≤ _
        rw [EL.out, List.length_append]
        omega
      go_wp2_with (at_builtin; refine app_str _ rfl _ _ rfl W.heap.size _ L rfl OL.out sLine rfl (by have := HLN.out; rw [s2]; omega) HL.out.size ?_)
      intro v6 w6 L6 E6 N6 own6 k6
      have O6 := hide own6
      have H6 := hide (k6 _ HL.out)
      clear own6 k6
      go_wp2
      go_roundw
      case rel => exact ⟨k + 1, L6, by omega, by go_num, by show _ = _; rw [E6.out, EL.out, HS.out, List.append_assoc]; rfl, O6, H6⟩
      case measure => simp [intOf] <;> omega
    · have hk8 : ¬ (k : Int) < (ls.length : Int) := by omega
      obtain rfl : k = ls.length := by omega
      rw [List.take_length] at EL
      have hLn : L.length ≤ 89 + 6 * linesW ls := by
        have h1 := HSL.out
        rw [EL.out, List.length_append]
        omega
      go_wp2_with fail
      clear f1
      go_loopw [3, 5] (fun v i wr => ∃ (k : Nat) (M : List UInt8), k ≤ fs.length ∧ i = .int .i64 k ∧ Hid (M = L ++ (fs.take k).flatMap shFrm) ∧ Hid (wr.ownsRow W.heap.size 5 1 v M.length (M.map B)) ∧ Hid (Below W.heap.size W wr)) (fun _ i _ => fs.length - (intOf i).toNat)
      case atStart => exact ⟨0, L, by omega, rfl, by show _ = _; rw [List.take_zero]; show _ = _ ++ []; rw [List.append_nil], OL, HL⟩
      case round =>
        obtain ⟨k, M, hk, rfl, EM, OM, HM⟩ := hrel
        obtain ⟨aom, nm, cm, rfl⟩ := own_form OM.out
        clear OL HL f2
        have hPr := (HM.out.block _ hPl).trans HP.out
        have f2 : wr.cell? ⟨w.heap.size, 2, none⟩ = some (.slice of fs.length cf) := by simp [World.cell?, hPr]
        clear hPr
        by_cases hlt : k < fs.length
        · have hki : (k : Int) < (fs.length : Int) := by omega
          have k0 : (0 : Int) ≤ (k : Int) := Int.natCast_nonneg _
          have HS := hide (flat_snocL shFrm fs k hlt)
          have hil := hfi fs[k] (List.getElem_mem hlt)
          have hof := HOKF.out fs[k] (List.getElem_mem hlt)
          have hMN : M.length + 6 * frmW fs[k] + 6 ≤ 140737488355 := by
            have h1 := shFrms_len (fs.take k)
            have h2 := frmsW_take fs k hlt
            rw [EM.out, List.length_append]
            omega
          have hfc := HFC.out k hlt
          obtain ⟨X, hXe⟩ : ∃ X, fs[k] = X := ⟨_, rfl⟩
          rw [hXe] at HS hil hfc hMN hof
          clear hXe
          obtain ⟨fa, fi, fb⟩ := X
          have hfw : frmW ⟨fa, fi, fb⟩ = fa.size + insW fi + fb.size + 100 := rfl
          rw [hfw] at hMN
          clear hfw
          obtain ⟨bl, o, vI, ho, hbl, c0, c1, c2, hI0⟩ := hfc
          cases ho
          obtain ⟨oI, cI, rfl, hIc⟩ := hI0
          have HIC := hide hIc
          have HC1 := hide c1
          have HOF : Hid (∀ x ∈ fi, mayB x = true) := List.all_eq_true.1 hof
          clear c0 c1 c2 hIc hof
          simp only at hil
          go_wp2_with (at_builtin; refine app_str _ rfl _ _ rfl W.heap.size _ M rfl OM.out sForm rfl (by rw [s3]; omega) HM.out.size ?_)
          intro v3 w3 L3 E3 N3 own3 k3
          have O3 := hide own3
          have H3 := hide (k3 _ HM.out)
          obtain ⟨ao3, n3, c3, rfl⟩ := own_form own3
          have n3' : L3.length = M.length + 26 := by have := N3.out; omega
          clear own3 k3
          go_wp2_with fail
          go_loopw [3, 6] (fun v i wr => ∃ (j : Nat) (N : List UInt8), j ≤ fi.length ∧ i = .int .i64 j ∧ Hid (N = L3 ++ (fi.take j).flatMap shIn) ∧ Hid (wr.ownsRow W.heap.size 5 1 v N.length (N.map B)) ∧ Hid (Below W.heap.size W wr)) (fun _ i _ => fi.length - (intOf i).toNat)
          case atStart => exact ⟨0, L3, by omega, rfl, by show _ = _; rw [List.take_zero]; show _ = _ ++ []; rw [List.append_nil], O3, H3⟩
          case round =>
            obtain ⟨j, N, hj, rfl, EN, ON, HN⟩ := hrel
            obtain ⟨aon, nn, cn, rfl⟩ := own_form ON.out
            clear O3 H3 OM HM f2
            have hPr := (HN.out.block _ hPl).trans HP.out
            have f2 : wr.cell? ⟨w.heap.size, 2, none⟩ = some (.slice (some ⟨bl, o, none⟩) fs.length cf) := by simp [World.cell?, hPr]
            have hbr : Below w.heap.size w wr := HBA.out.trans (HN.out.mono hwW)
            have d1 := (hbr.cell (p := ⟨bl, o + k * 3 + 1, none⟩) hbl).trans HC1.out
            clear hPr
            by_cases hlj : j < fi.length
            · have hji : (j : Int) < (fi.length : Int) := by omega
              have j0 : (0 : Int) ≤ (j : Int) := Int.natCast_nonneg _
              have HSJ := hide (flat_snocL shIn fi j hlj)
              have hmb := HOF.out fi[j] (List.getElem_mem hlj)
              have hNN : N.length + 600 ≤ 140737488355 := by
                have h1 := shIns_len (fi.take j)
                have h2 := insW_take fi j hlj
                rw [EN.out, List.length_append]
                omega
              obtain ⟨b2, o2, ho, hb2, c0, _, _, _⟩ := HIC.out j hlj
              cases ho
              have g0 := (hbr.cell (p := ⟨b2, o2 + j * 4, none⟩) hb2).trans c0
              clear c0 hbr
              obtain ⟨Y, hYe⟩ : ∃ Y, fi[j] = Y := ⟨_, rfl⟩
              rw [hYe] at HSJ g0 hmb
              clear hYe
              have hkd := mayB_kind hmb
              obtain ⟨kd, ynm, yvl, ylb⟩ := Y
              simp only at g0 hkd
              have hkc : kd = 1 ∨ kd = 2 ∨ kd = 3 ∨ kd = 4 := by omega
              clear hmb hkd
              rcases hkc with rfl | rfl | rfl | rfl
              · go_wp2_with (at_builtin; refine app_str _ rfl _ _ rfl W.heap.size _ N rfl ON.out sHidden rfl (by rw [s4]; omega) HN.out.size ?_)
                intro v6 w6 L6 E6 N6 own6 k6
                have O6 := hide own6
                have H6 := hide (k6 _ HN.out)
                clear own6 k6
                go_wp2
                go_roundw
                case rel => exact ⟨j + 1, L6, by omega, by go_num, by show _ = _; rw [E6.out, EN.out, HSJ.out, List.append_assoc]; rfl, O6, H6⟩
                case measure => simp [intOf] <;> omega
              · go_wp2_with (at_builtin; refine app_str _ rfl _ _ rfl W.heap.size _ N rfl ON.out sText rfl (by rw [s5]; omega) HN.out.size ?_)
                intro v6 w6 L6 E6 N6 own6 k6
                have O6 := hide own6
                have H6 := hide (k6 _ HN.out)
                clear own6 k6
                go_wp2
                go_roundw
                case rel => exact ⟨j + 1, L6, by omega, by go_num, by show _ = _; rw [E6.out, EN.out, HSJ.out, List.append_assoc]; rfl, O6, H6⟩
                case measure => simp [intOf] <;> omega
              · go_wp2_with (at_builtin; refine app_str _ rfl _ _ rfl W.heap.size _ N rfl ON.out sSecret rfl (by rw [s6]; omega) HN.out.size ?_)
                intro v6 w6 L6 E6 N6 own6 k6
                have O6 := hide own6
                have H6 := hide (k6 _ HN.out)
                clear own6 k6
                go_wp2
                go_roundw
                case rel => exact ⟨j + 1, L6, by omega, by go_num, by show _ = _; rw [E6.out, EN.out, HSJ.out, List.append_assoc]; rfl, O6, H6⟩
                case measure => simp [intOf] <;> omega
              · go_wp2_with (at_builtin; refine app_str _ rfl _ _ rfl W.heap.size _ N rfl ON.out sBox rfl (by rw [s7]; omega) HN.out.size ?_)
                intro v6 w6 L6 E6 N6 own6 k6
                have O6 := hide own6
                have H6 := hide (k6 _ HN.out)
                clear own6 k6
                go_wp2
                go_roundw
                case rel => exact ⟨j + 1, L6, by omega, by go_num, by show _ = _; rw [E6.out, EN.out, HSJ.out, List.append_assoc]; rfl, O6, H6⟩
                case measure => simp [intOf] <;> omega
            · have hj8 : ¬ (j : Int) < (fi.length : Int) := by omega
              obtain rfl : j = fi.length := by omega
              rw [List.take_length] at EN
              have hNn : N.length ≤ M.length + 26 + 6 * insW fi := by
                have h1 := shIns_len fi
                rw [EN.out, List.length_append]
                omega
              clear hbr
              go_wp2_with (at_builtin; refine app_str _ rfl _ _ rfl W.heap.size _ N rfl ON.out sFormEnd rfl (by rw [s8]; omega) HN.out.size ?_)
              intro v6 w6 L6 E6 N6 own6 k6
              have O6 := hide own6
              have H6 := hide (k6 _ HN.out)
              have HZ : Hid (L6 = L ++ (fs.take (k + 1)).flatMap shFrm) := by
                show _ = _
                rw [E6.out, EN.out, E3.out, EM.out, HS.out]
                simp only [shFrm, List.append_assoc]
              clear own6 k6 d1
              go_wp2
              go_roundw
              case rel => exact ⟨k + 1, L6, by omega, by go_num, HZ, O6, H6⟩
              case measure => simp [intOf] <;> omega
        · have hk8 : ¬ (k : Int) < (fs.length : Int) := by omega
          obtain rfl : k = fs.length := by omega
          rw [List.take_length] at EM
          have hMn : M.length ≤ L.length + 6 * frmsW fs := by
            have h1 := HSF.out
            rw [EM.out, List.length_append]
            omega
          go_wp2_with (at_builtin; refine app_str _ rfl _ _ rfl W.heap.size _ M rfl OM.out sEnd rfl (by rw [s9]; omega) HM.out.size ?_)
          intro v9 w9 L9 E9 N9 own9 k9
          have hc := conv_own own9 rfl
          have H9 := hide (HBA.out.trans ((k9 _ HM.out).mono hwW))
          have HR : Hid (shPage ls fs = L9) := by
            show _ = _
            rw [E9.out, EM.out, EL.out, E2.out]
            rfl
          clear own9 k9
          go_wp2
          go_ret
          exact ⟨by rw [HR.out]; rfl, H9.out⟩
end Go.Proofs.YtaeleccngpfngaaDoor.pg
