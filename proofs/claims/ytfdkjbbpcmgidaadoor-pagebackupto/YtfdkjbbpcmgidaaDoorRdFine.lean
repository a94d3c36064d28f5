import Derived.Test.YtfdkjbbpcmgidaaDoorRdOnly
import Derived.Test.YtfdkjbbpcmgidaaDoorPageOpen
namespace Go.Proofs.YtfdkjbbpcmgidaaDoor.pg
open Go.ChangeShapes Go.WideShapes Go.ChangeAt Go.RowKit Go.Proofs.YtfdkjbbpcmgidaaDoor.common Go.Maps
attribute [local go_sem ↓] Go.wp_at_zero Go.wp_at_succ

theorem all_bad {α : Type} {p : α → Bool} {l : List α} {k : Nat} (hk : k < l.length) (h : p l[k] = false) : l.all p = false := by
  rw [List.all_eq_false]
  exact ⟨l[k], List.getElem_mem hk, by rw [h]; decide⟩
theorem all_take {α : Type} {p : α → Bool} {l : List α} {k : Nat} (hk : k < l.length) (h : (l.take k).all p = true) (h1 : p l[k] = true) : (l.take (k + 1)).all p = true := by
  rw [List.take_succ_eq_append_getElem hk, List.all_append, h]
  simp [h1]

set_option maxRecDepth 100000 in
set_option maxHeartbeats 6400000 in
theorem fine_any (w : World) (t : ByteArray) (vL vF : Value) (ls : List ByteArray) (fs : List Frm) (hL : LiesS w vL ls) (hF : LiesF w vF fs) (hfs : fs.length ≤ 1000000000) (hfi : ∀ f ∈ fs, f.ins.length ≤ 1000000000) :
    Calls Tryd.prog 13 #[.agg #[.string t, vL, vF]] w fun e w' => e = .returned (.bool (fs.all okF)) ∧ Below w.heap.size w w' := by
  obtain ⟨ol, cl, rfl, _⟩ := hL
  obtain ⟨of, cf, rfl, hFc⟩ := hF
  have BA : Below w.heap.size w (w.alloc (.cells #[.string t, .slice ol ls.length cl, .slice of fs.length cf] 29)) := (Below.refl _ _).alloc (Nat.le_refl _) _
  have hP : (w.alloc (.cells #[.string t, .slice ol ls.length cl, .slice of fs.length cf] 29)).heap[w.heap.size]? = some (.cells #[.string t, .slice ol ls.length cl, .slice of fs.length cf] 29) := by show (w.heap.push _)[w.heap.size]? = _; simp
  have hPl := (Array.getElem?_eq_some_iff.1 hP).1
  have HP := hide hP
  have HBA := hide BA
  have HFC := hide hFc
  have HFI := hide hfi
  clear hP BA hFc hfi
  obtain ⟨R, hR⟩ : ∃ R, fs.all okF = R := ⟨_, rfl⟩
  rw [hR]
  have HR := hide hR
  clear hR
  go_enter Tryd.func13, Tryd.ntmps13
  go_wp2_with fail
  generalize w.alloc (.cells #[.string t, .slice ol ls.length cl, .slice of fs.length cf] 29) = W at *
  go_loopw [3] (fun i wr => ∃ k : Nat, k ≤ fs.length ∧ i = .int .i64 k ∧ Hid ((fs.take k).all okF = true) ∧ Hid (Below W.heap.size W wr)) (fun i _ => fs.length - (intOf i).toNat)
  case atStart => exact ⟨0, by omega, rfl, rfl, Below.refl _ _⟩
  case round =>
    obtain ⟨k, hk, rfl, HA, HB⟩ := hrel
    have hPr := (HB.out.block _ hPl).trans HP.out
    have f2 : wr.cell? ⟨w.heap.size, 2, none⟩ = some (.slice of fs.length cf) := by simp [World.cell?, hPr]
    clear hPr
    by_cases hlt : k < fs.length
    · have hki : (k : Int) < (fs.length : Int) := by omega
      have k0 : (0 : Int) ≤ (k : Int) := Int.natCast_nonneg _
      have hil := HFI.out fs[k] (List.getElem_mem hlt)
      have hfc := HFC.out k hlt
      have HTK := hide (fun h => all_take (p := okF) hlt HA.out h)
      have HBD := hide (fun h => all_bad (p := okF) hlt h)
      obtain ⟨X, hXe⟩ : ∃ X, fs[k] = X := ⟨_, rfl⟩
      rw [hXe] at hil hfc HTK HBD
      clear hXe HA
      obtain ⟨fa, fi, fb⟩ := X
      simp only at hil hfc
      obtain ⟨bl, o, vI, ho, hbl, _, c1, _, hI0⟩ := hfc
      cases ho
      obtain ⟨oI, cI, rfl, hIc⟩ := hI0
      have HIC := hide hIc
      have HC1 := hide c1
      clear c1 hIc
      go_wp2_with fail
      clear f2
      go_loopw [4] (fun i wx => ∃ j : Nat, j ≤ fi.length ∧ i = .int .i64 j ∧ Hid ((fi.take j).all mayB = true) ∧ Hid (Below W.heap.size W wx)) (fun i _ => fi.length - (intOf i).toNat)
      case atStart => exact ⟨0, by omega, rfl, rfl, HB⟩
      case round =>
        obtain ⟨j, hj, rfl, HJ, HBX⟩ := hrel
        clear HB
        have hPx := (HBX.out.block _ hPl).trans HP.out
        have p2 : wr.cell? ⟨w.heap.size, 2, none⟩ = some (.slice (some ⟨bl, o, none⟩) fs.length cf) := by simp [World.cell?, hPx]
        have hwx : Below w.heap.size w wr := HBA.out.trans (HBX.out.mono HBA.out.size)
        have d1 := (hwx.cell (p := ⟨bl, o + k * 3 + 1, none⟩) hbl).trans HC1.out
        clear hPx
        by_cases hlj : j < fi.length
        · have hji : (j : Int) < (fi.length : Int) := by omega
          have j0 : (0 : Int) ≤ (j : Int) := Int.natCast_nonneg _
          have HJT := hide (fun h => all_take (p := mayB) hlj HJ.out h)
          have HJB := hide (fun h => all_bad (p := mayB) hlj h)
          obtain ⟨b2, o2, ho, hb2, c0, c1, c2, c3⟩ := HIC.out j hlj
          cases ho
          have e0 := (hwx.cell (p := ⟨b2, o2 + j * 4, none⟩) hb2).trans c0
          have e1 := (hwx.cell (p := ⟨b2, o2 + j * 4 + 1, none⟩) hb2).trans c1
          have e2 := (hwx.cell (p := ⟨b2, o2 + j * 4 + 2, none⟩) hb2).trans c2
          have e3 := (hwx.cell (p := ⟨b2, o2 + j * 4 + 3, none⟩) hb2).trans c3
          clear c0 c1 c2 c3 hwx HJ
          obtain ⟨Y, hYe⟩ : ∃ Y, fi[j] = Y := ⟨_, rfl⟩
          rw [hYe] at HJT HJB e0 e1 e2 e3
          clear hYe
          obtain ⟨kd, nm, vl, lb⟩ := Y
          simp only at e0 e1 e2 e3
          have HBY : Hid (Below W.heap.size W (wr.alloc (.cells #[.int .i64 kd, .string nm, .string vl, .string lb] 38))) := HBX.out.trans (((Below.refl _ _).alloc (Nat.le_refl _) _).mono HBX.out.size)
          obtain ⟨en, hen⟩ : ∃ en, nm.toList.isEmpty = en := ⟨_, rfl⟩
          obtain ⟨el, hel⟩ : ∃ el, lb.toList.isEmpty = el := ⟨_, rfl⟩
          obtain ⟨ev, hev⟩ : ∃ ev, vl.toList.isEmpty = ev := ⟨_, rfl⟩
          have HEN := hide hen
          have HEL := hide hel
          have HEV := hide hev
          by_cases h1 : kd < 1
          · have HM : Hid (mayB ⟨kd, nm, vl, lb⟩ = false) := by
              show _ = _
              have a1 : ¬ kd = 1 := by omega
              have a2 : ¬ kd = 2 := by omega
              have a3 : ¬ kd = 3 := by omega
              have a4 : ¬ kd = 4 := by omega
              unfold mayB
              simp [a1, a2, a3, a4]
            clear hen hel hev
            obtain rfl : R = false := HR.out.symm.trans (HBD.out (HJB.out HM.out))
            have HBE := hide (HBA.out.trans (HBY.out.mono HBA.out.size))
            go_wp2
            go_ret
            exact ⟨rfl, HBE.out⟩
          by_cases h4 : 4 < kd
          · have HM : Hid (mayB ⟨kd, nm, vl, lb⟩ = false) := by
              show _ = _
              have a1 : ¬ kd = 1 := by omega
              have a2 : ¬ kd = 2 := by omega
              have a3 : ¬ kd = 3 := by omega
              have a4 : ¬ kd = 4 := by omega
              unfold mayB
              simp [a1, a2, a3, a4]
            clear hen hel hev
            obtain rfl : R = false := HR.out.symm.trans (HBD.out (HJB.out HM.out))
            have HBE := hide (HBA.out.trans (HBY.out.mono HBA.out.size))
            go_wp2
            go_ret
            exact ⟨rfl, HBE.out⟩
          have hc : kd = 1 ∨ kd = 2 ∨ kd = 3 ∨ kd = 4 := by omega
          clear h1 h4
          rcases hc with rfl | rfl | rfl | rfl <;> cases en
          · cases el
            · have HM : Hid (mayB ⟨1, nm, vl, lb⟩ = false) := by
                show _ = _
                unfold mayB emp
                simp [HEN.out, HEL.out]
              clear hev
              obtain rfl : R = false := HR.out.symm.trans (HBD.out (HJB.out HM.out))
              have HBE := hide (HBA.out.trans (HBY.out.mono HBA.out.size))
              go_wp2
              go_ret
              exact ⟨rfl, HBE.out⟩
            · have HM : Hid (mayB ⟨1, nm, vl, lb⟩ = true) := by
                show _ = _
                unfold mayB emp
                simp [HEN.out, HEL.out]
              clear hev
              have HOK := hide (HJT.out HM.out)
              go_wp2
              go_roundw
              case rel => exact ⟨j + 1, by omega, by go_num, HOK, HBY⟩
              case measure => simp [intOf] <;> omega
          · have HM : Hid (mayB ⟨1, nm, vl, lb⟩ = false) := by
              show _ = _
              unfold mayB emp
              simp [HEN.out]
            clear hel hev
            obtain rfl : R = false := HR.out.symm.trans (HBD.out (HJB.out HM.out))
            have HBE := hide (HBA.out.trans (HBY.out.mono HBA.out.size))
            go_wp2
            go_ret
            exact ⟨rfl, HBE.out⟩
          · have HM : Hid (mayB ⟨2, nm, vl, lb⟩ = true) := by
              show _ = _
              unfold mayB emp
              simp [HEN.out]
            clear hel hev
            have HOK := hide (HJT.out HM.out)
            go_wp2
            go_roundw
            case rel => exact ⟨j + 1, by omega, by go_num, HOK, HBY⟩
            case measure => simp [intOf] <;> omega
          · have HM : Hid (mayB ⟨2, nm, vl, lb⟩ = false) := by
              show _ = _
              unfold mayB emp
              simp [HEN.out]
            clear hel hev
            obtain rfl : R = false := HR.out.symm.trans (HBD.out (HJB.out HM.out))
            have HBE := hide (HBA.out.trans (HBY.out.mono HBA.out.size))
            go_wp2
            go_ret
            exact ⟨rfl, HBE.out⟩
          · cases ev
            · have HM : Hid (mayB ⟨3, nm, vl, lb⟩ = false) := by
                show _ = _
                unfold mayB emp
                simp [HEN.out, HEV.out]
              clear hel
              obtain rfl : R = false := HR.out.symm.trans (HBD.out (HJB.out HM.out))
              have HBE := hide (HBA.out.trans (HBY.out.mono HBA.out.size))
              go_wp2
              go_ret
              exact ⟨rfl, HBE.out⟩
            · have HM : Hid (mayB ⟨3, nm, vl, lb⟩ = true) := by
                show _ = _
                unfold mayB emp
                simp [HEN.out, HEV.out]
              clear hel
              have HOK := hide (HJT.out HM.out)
              go_wp2
              go_roundw
              case rel => exact ⟨j + 1, by omega, by go_num, HOK, HBY⟩
              case measure => simp [intOf] <;> omega
          · have HM : Hid (mayB ⟨3, nm, vl, lb⟩ = false) := by
              show _ = _
              unfold mayB emp
              simp [HEN.out]
            clear hel hev
            obtain rfl : R = false := HR.out.symm.trans (HBD.out (HJB.out HM.out))
            have HBE := hide (HBA.out.trans (HBY.out.mono HBA.out.size))
            go_wp2
            go_ret
            exact ⟨rfl, HBE.out⟩
          · have HM : Hid (mayB ⟨4, nm, vl, lb⟩ = true) := by
              show _ = _
              unfold mayB emp
              simp [HEN.out]
            clear hel hev
            have HOK := hide (HJT.out HM.out)
            go_wp2
            go_roundw
            case rel => exact ⟨j + 1, by omega, by go_num, HOK, HBY⟩
            case measure => simp [intOf] <;> omega
          · have HM : Hid (mayB ⟨4, nm, vl, lb⟩ = false) := by
              show _ = _
              unfold mayB emp
              simp [HEN.out]
            clear hel hev
            obtain rfl : R = false := HR.out.symm.trans (HBD.out (HJB.out HM.out))
            have HBE := hide (HBA.out.trans (HBY.out.mono HBA.out.size))
            go_wp2
            go_ret
            exact ⟨rfl, HBE.out⟩
        · have hj8 : ¬ (j : Int) < (fi.length : Int) := by omega
          obtain rfl : j = fi.length := by omega
          have HOK : Hid ((fs.take (k + 1)).all okF = true) := HTK.out (by have := HJ.out; rw [List.take_length] at this; exact this)
          go_wp2
          go_roundw
          case rel => exact ⟨k + 1, by omega, by go_num, HOK, HBX⟩
          case measure => simp [intOf] <;> omega
    · have hk8 : ¬ (k : Int) < (fs.length : Int) := by omega
      obtain rfl : k = fs.length := by omega
      obtain rfl : R = true := by have h1 := HA.out; rw [List.take_length] at h1; exact HR.out.symm.trans h1
      have HBE := hide (HBA.out.trans (HB.out.mono HBA.out.size))
      go_wp2
      go_ret
      exact ⟨rfl, HBE.out⟩
end Go.Proofs.YtfdkjbbpcmgidaaDoor.pg
