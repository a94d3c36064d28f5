import Derived.Test.YtaejlcffimkopaaDoorRdPd
import Derived.Test.YtaejlcffimkopaaDoorRdWt
import Derived.Test.YtaejlcffimkopaaDoorRdOnly
import Derived.Test.YtaejlcffimkopaaDoorRefAll
namespace Go.Proofs.YtaejlcffimkopaaDoor.pg
open Go.ChangeShapes Go.WideShapes Go.ChangeAt Go.RowKit Go.Proofs.YtaejlcffimkopaaDoor.common Go.Maps
attribute [local go_sem ↓] Go.wp_at_zero Go.wp_at_succ

/-- what the document's Read answers -/
def DrOut (s : ByteArray) (w : World) (e : Ending) (w' : World) : Prop :=
  ((∃ t ls fs vL vF, pageRd s.data.toList = some (t, ls, fs) ∧ e = .returned (.tuple #[.agg #[.string t, vL, vF], .int .i64 0]) ∧ LiesS w' vL ls ∧ LiesF w' vF fs) ∨
   (pageRd s.data.toList = none ∧ e = .returned (.tuple #[.agg #[.string ⟨#[]⟩, .slice none 0 0, .slice none 0 0], .int .i64 2]))) ∧ Below w.heap.size w w'
theorem drOut_no {s : ByteArray} {w : World} {e : Ending} {w' : World} (h : pageRd s.data.toList = none) (he : e = .returned (.tuple #[.agg #[.string ⟨#[]⟩, .slice none 0 0, .slice none 0 0], .int .i64 2])) (hb : Below w.heap.size w w') : DrOut s w e w' := ⟨Or.inr ⟨h, he⟩, hb⟩
theorem drOut_yes {s : ByteArray} {w : World} {e : Ending} {w' : World} {t : ByteArray} {ls : List ByteArray} {fs : List Frm} {vL vF : Value} (h : pageRd s.data.toList = some (t, ls, fs)) (he : e = .returned (.tuple #[.agg #[.string t, vL, vF], .int .i64 0])) (h1 : LiesS w' vL ls) (h2 : LiesF w' vF fs) (hb : Below w.heap.size w w') : DrOut s w e w' := ⟨Or.inl ⟨t, ls, fs, vL, vF, h, he, h1, h2⟩, hb⟩
theorem rest_zero (s : ByteArray) : rest s 0 = s.data.toList := rfl
/-- what a guess is worth -/
theorem guess_lost {s : ByteArray} {g : ByteArray × List ByteArray × List Frm} {a : Nat} (h : Rel pageD s 0 false g a true) : pageRd s.data.toList = none := by
  rcases h.no rfl with h | h
  · cases h
  · cases hr : pageRd s.data.toList with
    | none => rfl
    | some p =>
      obtain ⟨t, ls, fs⟩ := p
      obtain ⟨h1, h2⟩ := pageRd_is hr
      rw [rest_zero, h1, pageD_app t ls fs h2] at h
      cases h
theorem guess_is {s : ByteArray} {g : ByteArray × List ByteArray × List Frm} {a : Nat} {p : ByteArray × List ByteArray × List Frm} (h : Rel pageD s 0 false g a false) (hr : pageRd s.data.toList = some p) : g = p := by
  obtain ⟨_, h⟩ := h.yes rfl
  obtain ⟨t, ls, fs⟩ := p
  obtain ⟨h1, h2⟩ := pageRd_is hr
  rw [rest_zero, h1, pageD_app t ls fs h2] at h
  injection h with h
  exact ((Prod.mk.inj h).1).symm
theorem guess_yes {s t : ByteArray} {ls : List ByteArray} {fs : List Frm} (hok : fs.all okF = true) (h : pageL t ls fs = s.data.toList) : pageRd s.data.toList = some (t, ls, fs) := by
  rw [← h]; exact pageRd_app t ls fs hok

theorem results_ct {fn : Func} {p t : Tmp} {ty : TypeId} {P : Program} {w : World} {b o : Nat} {cs : List Value} {d : TypeDesc} {u : Value} (h : fn.results = #[.cell p ty, .tmp t]) (tmps : Array Value) (hx : tmps.getD p undef = .pointer (some ⟨b, o, none⟩))
    (hc : w.rangeAt b o cs) (hu : P.underlying ty = some d) (hd : d.isRow = true) (hi : (P.info? ty).map (·.size) = some cs.length) (ht : tmps.getD t undef = u) : (results fn tmps).run P w = .ok (.tuple #[.agg cs.toArray, u]) w := by
  have hx' : tmps[p]?.getD undef = .pointer (some ⟨b, o, none⟩) := by simpa using hx
  have ht' : tmps[t]?.getD undef = u := by simpa using ht
  simp only [results, h]
  simp [hx', ht', asAddr, run_loadVar_mid w b o ty cs d hc hu hd hi]
theorem own_by {w w' : World} {base : Nat} {e : TypeId} {size : Nat} {v : Value} {n : Nat} {xs : List Value} (h : w.ownsRow base e size v n xs) (hb : Below w.heap.size w w') : w'.ownsRow base e size v n xs :=
  h.kept (row := none) ⟨hb.os, hb.tape, hb.output, hb.size, fun k hk _ => hb.block k hk⟩ (by cases v.ownBlock <;> simp)
theorem ownF_by {w w' : World} {base : Nat} {v : Value} {l : List Frm} {s : List Value} (h : OwnF base w v l s) (hb : Below w.heap.size w w') : OwnF base w' v l s := ⟨h.len, own_by h.row hb, fun i hi => own_by (h.each i hi) hb⟩
theorem Kr.low {p base : Nat} {w w' : World} (h : Kr p w w') (h1 : base ≤ p) (h2 : base ≤ w.heap.size) : Below base w w' := ⟨h.os, h.tape, h.output, h.size, fun k hk => h.block k (by omega) (by omega)⟩

set_option maxRecDepth 100000 in
set_option maxHeartbeats 3200000 in
theorem refRead_any (s : ByteArray) (w : World) (hs : s.size ≤ 1048576) :
    Calls Tryd.prog 13 #[.string s] w fun e w' => DrOut s w e w' := by
  obtain ⟨c0, hc0⟩ : ∃ c0 : Obj, c0 = .cells #[.string ⟨#[]⟩, .slice none 0 0, .slice none 0 0] 25 := ⟨_, rfl⟩
  have BA : Below w.heap.size w ((w.alloc (.cells #[.string ⟨#[]⟩, .slice none 0 0, .slice none 0 0] 25)).alloc (.cells #[.string s, .int .i64 0, .bool false] 71)) := ((Below.refl _ _).alloc (Nat.le_refl _) _).alloc (by simp) _
  have HBA := hide BA
  have HR0 := hide (heap_old (w.alloc (.cells #[.string ⟨#[]⟩, .slice none 0 0, .slice none 0 0] 25)) (.cells #[.string s, .int .i64 0, .bool false] 71) (heap_new w (.cells #[.string ⟨#[]⟩, .slice none 0 0, .slice none 0 0] 25)))
  have hP0 := heap_new (w.alloc (.cells #[.string ⟨#[]⟩, .slice none 0 0, .slice none 0 0] 25)) (.cells #[.string s, .int .i64 0, .bool false] 71)
  have ez : (w.alloc (.cells #[.string ⟨#[]⟩, .slice none 0 0, .slice none 0 0] 25)).heap.size = w.heap.size + 1 := by simp
  rw [ez] at hP0
  have HP0 : Hid (Pl ((w.alloc (.cells #[.string ⟨#[]⟩, .slice none 0 0, .slice none 0 0] 25)).alloc (.cells #[.string s, .int .i64 0, .bool false] 71)) (w.heap.size + 1) s 0 false) := hP0
  have hzV : w.heap.size + 2 ≤ ((w.alloc (.cells #[.string ⟨#[]⟩, .slice none 0 0, .slice none 0 0] 25)).alloc (.cells #[.string s, .int .i64 0, .bool false] 71)).heap.size := by simp
  clear BA hP0 ez hc0 c0
  go_enter Tryd.func13, Tryd.ntmps13
  go_wp2_with fail
  generalize (w.alloc (.cells #[.string ⟨#[]⟩, .slice none 0 0, .slice none 0 0] 25)).alloc (.cells #[.string s, .int .i64 0, .bool false] 71) = V at *
  refine (dPage_any (w.heap.size + 1) s 0 false V HP0.out (Nat.zero_le _) (by omega)).mono ?_
  rintro e w1 ⟨⟨t, ls, fs⟩, vL, vF, a', l', rfl, K1, P1, R1, O1, sv, F1⟩
  dsimp only at O1 F1
  have HR1 := hide (K1.keep HR0.out (by omega))
  have hB1 : Below w.heap.size w w1 := HBA.out.trans (K1.low (by omega) (by omega))
  obtain ⟨oL, cL, rfl⟩ := form_w O1
  obtain ⟨oF, cF, rfl⟩ := form_w F1.row
  have BX : Below w1.heap.size w1 (w1.alloc (.cells #[.string t, .slice oL ls.length cL, .slice oF fs.length cF] 25)) := (Below.refl _ _).alloc (Nat.le_refl _) _
  have HX := hide (heap_new w1 (.cells #[.string t, .slice oL ls.length cL, .slice oF fs.length cF] 25))
  have HR2 := hide (heap_old w1 (.cells #[.string t, .slice oL ls.length cL, .slice oF fs.length cF] 25) HR1.out)
  have HP2 := hide (P1.more (.cells #[.string t, .slice oL ls.length cL, .slice oF fs.length cF] 25))
  have p2 : (w1.alloc (.cells #[.string t, .slice oL ls.length cL, .slice oF fs.length cF] 25)).cell? ⟨w.heap.size + 1, 2, none⟩ = some (.bool l') := cell_of HP2.out 2
  have HO2 := hide (own_by O1 BX)
  have HF2 := hide (ownF_by F1 BX)
  have HB2 := hide (hB1.trans (BX.mono hB1.size))
  have HRl := hide R1
  have hz1 : w.heap.size + 2 ≤ w1.heap.size := Nat.le_trans hzV K1.size
  clear K1 P1 R1 O1 F1 HR1 hB1 BX HP0 HR0 HBA
  have HRB : Hid (∀ X, Below w1.heap.size w1 X → X.cell? ⟨w.heap.size, 0, none⟩ = some (.string ⟨#[]⟩) → True) := fun _ _ _ => trivial
  clear HRB
  have r0 : (w1.alloc (.cells #[.string t, .slice oL ls.length cL, .slice oF fs.length cF] 25)).cell? ⟨w.heap.size, 0, none⟩ = some (.string ⟨#[]⟩) := cell_of HR2.out 0
  have y0 : (w1.alloc (.cells #[.string t, .slice oL ls.length cL, .slice oF fs.length cF] 25)).frozen? ⟨w.heap.size, 0, none⟩ = false := free_of HR2.out 0
  have r1 : (w1.alloc (.cells #[.string t, .slice oL ls.length cL, .slice oF fs.length cF] 25)).cell? ⟨w.heap.size, 0 + 1, none⟩ = some (.slice none 0 0) := cell_of HR2.out 1
  have y1 : (w1.alloc (.cells #[.string t, .slice oL ls.length cL, .slice oF fs.length cF] 25)).frozen? ⟨w.heap.size, 0 + 1, none⟩ = false := free_of HR2.out 1
  have r2 : (w1.alloc (.cells #[.string t, .slice oL ls.length cL, .slice oF fs.length cF] 25)).cell? ⟨w.heap.size, 0 + 2, none⟩ = some (.slice none 0 0) := cell_of HR2.out 2
  have y2 : (w1.alloc (.cells #[.string t, .slice oL ls.length cL, .slice oF fs.length cF] 25)).frozen? ⟨w.heap.size, 0 + 2, none⟩ = false := free_of HR2.out 2
  cases l' with
  | true =>
    have HN := hide (guess_lost HRl.out)
    go_wp2_with fail
    generalize w1.alloc (.cells #[.string t, .slice oL ls.length cL, .slice oF fs.length cF] 25) = W at *
    have hfin := put_three HR2.out (.string ⟨#[]⟩) (.slice none 0 0) (.slice none 0 0)
    refine bodyPost_ret (results_ct rfl _ rfl (range_of (l := [.string ⟨#[]⟩, .slice none 0 0, .slice none 0 0]) hfin) Tryd.underlying25 rfl sizePg rfl) rfl ?_
    exact drOut_no HN.out rfl (((HB2.out.setCell (p := ⟨w.heap.size, 0, none⟩) (Nat.le_refl _) _).setCell (p := ⟨w.heap.size, 1, none⟩) (Nat.le_refl _) _).setCell (p := ⟨w.heap.size, 2, none⟩) (Nat.le_refl _) _)
  | false =>
    have HRG := hide (range_of (l := [.string t, .slice oL ls.length cL, .slice oF fs.length cF]) HX.out)
    have HW := hide (pageD_wt (HRl.out.yes rfl).2)
    have hwt : pageW t ls fs ≤ 103 * 1048576 + 300 := by
      have := HW.out
      rw [rest_zero, len_list] at this
      omega
    have hl1 := lines_lenW ls
    have hl2 := (frms_lenW fs)
    have hpw : pageW t ls fs = t.size + t.size + linesW ls + frmsW fs + 300 := rfl
    have HFL : Hid (∀ f ∈ fs, f.ins.length ≤ 4611686018427387904) := fun f hf => by have := hl2.2 f hf; omega
    have hl3 := hl2.1
    have hls4 : ls.length ≤ 4611686018427387904 := by omega
    have hfs4 : fs.length ≤ 4611686018427387904 := by omega
    have hl6 : 6 * pageW t ls fs + 6 ≤ 140737488355 := by omega
    clear hl1 hl2 hl3 hpw hwt HW r0 r1 r2 y0 y1 y2
    go_wp2_with (refine wpList_load_mid rfl 25 (.tmp 5) rfl w1.heap.size 0 rfl _ _ HRG.out Tryd.underlying25 rfl sizePg ?_)
    generalize w1.alloc (.cells #[.string t, .slice oL ls.length cL, .slice oF fs.length cF] 25) = W at *
    refine (refPage_any W t _ _ ls fs (liesS_of_own HO2.out) (HF2.out.lies) hl6 hls4 hfs4 HFL.out).mono ?_
    rintro x w3 ⟨rfl, b3⟩
    have HR3 := hide ((b3.block _ (Array.getElem?_eq_some_iff.1 HR2.out).1).trans HR2.out)
    have HX3 := hide ((b3.block _ (Array.getElem?_eq_some_iff.1 HX.out).1).trans HX.out)
    have HB3 := hide (HB2.out.trans (b3.mono HB2.out.size))
    have HO3 := hide (own_by HO2.out b3)
    have HF3 := hide (ownF_by HF2.out b3)
    have r0 : w3.cell? ⟨w.heap.size, 0, none⟩ = some (.string ⟨#[]⟩) := cell_of HR3.out 0
    have y0 : w3.frozen? ⟨w.heap.size, 0, none⟩ = false := free_of HR3.out 0
    have r1 : w3.cell? ⟨w.heap.size, 0 + 1, none⟩ = some (.slice none 0 0) := cell_of HR3.out 1
    have y1 : w3.frozen? ⟨w.heap.size, 0 + 1, none⟩ = false := free_of HR3.out 1
    have r2 : w3.cell? ⟨w.heap.size, 0 + 2, none⟩ = some (.slice none 0 0) := cell_of HR3.out 2
    have y2 : w3.frozen? ⟨w.heap.size, 0 + 2, none⟩ = false := free_of HR3.out 2
    have HRG3 := hide (range_of (l := [.string t, .slice oL ls.length cL, .slice oF fs.length cF]) HX3.out)
    clear b3 HR2 HX HB2 HO2 HF2 HRG p2 HP2
    have HBZ : Hid (∀ a b c, Below w.heap.size w (((w3.setCell ⟨w.heap.size, 0, none⟩ a).setCell ⟨w.heap.size, 1, none⟩ b).setCell ⟨w.heap.size, 2, none⟩ c)) := fun a b c => (((HB3.out.setCell (p := ⟨w.heap.size, 0, none⟩) (Nat.le_refl _) _).setCell (p := ⟨w.heap.size, 1, none⟩) (Nat.le_refl _) _).setCell (p := ⟨w.heap.size, 2, none⟩) (Nat.le_refl _) _)
    by_cases hok : fs.all okF = true
    · have hcp : refPageR t ls fs = .tuple #[S (pageL t ls fs), .int .i64 0] := by unfold refPageR; rw [if_pos hok]
      rw [hcp]
      obtain ⟨Z, hZ⟩ : ∃ Z : ByteArray, (⟨(pageL t ls fs).toArray⟩ : ByteArray) = Z := ⟨_, rfl⟩
      rw [show S (pageL t ls fs) = Value.string Z from congrArg Value.string hZ]
      by_cases he : Z = s
      · subst he
        have HN : Hid (pageRd Z.data.toList = some (t, ls, fs)) := guess_yes hok (by rw [← hZ])
        have hzz : (Z.toList == Z.toList) = true := beq_self_eq_true _
        clear hcp hZ hok
        go_wp2_with (refine wpList_load_mid rfl 25 (.tmp 5) rfl w1.heap.size 0 rfl _ _ HRG3.out Tryd.underlying25 rfl sizePg ?_)
        have hfin := put_three HR3.out (.string t) (.slice oL ls.length cL) (.slice oF fs.length cF)
        refine bodyPost_ret (results_ct rfl _ rfl (range_of (l := [.string t, .slice oL ls.length cL, .slice oF fs.length cF]) hfin) Tryd.underlying25 rfl sizePg rfl) rfl ?_
        exact drOut_yes HN.out rfl (liesS_of_own (own_off (own_off (own_off HO3.out ⟨w.heap.size, 0, none⟩ (.string t) (Or.inl (by show w.heap.size < _; omega))) ⟨w.heap.size, 1, none⟩ (.slice oL ls.length cL) (Or.inl (by show w.heap.size < _; omega))) ⟨w.heap.size, 2, none⟩ (.slice oF fs.length cF) (Or.inl (by show w.heap.size < _; omega)))) (OwnF.lies (OwnF.off (OwnF.off (OwnF.off HF3.out ⟨w.heap.size, 0, none⟩ (.string t) (Or.inl (by show w.heap.size < _; omega))) ⟨w.heap.size, 1, none⟩ (.slice oL ls.length cL) (Or.inl (by show w.heap.size < _; omega))) ⟨w.heap.size, 2, none⟩ (.slice oF fs.length cF) (Or.inl (by show w.heap.size < _; omega)))) (HBZ.out _ _ _)
      · have hne : (Z.toList == s.toList) = false := by
          rw [ByteArray.toList_eq, ByteArray.toList_eq]
          exact beq_false_of_ne fun e => he (by apply ByteArray.ext; apply Array.toList_inj.1; exact e)
        have HN : Hid (pageRd s.data.toList = none) := by
          show _ = _
          cases hr : pageRd s.data.toList with
          | none => rfl
          | some p =>
            exfalso
            have := guess_is HRl.out hr
            subst this
            obtain ⟨h1, _⟩ := pageRd_is hr
            apply he
            rw [← hZ]
            apply ByteArray.ext
            apply Array.toList_inj.1
            show (pageL t ls fs).toArray.toList = _
            rw [List.toList_toArray, ← h1]
        clear hcp hZ hok he
        go_wp2_with fail
        have hfin := put_three HR3.out (.string ⟨#[]⟩) (.slice none 0 0) (.slice none 0 0)
        refine bodyPost_ret (results_ct rfl _ rfl (range_of (l := [.string ⟨#[]⟩, .slice none 0 0, .slice none 0 0]) hfin) Tryd.underlying25 rfl sizePg rfl) rfl ?_
        exact drOut_no HN.out rfl (HBZ.out _ _ _)
    · have hcp : refPageR t ls fs = .tuple #[S [], .int .i64 1] := by unfold refPageR; rw [if_neg hok]
      rw [hcp]
      have HN : Hid (pageRd s.data.toList = none) := by
        show _ = _
        cases hr : pageRd s.data.toList with
        | none => rfl
        | some p =>
          exfalso
          have := guess_is HRl.out hr
          subst this
          exact hok (pageRd_is hr).2
      clear hcp hok
      go_wp2_with fail
      have hfin := put_three HR3.out (.string ⟨#[]⟩) (.slice none 0 0) (.slice none 0 0)
      refine bodyPost_ret (results_ct rfl _ rfl (range_of (l := [.string ⟨#[]⟩, .slice none 0 0, .slice none 0 0]) hfin) Tryd.underlying25 rfl sizePg rfl) rfl ?_
      exact drOut_no HN.out rfl (HBZ.out _ _ _)
end Go.Proofs.YtaejlcffimkopaaDoor.pg

namespace Go.Proofs.YtaejlcffimkopaaDoor.pg
open Go.ChangeShapes Go.WideShapes Go.ChangeAt Go.RowKit Go.Proofs.YtaejlcffimkopaaDoor.common Go.Maps
attribute [local go_sem ↓] Go.wp_at_zero Go.wp_at_succ

set_option maxRecDepth 100000 in
set_option maxHeartbeats 3200000 in
theorem lawReadExact (s : ByteArray) (w : World) (hz : s.size ≤ 1048576) (ht : Esc w) (e : Nat → Addr) (he : errw.Errs w e) :
    Calls Tryd.prog 4 #[.string s] w fun x w' => x = .returned (.bool true) ∧ Below w.heap.size w w' := by
  cases hr : pageRd s.data.toList with
  | none =>
    have HC := hide (read_none s w (by omega) (e 1) ht (he.cell 1 (by decide)) hr)
    have HD : Hid (∀ W, Calls Tryd.prog 13 #[.string s] W fun x w' => x = .returned (.tuple #[.agg #[.string ⟨#[]⟩, .slice none 0 0, .slice none 0 0], .int .i64 2]) ∧ Below W.heap.size W w') := fun W => by
      refine (refRead_any s W hz).mono ?_
      rintro x w' ⟨⟨t, ls, fs, vL, vF, h1, _⟩ | ⟨_, h2⟩, hb⟩
      · rw [hr] at h1; cases h1
      · exact ⟨h2, hb⟩
    have HE : Hid (∀ X, Below w.heap.size w X → errw.Errs X e) := fun X hb => he.below hb
    have HSP := hide (fun W => samePage_any ⟨#[]⟩ (.slice none 0 0) (.slice none 0 0) (.slice none 0 0) (.slice none 0 0) [] [] W (liesS_nil W) (liesF_nil W) (liesS_nil W) (liesF_nil W) (by simp) (by simp) (fun f hf => by cases hf))
    clear ht he hr
    go_enter Tryd.func4, Tryd.ntmps4
    go_wp2_with fail
    refine HC.out.mono ?_
    rintro x w1 ⟨rfl, b1⟩
    have BX : Below w1.heap.size w1 (w1.alloc (.cells #[.string ⟨#[]⟩, .slice none 0 0, .slice none 0 0] 25)) := (Below.refl _ _).alloc (Nat.le_refl _) _
    have HX := hide (heap_new w1 (.cells #[.string ⟨#[]⟩, .slice none 0 0, .slice none 0 0] 25))
    have HB1 := hide (b1.trans (BX.mono b1.size))
    clear b1 BX HC
    go_wp2_with fail
    generalize w1.alloc (.cells #[.string ⟨#[]⟩, .slice none 0 0, .slice none 0 0] 25) = V at *
    refine (HD.out V).mono ?_
    rintro x w2 ⟨rfl, b2⟩
    have BY : Below w2.heap.size w2 (w2.alloc (.cells #[.string ⟨#[]⟩, .slice none 0 0, .slice none 0 0] 25)) := (Below.refl _ _).alloc (Nat.le_refl _) _
    have HY := hide (heap_new w2 (.cells #[.string ⟨#[]⟩, .slice none 0 0, .slice none 0 0] 25))
    have b3 := b2.trans (BY.mono b2.size)
    have HX2 := hide ((b3.block _ (Array.getElem?_eq_some_iff.1 HX.out).1).trans HX.out)
    have HB3 := hide (HB1.out.trans (b3.mono HB1.out.size))
    have R1 := hide (range_of (l := [.string ⟨#[]⟩, .slice none 0 0, .slice none 0 0]) HX2.out)
    have R2 := hide (range_of (l := [.string ⟨#[]⟩, .slice none 0 0, .slice none 0 0]) HY.out)
    clear b2 BY b3 HX HB1 HD
    go_wp2_with (first
      | (refine wpList_load_mid rfl 25 (.tmp 3) rfl w1.heap.size 0 rfl _ _ R1.out Tryd.underlying25 rfl sizePg ?_)
      | (refine wpList_load_mid rfl 25 (.tmp 5) rfl w2.heap.size 0 rfl _ _ R2.out Tryd.underlying25 rfl sizePg ?_))
    refine (HSP.out _).mono ?_
    rintro x w6 ⟨rfl, b6⟩
    have HB6 := hide (HB3.out.trans (b6.mono HB3.out.size))
    have HN := hide (errw.num_1 w6 e (HE.out w6 HB6.out))
    clear b6
    go_wp2_with (go_at_call 14; refine HN.out.mono ?_; rintro x w7 ⟨rfl, rfl⟩)
    go_ret
    exact ⟨rfl, HB6.out⟩
  | some p =>
    obtain ⟨t, ls, fs⟩ := p
    have HC := hide (read_some s w (by omega) (e 1) ht (he.cell 1 (by decide)) hr)
    have HD : Hid (∀ W, Calls Tryd.prog 13 #[.string s] W fun x w' => ∃ vL vF, x = .returned (.tuple #[.agg #[.string t, vL, vF], .int .i64 0]) ∧ LiesS w' vL ls ∧ LiesF w' vF fs ∧ Below W.heap.size W w') := fun W => by
      refine (refRead_any s W hz).mono ?_
      rintro x w' ⟨⟨t', ls', fs', vL, vF, h1, h2, h3, h4⟩ | ⟨h1, h2⟩, hb⟩
      · rw [hr] at h1; cases h1; exact ⟨vL, vF, h2, h3, h4, hb⟩
      · rw [hr] at h1; cases h1
    obtain ⟨hpl, hok⟩ := pageRd_is hr
    have HLN : Hid (ls.length ≤ 4611686018427387904 ∧ fs.length ≤ 4611686018427387904 ∧ ∀ f ∈ fs, f.ins.length ≤ 4611686018427387904) := by
      obtain ⟨l1, l2, l3⟩ := page_lens t ls fs
      rw [← hpl, len_list] at l1 l2 l3
      exact ⟨by omega, by omega, fun f hf => by have := l3 f hf; omega⟩
    clear ht he hr hpl hok
    go_enter Tryd.func4, Tryd.ntmps4
    go_wp2_with fail
    refine HC.out.mono ?_
    rintro x w1 ⟨oa, ca, ob, cb, ss, rfl, o1, f1, _, b1⟩
    have BX : Below w1.heap.size w1 (w1.alloc (.cells #[.string t, .slice oa ls.length ca, .slice ob fs.length cb] 25)) := (Below.refl _ _).alloc (Nat.le_refl _) _
    have HX := hide (heap_new w1 (.cells #[.string t, .slice oa ls.length ca, .slice ob fs.length cb] 25))
    have HB1 := hide (b1.trans (BX.mono b1.size))
    have HL1 := hide ((liesS_of_own o1).below BX)
    have HF1 := hide (f1.lies.below BX)
    clear b1 BX HC o1 f1
    go_wp2_with fail
    generalize w1.alloc (.cells #[.string t, .slice oa ls.length ca, .slice ob fs.length cb] 25) = V at *
    refine (HD.out V).mono ?_
    rintro x w2 ⟨vL, vF, rfl, l2, f2, b2⟩
    have hL2 := l2
    have hF2 := f2
    obtain ⟨oc, cc, rfl, _⟩ := l2
    obtain ⟨od, cd, rfl, _⟩ := f2
    have BY : Below w2.heap.size w2 (w2.alloc (.cells #[.string t, .slice oc ls.length cc, .slice od fs.length cd] 25)) := (Below.refl _ _).alloc (Nat.le_refl _) _
    have HY := hide (heap_new w2 (.cells #[.string t, .slice oc ls.length cc, .slice od fs.length cd] 25))
    have b3 := b2.trans (BY.mono b2.size)
    have HX2 := hide ((b3.block _ (Array.getElem?_eq_some_iff.1 HX.out).1).trans HX.out)
    have HB3 := hide (HB1.out.trans (b3.mono HB1.out.size))
    have R1 := hide (range_of (l := [.string t, .slice oa ls.length ca, .slice ob fs.length cb]) HX2.out)
    have R2 := hide (range_of (l := [.string t, .slice oc ls.length cc, .slice od fs.length cd]) HY.out)
    have HSP := hide (samePage_any t _ _ _ _ ls fs _ (HL1.out.below b3) (HF1.out.below b3) (hL2.below BY) (hF2.below BY) HLN.out.1 HLN.out.2.1 HLN.out.2.2)
    clear b2 BY b3 HX HB1 HD hL2 hF2 HL1 HF1
    go_wp2_with (first
      | (refine wpList_load_mid rfl 25 (.tmp 3) rfl w1.heap.size 0 rfl _ _ R1.out Tryd.underlying25 rfl sizePg ?_)
      | (refine wpList_load_mid rfl 25 (.tmp 5) rfl w2.heap.size 0 rfl _ _ R2.out Tryd.underlying25 rfl sizePg ?_))
    refine (HSP.out).mono ?_
    rintro x w6 ⟨rfl, b6⟩
    have HB6 := hide (HB3.out.trans (b6.mono HB3.out.size))
    have HN := hide (errw.num_nil w6)
    clear b6
    go_wp2_with (go_at_call 14; refine HN.out.mono ?_; rintro x w7 ⟨rfl, rfl⟩)
    go_ret
    exact ⟨rfl, HB6.out⟩
end Go.Proofs.YtaejlcffimkopaaDoor.pg
