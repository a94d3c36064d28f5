import Derived.Test.YtaejlcffimkopaaDoorRdMany
namespace Go.Proofs.YtaejlcffimkopaaDoor.pg
open Go.ChangeShapes Go.WideShapes Go.ChangeAt Go.RowKit Go.Proofs.YtaejlcffimkopaaDoor.common Go.Maps
attribute [local go_sem ↓] Go.wp_at_zero Go.wp_at_succ

theorem OwnF.krd {p base : Nat} {w w' : World} {v : Value} {l : List Frm} {s : List Value} (h : OwnF base w v l s) (hk : Kr p w w') (hp : p < base) : OwnF base w' v l s :=
  ⟨h.len, ownd_kr h.row hk hp, fun i hi => ownd_kr (h.each i hi) hk hp⟩
theorem own_lowd {n k : Nat} {w : World} {e : TypeId} {size : Nat} {v : Value} {m : Nat} {xs : List Value} (h : w.ownsRow (n + k) e size v m xs) : w.ownsRow n e size v m xs := by
  refine ⟨h.1, ?_⟩
  rcases h.2 with h1 | ⟨g, cap, cur, h1, h2, h3⟩
  · exact Or.inl h1
  · exact Or.inr ⟨g, cap, cur, h1, by omega, h3⟩
theorem ownF_low {n k : Nat} {w : World} {v : Value} {l : List Frm} {s : List Value} (h : OwnF (n + k) w v l s) : ∃ sv, OwnF n w v l sv := ⟨s, h.len, own_lowd h.row, fun i hi => own_lowd (h.each i hi)⟩
/-- what the document's page comes to -/
def DPost (p : Nat) (s : ByteArray) (a : Nat) (l : Bool) (w : World) (e : Ending) (w' : World) : Prop :=
  ∃ (g : ByteArray × List ByteArray × List Frm) (vL vF : Value) (a' : Nat) (l' : Bool), e = .returned (.agg #[.string g.1, vL, vF]) ∧ Kr p w w' ∧ Pl w' p s a' l' ∧ Rel pageD s a l g a' l' ∧ w'.ownsRow w.heap.size 9 1 vL g.2.1.length (g.2.1.map Value.string) ∧ ∃ sv, OwnF w.heap.size w' vF g.2.2 sv
theorem dPost {p : Nat} {s : ByteArray} {a : Nat} {l : Bool} {w : World} {e : Ending} {w' : World} (g : ByteArray × List ByteArray × List Frm) (vL vF : Value) (a' : Nat) (l' : Bool) (h1 : e = .returned (.agg #[.string g.1, vL, vF])) (h2 : Kr p w w') (h3 : Pl w' p s a' l') (h4 : Rel pageD s a l g a' l') (h5 : w'.ownsRow w.heap.size 9 1 vL g.2.1.length (g.2.1.map Value.string)) (h6 : ∃ sv, OwnF w.heap.size w' vF g.2.2 sv) : DPost p s a l w e w' := ⟨g, vL, vF, a', l', h1, h2, h3, h4, h5, h6⟩

set_option maxRecDepth 100000 in
set_option maxHeartbeats 6400000 in
theorem dPage_any (p : Nat) (s : ByteArray) (a : Nat) (l : Bool) (w : World) (h : Pl w p s a l) (ha : a ≤ s.size) (hs : s.size ≤ 1000000000) :
    Calls Tryd.prog 25 #[ptr p] w fun e w' => DPost p s a l w e w' := by
  obtain ⟨i0, hi, hz0, hz1, hz2⟩ := info_parts infoS
  obtain ⟨j0, hjn, hy0, hy1, hy2⟩ := info_parts infoF
  have hs' : s.size ≤ 1099511627776 := by omega
  have hpw := h.lt
  have HP0 := hide ((h.more (.cells #[.string ⟨#[]⟩, .slice none 0 0, .slice none 0 0] 25)).more (.cells #[.string ⟨#[]⟩, .slice none 0 0, .slice none 0 0] 25))
  have HR0 := hide (heap_old (w.alloc (.cells #[.string ⟨#[]⟩, .slice none 0 0, .slice none 0 0] 25)) (.cells #[.string ⟨#[]⟩, .slice none 0 0, .slice none 0 0] 25) (heap_new w (.cells #[.string ⟨#[]⟩, .slice none 0 0, .slice none 0 0] 25)))
  have hX0 := heap_new (w.alloc (.cells #[.string ⟨#[]⟩, .slice none 0 0, .slice none 0 0] 25)) (.cells #[.string ⟨#[]⟩, .slice none 0 0, .slice none 0 0] 25)
  have ez : (w.alloc (.cells #[.string ⟨#[]⟩, .slice none 0 0, .slice none 0 0] 25)).heap.size = w.heap.size + 1 := by simp
  rw [ez] at hX0
  have HX0 := hide hX0
  have HK0 : Hid (Kr p w ((w.alloc (.cells #[.string ⟨#[]⟩, .slice none 0 0, .slice none 0 0] 25)).alloc (.cells #[.string ⟨#[]⟩, .slice none 0 0, .slice none 0 0] 25))) := ((Kr.refl p w).more _).more _
  clear h hX0 ez
  go_enter Tryd.func25, Tryd.ntmps25
  go_wp2_with fail
  generalize (w.alloc (.cells #[.string ⟨#[]⟩, .slice none 0 0, .slice none 0 0] 25)).alloc (.cells #[.string ⟨#[]⟩, .slice none 0 0, .slice none 0 0] 25) = V at *
  refine (pass_rel p s mPageHead a l V HP0.out (by omega) hs' (by decide)).mono ?_
  rintro e u201 ⟨b201, m201, rfl, K201, P201, le201, ha201, R201⟩
  have HK201 := hide (HK0.out.trans K201)
  have HP201 := hide P201
  have HL201 := hide R201
  have HR201 := hide (K201.keep HR0.out (by omega))
  have HX201 := hide (K201.keep HX0.out (by omega))
  clear K201 P201 R201
  go_wp2_with (fail)
  refine (upTo_any p s 60 b201 m201 u201 HP201.out (by omega) hs').mono ?_
  rintro e u202 ⟨t, b202, m202, rfl, K202, P202, le202, ha202, R202⟩
  have HK202 := hide (HK201.out.trans K202)
  have HP202 := hide P202
  have HL202 := hide R202
  have HR202 := hide (K202.keep HR201.out (by omega))
  have HX202 := hide (K202.keep HX201.out (by omega))
  clear K202 P202 R202
  have q203 : u202.cell? ⟨w.heap.size + 1, 0, none⟩ = some (.string ⟨#[]⟩) := cell_of HX202.out 0
  have f203 : u202.frozen? ⟨w.heap.size + 1, 0, none⟩ = false := free_of HX202.out 0
  have HX203 : Hid ((u202.setCell ⟨w.heap.size + 1, 0, none⟩ (.string t)).heap[w.heap.size + 1]? = some (.cells #[.string t, .slice none 0 0, .slice none 0 0] 25)) := set_of HX202.out 0 (.string t)
  have HK203 := hide (HK202.out.put ⟨w.heap.size + 1, 0, none⟩ (.string t) (by show w.heap.size ≤ w.heap.size + 1; omega))
  have HP203 := hide (HP202.out.put ⟨w.heap.size + 1, 0, none⟩ (.string t) (by show p ≠ w.heap.size + 1; omega))
  have HR203 := hide (heap_set u202 ⟨w.heap.size + 1, 0, none⟩ (.string t) HR202.out (by show w.heap.size ≠ w.heap.size + 1; omega))
  go_wp2_with (fail)
  generalize u202.setCell ⟨w.heap.size + 1, 0, none⟩ (.string t) = u203 at *
  refine (pass_rel p s mPageTitle b202 m202 u203 HP203.out (by omega) hs' (by decide)).mono ?_
  rintro e u204 ⟨b204, m204, rfl, K204, P204, le204, ha204, R204⟩
  have HK204 := hide (HK203.out.trans K204)
  have HP204 := hide P204
  have HL204 := hide R204
  have HR204 := hide (K204.keep HR203.out (by omega))
  have HX204 := hide (K204.keep HX203.out (by omega))
  clear K204 P204 R204
  go_wp2_with (fail)
  refine (upTo_any p s 60 b204 m204 u204 HP204.out (by omega) hs').mono ?_
  rintro e u205 ⟨un, b205, m205, rfl, K205, P205, le205, ha205, R205⟩
  have HK205 := hide (HK204.out.trans K205)
  have HP205 := hide P205
  have HL205 := hide R205
  have HR205 := hide (K205.keep HR204.out (by omega))
  have HX205 := hide (K205.keep HX204.out (by omega))
  clear K205 P205 R205
  go_wp2_with (fail)
  refine (pass_rel p s mPageBody b205 m205 u205 HP205.out (by omega) hs' (by decide)).mono ?_
  rintro e u206 ⟨b206, m206, rfl, K206, P206, le206, ha206, R206⟩
  have HK206 := hide (HK205.out.trans K206)
  have HP206 := hide P206
  have HL206 := hide R206
  have HR206 := hide (K206.keep HR205.out (by omega))
  have HX206 := hide (K206.keep HX205.out (by omega))
  clear K206 P206 R206
  have hFl := (Array.getElem?_eq_some_iff.1 HX206.out).1
  go_wp2_with fail
  go_loopw [] (fun wr => ∃ (ls : List ByteArray) (vL : Value) (b : Nat) (m : Bool), Hid (Kr p w wr) ∧ Hid (Pl wr p s b m) ∧ b206 ≤ b ∧ b ≤ s.size ∧ Hid (wr.heap[w.heap.size + 1]? = some (.cells #[.string t, vL, .slice none 0 0] 25)) ∧ Hid (wr.heap[w.heap.size]? = some (.cells #[.string ⟨#[]⟩, .slice none 0 0, .slice none 0 0] 25)) ∧ Hid (wr.ownsRow (w.heap.size + 2) 9 1 vL ls.length (ls.map Value.string)) ∧ Hid (ManyR linesR s b206 m206 ls b m) ∧ w.heap.size + 2 ≤ wr.heap.size) (fun wr => todo s p wr)
  case atStart => exact ⟨[], .slice none 0 0, b206, m206, HK206, HP206, Nat.le_refl _, by omega, HX206, HR206, World.ownsRow_nil _ _ _ _, ManyR.start _ _ _ _, hFl⟩
  case round =>
    clear HK206 HP206 HX206 HR206 hFl
    obtain ⟨ls, vL, b, m, HKr, HPr, hab, hbs, HXr, HRr, HOr, HIr, hFl⟩ := hrel
    have hl2 : wr.cell? ⟨p, 2, none⟩ = some (.bool m) := cell_of HPr.out 2
    have htd := HPr.out.todo
    have hmost := HIr.out.most
    obtain ⟨oL, cL, rfl⟩ := form_w HOr.out
    cases m with
    | true =>
      have HLN := hide HIr.out.lost
      clear HIr
      have HIF : Hid (ManyR frmsDF s b true [] b true) := ManyR.start _ _ _ _
      have hFl2 : w.heap.size + 2 ≤ wr.heap.size := by omega
      go_wp2_with fail
      go_loopw [] (fun wr => ∃ (fs : List Frm) (sv : List Value) (vF : Value) (c : Nat) (m : Bool), Hid (Kr p w wr) ∧ Hid (Pl wr p s c m) ∧ b ≤ c ∧ c ≤ s.size ∧ Hid (wr.heap[w.heap.size + 1]? = some (.cells #[.string t, .slice oL ls.length cL, vF] 25)) ∧ Hid (wr.heap[w.heap.size]? = some (.cells #[.string ⟨#[]⟩, .slice none 0 0, .slice none 0 0] 25)) ∧ Hid (wr.ownsRow (w.heap.size + 2) 9 1 (.slice oL ls.length cL) ls.length (ls.map Value.string)) ∧ Hid (OwnF (w.heap.size + 2) wr vF fs sv) ∧ Hid (ManyR frmsDF s b true fs c m) ∧ w.heap.size + 2 ≤ wr.heap.size) (fun wr => todo s p wr)
      case atStart => exact ⟨[], [], .slice none 0 0, b, true, HKr, HPr, Nat.le_refl _, hbs, HXr, HRr, HOr, ⟨rfl, World.ownsRow_nil _ _ _ _, fun i hi => absurd hi (Nat.not_lt_zero _)⟩, HIF, hFl2⟩
      case round =>
        clear HKr HPr HXr HRr HOr HIF hFl2
        obtain ⟨fs, sv, vF, c, m, HKx, HPx, hbc, hcs, HXx, HRx, HOx, HFx, HIx, hFx⟩ := hrel
        have hx2 : wr.cell? ⟨p, 2, none⟩ = some (.bool m) := cell_of HPx.out 2
        have htx := HPx.out.todo
        have hmx := HIx.out.most
        obtain ⟨oF, cF, rfl⟩ := form_w HFx.out.row
        cases m with
        | true =>
          have HREL := hide (page_rel HL201.out HL202.out HL204.out HL205.out HL206.out HLN.out HIx.out.lost)
          have HRG := hide (range_of (l := [.string t, .slice oL ls.length cL, .slice oF fs.length cF]) HXx.out)
          have r0 : wr.cell? ⟨w.heap.size, 0, none⟩ = some (.string ⟨#[]⟩) := cell_of HRx.out 0
          have y0 : wr.frozen? ⟨w.heap.size, 0, none⟩ = false := free_of HRx.out 0
          have r1 : wr.cell? ⟨w.heap.size, 0 + 1, none⟩ = some (.slice none 0 0) := cell_of HRx.out 1
          have y1 : wr.frozen? ⟨w.heap.size, 0 + 1, none⟩ = false := free_of HRx.out 1
          have r2 : wr.cell? ⟨w.heap.size, 0 + 2, none⟩ = some (.slice none 0 0) := cell_of HRx.out 2
          have y2 : wr.frozen? ⟨w.heap.size, 0 + 2, none⟩ = false := free_of HRx.out 2
          go_wp2_with (refine wpList_load_mid rfl 25 (.tmp 3) rfl (w.heap.size + 1) 0 rfl _ _ HRG.out Tryd.underlying25 rfl sizePg ?_)
          have hfin := put_three HRx.out (.string t) (.slice oL ls.length cL) (.slice oF fs.length cF)
          refine bodyPost_ret (results_c rfl _ rfl (range_of (l := [.string t, .slice oL ls.length cL, .slice oF fs.length cF]) hfin) Tryd.underlying25 rfl sizePg) rfl ?_
          exact dPost (t, ls, fs) _ _ c true rfl (((HKx.out.put ⟨w.heap.size, 0, none⟩ (.string t) (Nat.le_refl _)).put ⟨w.heap.size, 1, none⟩ (.slice oL ls.length cL) (Nat.le_refl _)).put ⟨w.heap.size, 2, none⟩ (.slice oF fs.length cF) (Nat.le_refl _)) (((HPx.out.put ⟨w.heap.size, 0, none⟩ (.string t) (Nat.ne_of_lt hpw)).put ⟨w.heap.size, 1, none⟩ (.slice oL ls.length cL) (Nat.ne_of_lt hpw)).put ⟨w.heap.size, 2, none⟩ (.slice oF fs.length cF) (Nat.ne_of_lt hpw)) HREL.out (own_lowd (own_off (own_off (own_off HOx.out ⟨w.heap.size, 0, none⟩ (.string t) (Or.inl (by show w.heap.size < w.heap.size + 2; omega))) ⟨w.heap.size, 1, none⟩ (.slice oL ls.length cL) (Or.inl (by show w.heap.size < w.heap.size + 2; omega))) ⟨w.heap.size, 2, none⟩ (.slice oF fs.length cF) (Or.inl (by show w.heap.size < w.heap.size + 2; omega)))) (ownF_low (OwnF.off (OwnF.off (OwnF.off HFx.out ⟨w.heap.size, 0, none⟩ (.string t) (Or.inl (by show w.heap.size < w.heap.size + 2; omega))) ⟨w.heap.size, 1, none⟩ (.slice oL ls.length cL) (Or.inl (by show w.heap.size < w.heap.size + 2; omega))) ⟨w.heap.size, 2, none⟩ (.slice oF fs.length cF) (Or.inl (by show w.heap.size < w.heap.size + 2; omega))))
        | false =>
          go_wp2_with fail
          refine (begins_any p s mFormHead c false wr HPx.out hcs hs' (by decide)).mono ?_
          rintro e w5 ⟨rfl, b5⟩
          have HK5 := hide (HKx.out.trans (Kr.of b5))
          have HP5 := hide (HPx.out.below b5)
          have HX5 := hide ((b5.block _ (Array.getElem?_eq_some_iff.1 HXx.out).1).trans HXx.out)
          have HR5 := hide ((b5.block _ (Array.getElem?_eq_some_iff.1 HRx.out).1).trans HRx.out)
          have HO5 := hide (own_below HOx.out b5)
          have HF5 := hide (HFx.out.below b5)
          have hF5 : w.heap.size + 2 ≤ w5.heap.size := Nat.le_trans hFx b5.size
          clear b5 HKx HPx HXx HRx HOx HFx hx2
          cases hk : skp mFormHead.data.toList (s.data.toList.drop c) with
          | none =>
            have HKT : Hid (skp mFormHead.data.toList (rest s c) = none) := hk
            have HREL := hide (page_rel HL201.out HL202.out HL204.out HL205.out HL206.out HLN.out (HIx.out.done hcs (fun n => frms_end HKT.out n)))
            clear hk
            have HRG := hide (range_of (l := [.string t, .slice oL ls.length cL, .slice oF fs.length cF]) HX5.out)
            have r0 : w5.cell? ⟨w.heap.size, 0, none⟩ = some (.string ⟨#[]⟩) := cell_of HR5.out 0
            have y0 : w5.frozen? ⟨w.heap.size, 0, none⟩ = false := free_of HR5.out 0
            have r1 : w5.cell? ⟨w.heap.size, 0 + 1, none⟩ = some (.slice none 0 0) := cell_of HR5.out 1
            have y1 : w5.frozen? ⟨w.heap.size, 0 + 1, none⟩ = false := free_of HR5.out 1
            have r2 : w5.cell? ⟨w.heap.size, 0 + 2, none⟩ = some (.slice none 0 0) := cell_of HR5.out 2
            have y2 : w5.frozen? ⟨w.heap.size, 0 + 2, none⟩ = false := free_of HR5.out 2
            go_wp2_with (refine wpList_load_mid rfl 25 (.tmp 3) rfl (w.heap.size + 1) 0 rfl _ _ HRG.out Tryd.underlying25 rfl sizePg ?_)
            have hfin := put_three HR5.out (.string t) (.slice oL ls.length cL) (.slice oF fs.length cF)
            refine bodyPost_ret (results_c rfl _ rfl (range_of (l := [.string t, .slice oL ls.length cL, .slice oF fs.length cF]) hfin) Tryd.underlying25 rfl sizePg) rfl ?_
            exact dPost (t, ls, fs) _ _ c false rfl (((HK5.out.put ⟨w.heap.size, 0, none⟩ (.string t) (Nat.le_refl _)).put ⟨w.heap.size, 1, none⟩ (.slice oL ls.length cL) (Nat.le_refl _)).put ⟨w.heap.size, 2, none⟩ (.slice oF fs.length cF) (Nat.le_refl _)) (((HP5.out.put ⟨w.heap.size, 0, none⟩ (.string t) (Nat.ne_of_lt hpw)).put ⟨w.heap.size, 1, none⟩ (.slice oL ls.length cL) (Nat.ne_of_lt hpw)).put ⟨w.heap.size, 2, none⟩ (.slice oF fs.length cF) (Nat.ne_of_lt hpw)) HREL.out (own_lowd (own_off (own_off (own_off HO5.out ⟨w.heap.size, 0, none⟩ (.string t) (Or.inl (by show w.heap.size < w.heap.size + 2; omega))) ⟨w.heap.size, 1, none⟩ (.slice oL ls.length cL) (Or.inl (by show w.heap.size < w.heap.size + 2; omega))) ⟨w.heap.size, 2, none⟩ (.slice oF fs.length cF) (Or.inl (by show w.heap.size < w.heap.size + 2; omega)))) (ownF_low (OwnF.off (OwnF.off (OwnF.off HF5.out ⟨w.heap.size, 0, none⟩ (.string t) (Or.inl (by show w.heap.size < w.heap.size + 2; omega))) ⟨w.heap.size, 1, none⟩ (.slice oL ls.length cL) (Or.inl (by show w.heap.size < w.heap.size + 2; omega))) ⟨w.heap.size, 2, none⟩ (.slice oF fs.length cF) (Or.inl (by show w.heap.size < w.heap.size + 2; omega))))
          | some r =>
            have HKT : Hid (skp mFormHead.data.toList (rest s c) = some r) := hk
            clear hk
            go_wp2_with fail
            refine (dForm_any p s c false w5 HP5.out hcs hs').mono ?_
            rintro e w6 ⟨f, c2, m2, rfl, K6, P6, le6, hc2, R6, O6⟩
            have hst := HIx.out.step hbc hcs hc2 (fun n => frms_more HKT.out n) (fun y q hq => frmD_lt hq) R6
            have HS6 := hide hst.1
            have HT6 := hide hst.2
            have HK6 := hide (HK5.out.trans K6)
            have HP6 := hide P6
            have HX6 := hide (K6.keep HX5.out (by omega))
            have HR6 := hide (K6.keep HR5.out (by omega))
            have HO6 := hide (ownd_kr HO5.out K6 (by omega))
            have HF6 := hide (HF5.out.krd K6 (by omega))
            have HI6 := hide (own_low O6 hF5)
            have hF6 : w.heap.size + 2 ≤ w6.heap.size := Nat.le_trans hF5 K6.size
            obtain ⟨⟨fa, fi, fb⟩, fv⟩ := f
            simp only at HI6 HS6
            obtain ⟨oi, ci, rfl⟩ := form_w HI6.out
            have q6 : (w6.alloc (.cells #[.string fa, .slice oi fi.length ci, .string fb] 31)).cell? ⟨w.heap.size + 1, 2, none⟩ = some (.slice oF fs.length cF) := cell_of (heap_old w6 (.cells #[.string fa, .slice oi fi.length ci, .string fb] 31) HX6.out) 2
            have HX7 := hide (heap_old (w6.alloc (.cells #[.string fa, .slice oi fi.length ci, .string fb] 31)) (.cells #[.string fa, .slice oi fi.length ci, .string fb] 31) (heap_old w6 (.cells #[.string fa, .slice oi fi.length ci, .string fb] 31) HX6.out))
            have HC7 := hide (cells_new (w6.alloc (.cells #[.string fa, .slice oi fi.length ci, .string fb] 31)) [.string fa, .slice oi fi.length ci, .string fb] 31)
            have ez : (w6.alloc (.cells #[.string fa, .slice oi fi.length ci, .string fb] 31)).heap.size = w6.heap.size + 1 := by simp
            rw [ez] at HC7
            clear hst K6 P6 R6 O6 HK5 HP5 HX5 HR5 HO5 HF5 HIx
            simp only
            go_wp2_with (at_builtin; refine wpList_append_own _ rfl _ _ 23 rfl (w.heap.size + 2) 31 j0 _ 3 56 Tryd.underlying23 hjn hy0 hy1 hy2 rfl (by decide) _ _ _ rfl ((HF6.out.row.alloc _).alloc _) ⟨w6.heap.size + 1, 0, none⟩ 1 1 [.string fa, .slice oi fi.length ci, .string fb] rfl rfl HC7.out ?d2 ?d3 ?d4 ?d5 ?_)
            case d2 => first | rfl | (intro u hu; simp at hu; rcases hu with rfl | rfl | rfl <;> rfl)
            case d3 => unfold maxLen; omega
            case d4 => omega
            case d5 => simp; omega
            intro v8 w8 own8 hg8 _
            obtain ⟨o8, c8, rfl⟩ := form_w own8
            have hrb := own_ge HF6.out.row
            have hX8 := grown_at hg8 HX7.out (fun k' hk' => by have := hrb k' hk'; omega)
            have hR8 := grown_at hg8 (heap_old (w6.alloc (.cells #[.string fa, .slice oi fi.length ci, .string fb] 31)) (.cells #[.string fa, .slice oi fi.length ci, .string fb] 31) (heap_old w6 (.cells #[.string fa, .slice oi fi.length ci, .string fb] 31) HR6.out)) (fun k' hk' => by have := hrb k' hk'; omega)
            have hP8 : Pl w8 p s c2 m2 := grown_at hg8 ((HP6.out.more (.cells #[.string fa, .slice oi fi.length ci, .string fb] 31)).more (.cells #[.string fa, .slice oi fi.length ci, .string fb] 31)) (fun k' hk' => by have := hrb k' hk'; omega)
            have hK8 : Kr p w w8 := ((HK6.out.more (.cells #[.string fa, .slice oi fi.length ci, .string fb] 31)).more (.cells #[.string fa, .slice oi fi.length ci, .string fb] 31)).grown hg8 (fun k' hk' => by have := hrb k' hk'; omega)
            have hz8 : w.heap.size + 2 ≤ w8.heap.size := by have := hg8.size; simp at this; omega
            have E8 : ∀ i (h : i < sv.length), w8.ownsRow (w.heap.size + 2) 28 4 sv[i] (fs[i]'(by have := HF6.out.len; omega)).ins.length (ic (fs[i]'(by have := HF6.out.len; omega)).ins) := fun i h => (((HF6.out.each i h).alloc _).alloc _).kept hg8 (rows_ne (by decide) (HF6.out.each i h) HF6.out.row)
            have N8 : w8.ownsRow (w.heap.size + 2) 28 4 (.slice oi fi.length ci) fi.length (ic fi) := ((HI6.out.alloc _).alloc _).kept hg8 (rows_ne (by decide) HI6.out HF6.out.row)
            have O8 := ((HO6.out.alloc (.cells #[.string fa, .slice oi fi.length ci, .string fb] 31)).alloc (.cells #[.string fa, .slice oi fi.length ci, .string fb] 31)).kept hg8 (rows_ne (by decide) HO6.out HF6.out.row)
            have q8 : w8.cell? ⟨w.heap.size + 1, 2, none⟩ = some (.slice oF fs.length cF) := cell_of hX8 2
            have f8 : w8.frozen? ⟨w.heap.size + 1, 2, none⟩ = false := free_of hX8 2
            have hql : w.heap.size + 1 < w.heap.size + 2 := by omega
            have HX9 : Hid ((w8.setCell ⟨w.heap.size + 1, 2, none⟩ (.slice o8 (fs.length + 1) c8)).heap[w.heap.size + 1]? = some (.cells #[.string t, .slice oL ls.length cL, .slice o8 (fs.length + 1) c8] 25)) := set_of hX8 2 _
            have HR9 := hide (heap_set w8 ⟨w.heap.size + 1, 2, none⟩ (.slice o8 (fs.length + 1) c8) hR8 (by show w.heap.size ≠ w.heap.size + 1; omega))
            have HP9 := hide (hP8.put ⟨w.heap.size + 1, 2, none⟩ (.slice o8 (fs.length + 1) c8) (by show p ≠ w.heap.size + 1; omega))
            have HK9 := hide (hK8.put ⟨w.heap.size + 1, 2, none⟩ (.slice o8 (fs.length + 1) c8) (by show w.heap.size ≤ w.heap.size + 1; omega))
            have HO9 := hide (own_off O8 ⟨w.heap.size + 1, 2, none⟩ (.slice o8 (fs.length + 1) c8) (Or.inl hql))
            have HF9 : Hid (OwnF (w.heap.size + 2) (w8.setCell ⟨w.heap.size + 1, 2, none⟩ (.slice o8 (fs.length + 1) c8)) (.slice o8 (fs.length + 1) c8) (fs ++ [⟨fa, fi, fb⟩]) (sv ++ [.slice oi fi.length ci])) := by
              show OwnF _ _ _ _ _
              refine OwnF.off ?_ _ _ (Or.inl hql)
              exact ownF_snoc (f := ⟨fa, fi, fb⟩) HF6.out.len own8 E8 N8
            have hz9 : w.heap.size + 2 ≤ (w8.setCell ⟨w.heap.size + 1, 2, none⟩ (.slice o8 (fs.length + 1) c8)).heap.size := by rw [size_set]; exact hz8
            have htd9 := HP9.out.todo
            clear own8 hg8 hX8 hR8 hP8 hK8 E8 N8 O8 HX7 HC7 HF6 HI6 HO6 HX6 HR6 HP6 HK6 q6
            go_wp2_with fail
            go_roundw
            case rel => exact ⟨_, _, _, c2, m2, HK9, HP9, by omega, hc2, HX9, HR9, HO9, HF9, HS6, hz9⟩
            case measure =>
              rw [htd9, htx]
              cases m2 with
              | true => simp; omega
              | false =>
                have := HT6.out rfl
                simp
                omega
    | false =>
      go_wp2_with fail
      refine (begins_any p s mLineHead b false wr HPr.out hbs hs' (by decide)).mono ?_
      rintro e w1 ⟨rfl, b1⟩
      have HK1 := hide (HKr.out.trans (Kr.of b1))
      have HP1 := hide (HPr.out.below b1)
      have HX1 := hide ((b1.block _ (Array.getElem?_eq_some_iff.1 HXr.out).1).trans HXr.out)
      have HR1 := hide ((b1.block _ (Array.getElem?_eq_some_iff.1 HRr.out).1).trans HRr.out)
      have HO1 := hide (own_below HOr.out b1)
      have hF1 : w.heap.size + 2 ≤ w1.heap.size := Nat.le_trans hFl b1.size
      clear b1 HKr HPr HXr HRr HOr hl2
      cases hk : skp mLineHead.data.toList (s.data.toList.drop b) with
      | none =>
        have HKT : Hid (skp mLineHead.data.toList (rest s b) = none) := hk
        have HLN := hide (HIr.out.done hbs (fun n => lines_end HKT.out n))
        clear hk HIr
        have HIF : Hid (ManyR frmsDF s b false [] b false) := ManyR.start _ _ _ _
        have hFl2 : w.heap.size + 2 ≤ w1.heap.size := by omega
        go_wp2_with fail
        go_loopw [] (fun wr => ∃ (fs : List Frm) (sv : List Value) (vF : Value) (c : Nat) (m : Bool), Hid (Kr p w wr) ∧ Hid (Pl wr p s c m) ∧ b ≤ c ∧ c ≤ s.size ∧ Hid (wr.heap[w.heap.size + 1]? = some (.cells #[.string t, .slice oL ls.length cL, vF] 25)) ∧ Hid (wr.heap[w.heap.size]? = some (.cells #[.string ⟨#[]⟩, .slice none 0 0, .slice none 0 0] 25)) ∧ Hid (wr.ownsRow (w.heap.size + 2) 9 1 (.slice oL ls.length cL) ls.length (ls.map Value.string)) ∧ Hid (OwnF (w.heap.size + 2) wr vF fs sv) ∧ Hid (ManyR frmsDF s b false fs c m) ∧ w.heap.size + 2 ≤ wr.heap.size) (fun wr => todo s p wr)
        case atStart => exact ⟨[], [], .slice none 0 0, b, false, HK1, HP1, Nat.le_refl _, hbs, HX1, HR1, HO1, ⟨rfl, World.ownsRow_nil _ _ _ _, fun i hi => absurd hi (Nat.not_lt_zero _)⟩, HIF, hFl2⟩
        case round =>
          clear HK1 HP1 HX1 HR1 HO1 HIF hFl2
          obtain ⟨fs, sv, vF, c, m, HKx, HPx, hbc, hcs, HXx, HRx, HOx, HFx, HIx, hFx⟩ := hrel
          have hx2 : wr.cell? ⟨p, 2, none⟩ = some (.bool m) := cell_of HPx.out 2
          have htx := HPx.out.todo
          have hmx := HIx.out.most
          obtain ⟨oF, cF, rfl⟩ := form_w HFx.out.row
          cases m with
          | true =>
            have HREL := hide (page_rel HL201.out HL202.out HL204.out HL205.out HL206.out HLN.out HIx.out.lost)
            have HRG := hide (range_of (l := [.string t, .slice oL ls.length cL, .slice oF fs.length cF]) HXx.out)
            have r0 : wr.cell? ⟨w.heap.size, 0, none⟩ = some (.string ⟨#[]⟩) := cell_of HRx.out 0
            have y0 : wr.frozen? ⟨w.heap.size, 0, none⟩ = false := free_of HRx.out 0
            have r1 : wr.cell? ⟨w.heap.size, 0 + 1, none⟩ = some (.slice none 0 0) := cell_of HRx.out 1
            have y1 : wr.frozen? ⟨w.heap.size, 0 + 1, none⟩ = false := free_of HRx.out 1
            have r2 : wr.cell? ⟨w.heap.size, 0 + 2, none⟩ = some (.slice none 0 0) := cell_of HRx.out 2
            have y2 : wr.frozen? ⟨w.heap.size, 0 + 2, none⟩ = false := free_of HRx.out 2
            go_wp2_with (refine wpList_load_mid rfl 25 (.tmp 3) rfl (w.heap.size + 1) 0 rfl _ _ HRG.out Tryd.underlying25 rfl sizePg ?_)
            have hfin := put_three HRx.out (.string t) (.slice oL ls.length cL) (.slice oF fs.length cF)
            refine bodyPost_ret (results_c rfl _ rfl (range_of (l := [.string t, .slice oL ls.length cL, .slice oF fs.length cF]) hfin) Tryd.underlying25 rfl sizePg) rfl ?_
            exact dPost (t, ls, fs) _ _ c true rfl (((HKx.out.put ⟨w.heap.size, 0, none⟩ (.string t) (Nat.le_refl _)).put ⟨w.heap.size, 1, none⟩ (.slice oL ls.length cL) (Nat.le_refl _)).put ⟨w.heap.size, 2, none⟩ (.slice oF fs.length cF) (Nat.le_refl _)) (((HPx.out.put ⟨w.heap.size, 0, none⟩ (.string t) (Nat.ne_of_lt hpw)).put ⟨w.heap.size, 1, none⟩ (.slice oL ls.length cL) (Nat.ne_of_lt hpw)).put ⟨w.heap.size, 2, none⟩ (.slice oF fs.length cF) (Nat.ne_of_lt hpw)) HREL.out (own_lowd (own_off (own_off (own_off HOx.out ⟨w.heap.size, 0, none⟩ (.string t) (Or.inl (by show w.heap.size < w.heap.size + 2; omega))) ⟨w.heap.size, 1, none⟩ (.slice oL ls.length cL) (Or.inl (by show w.heap.size < w.heap.size + 2; omega))) ⟨w.heap.size, 2, none⟩ (.slice oF fs.length cF) (Or.inl (by show w.heap.size < w.heap.size + 2; omega)))) (ownF_low (OwnF.off (OwnF.off (OwnF.off HFx.out ⟨w.heap.size, 0, none⟩ (.string t) (Or.inl (by show w.heap.size < w.heap.size + 2; omega))) ⟨w.heap.size, 1, none⟩ (.slice oL ls.length cL) (Or.inl (by show w.heap.size < w.heap.size + 2; omega))) ⟨w.heap.size, 2, none⟩ (.slice oF fs.length cF) (Or.inl (by show w.heap.size < w.heap.size + 2; omega))))
          | false =>
            go_wp2_with fail
            refine (begins_any p s mFormHead c false wr HPx.out hcs hs' (by decide)).mono ?_
            rintro e w5 ⟨rfl, b5⟩
            have HK5 := hide (HKx.out.trans (Kr.of b5))
            have HP5 := hide (HPx.out.below b5)
            have HX5 := hide ((b5.block _ (Array.getElem?_eq_some_iff.1 HXx.out).1).trans HXx.out)
            have HR5 := hide ((b5.block _ (Array.getElem?_eq_some_iff.1 HRx.out).1).trans HRx.out)
            have HO5 := hide (own_below HOx.out b5)
            have HF5 := hide (HFx.out.below b5)
            have hF5 : w.heap.size + 2 ≤ w5.heap.size := Nat.le_trans hFx b5.size
            clear b5 HKx HPx HXx HRx HOx HFx hx2
            cases hk : skp mFormHead.data.toList (s.data.toList.drop c) with
            | none =>
              have HKT : Hid (skp mFormHead.data.toList (rest s c) = none) := hk
              have HREL := hide (page_rel HL201.out HL202.out HL204.out HL205.out HL206.out HLN.out (HIx.out.done hcs (fun n => frms_end HKT.out n)))
              clear hk
              have HRG := hide (range_of (l := [.string t, .slice oL ls.length cL, .slice oF fs.length cF]) HX5.out)
              have r0 : w5.cell? ⟨w.heap.size, 0, none⟩ = some (.string ⟨#[]⟩) := cell_of HR5.out 0
              have y0 : w5.frozen? ⟨w.heap.size, 0, none⟩ = false := free_of HR5.out 0
              have r1 : w5.cell? ⟨w.heap.size, 0 + 1, none⟩ = some (.slice none 0 0) := cell_of HR5.out 1
              have y1 : w5.frozen? ⟨w.heap.size, 0 + 1, none⟩ = false := free_of HR5.out 1
              have r2 : w5.cell? ⟨w.heap.size, 0 + 2, none⟩ = some (.slice none 0 0) := cell_of HR5.out 2
              have y2 : w5.frozen? ⟨w.heap.size, 0 + 2, none⟩ = false := free_of HR5.out 2
              go_wp2_with (refine wpList_load_mid rfl 25 (.tmp 3) rfl (w.heap.size + 1) 0 rfl _ _ HRG.out Tryd.underlying25 rfl sizePg ?_)
              have hfin := put_three HR5.out (.string t) (.slice oL ls.length cL) (.slice oF fs.length cF)
              refine bodyPost_ret (results_c rfl _ rfl (range_of (l := [.string t, .slice oL ls.length cL, .slice oF fs.length cF]) hfin) Tryd.underlying25 rfl sizePg) rfl ?_
              exact dPost (t, ls, fs) _ _ c false rfl (((HK5.out.put ⟨w.heap.size, 0, none⟩ (.string t) (Nat.le_refl _)).put ⟨w.heap.size, 1, none⟩ (.slice oL ls.length cL) (Nat.le_refl _)).put ⟨w.heap.size, 2, none⟩ (.slice oF fs.length cF) (Nat.le_refl _)) (((HP5.out.put ⟨w.heap.size, 0, none⟩ (.string t) (Nat.ne_of_lt hpw)).put ⟨w.heap.size, 1, none⟩ (.slice oL ls.length cL) (Nat.ne_of_lt hpw)).put ⟨w.heap.size, 2, none⟩ (.slice oF fs.length cF) (Nat.ne_of_lt hpw)) HREL.out (own_lowd (own_off (own_off (own_off HO5.out ⟨w.heap.size, 0, none⟩ (.string t) (Or.inl (by show w.heap.size < w.heap.size + 2; omega))) ⟨w.heap.size, 1, none⟩ (.slice oL ls.length cL) (Or.inl (by show w.heap.size < w.heap.size + 2; omega))) ⟨w.heap.size, 2, none⟩ (.slice oF fs.length cF) (Or.inl (by show w.heap.size < w.heap.size + 2; omega)))) (ownF_low (OwnF.off (OwnF.off (OwnF.off HF5.out ⟨w.heap.size, 0, none⟩ (.string t) (Or.inl (by show w.heap.size < w.heap.size + 2; omega))) ⟨w.heap.size, 1, none⟩ (.slice oL ls.length cL) (Or.inl (by show w.heap.size < w.heap.size + 2; omega))) ⟨w.heap.size, 2, none⟩ (.slice oF fs.length cF) (Or.inl (by show w.heap.size < w.heap.size + 2; omega))))
            | some r =>
              have HKT : Hid (skp mFormHead.data.toList (rest s c) = some r) := hk
              clear hk
              go_wp2_with fail
              refine (dForm_any p s c false w5 HP5.out hcs hs').mono ?_
              rintro e w6 ⟨f, c2, m2, rfl, K6, P6, le6, hc2, R6, O6⟩
              have hst := HIx.out.step hbc hcs hc2 (fun n => frms_more HKT.out n) (fun y q hq => frmD_lt hq) R6
              have HS6 := hide hst.1
              have HT6 := hide hst.2
              have HK6 := hide (HK5.out.trans K6)
              have HP6 := hide P6
              have HX6 := hide (K6.keep HX5.out (by omega))
              have HR6 := hide (K6.keep HR5.out (by omega))
              have HO6 := hide (ownd_kr HO5.out K6 (by omega))
              have HF6 := hide (HF5.out.krd K6 (by omega))
              have HI6 := hide (own_low O6 hF5)
              have hF6 : w.heap.size + 2 ≤ w6.heap.size := Nat.le_trans hF5 K6.size
              obtain ⟨⟨fa, fi, fb⟩, fv⟩ := f
              simp only at HI6 HS6
              obtain ⟨oi, ci, rfl⟩ := form_w HI6.out
              have q6 : (w6.alloc (.cells #[.string fa, .slice oi fi.length ci, .string fb] 31)).cell? ⟨w.heap.size + 1, 2, none⟩ = some (.slice oF fs.length cF) := cell_of (heap_old w6 (.cells #[.string fa, .slice oi fi.length ci, .string fb] 31) HX6.out) 2
              have HX7 := hide (heap_old (w6.alloc (.cells #[.string fa, .slice oi fi.length ci, .string fb] 31)) (.cells #[.string fa, .slice oi fi.length ci, .string fb] 31) (heap_old w6 (.cells #[.string fa, .slice oi fi.length ci, .string fb] 31) HX6.out))
              have HC7 := hide (cells_new (w6.alloc (.cells #[.string fa, .slice oi fi.length ci, .string fb] 31)) [.string fa, .slice oi fi.length ci, .string fb] 31)
              have ez : (w6.alloc (.cells #[.string fa, .slice oi fi.length ci, .string fb] 31)).heap.size = w6.heap.size + 1 := by simp
              rw [ez] at HC7
              clear hst K6 P6 R6 O6 HK5 HP5 HX5 HR5 HO5 HF5 HIx
              simp only
              go_wp2_with (at_builtin; refine wpList_append_own _ rfl _ _ 23 rfl (w.heap.size + 2) 31 j0 _ 3 56 Tryd.underlying23 hjn hy0 hy1 hy2 rfl (by decide) _ _ _ rfl ((HF6.out.row.alloc _).alloc _) ⟨w6.heap.size + 1, 0, none⟩ 1 1 [.string fa, .slice oi fi.length ci, .string fb] rfl rfl HC7.out ?d2 ?d3 ?d4 ?d5 ?_)
              case d2 => first | rfl | (intro u hu; simp at hu; rcases hu with rfl | rfl | rfl <;> rfl)
              case d3 => unfold maxLen; omega
              case d4 => omega
              case d5 => simp; omega
              intro v8 w8 own8 hg8 _
              obtain ⟨o8, c8, rfl⟩ := form_w own8
              have hrb := own_ge HF6.out.row
              have hX8 := grown_at hg8 HX7.out (fun k' hk' => by have := hrb k' hk'; omega)
              have hR8 := grown_at hg8 (heap_old (w6.alloc (.cells #[.string fa, .slice oi fi.length ci, .string fb] 31)) (.cells #[.string fa, .slice oi fi.length ci, .string fb] 31) (heap_old w6 (.cells #[.string fa, .slice oi fi.length ci, .string fb] 31) HR6.out)) (fun k' hk' => by have := hrb k' hk'; omega)
              have hP8 : Pl w8 p s c2 m2 := grown_at hg8 ((HP6.out.more (.cells #[.string fa, .slice oi fi.length ci, .string fb] 31)).more (.cells #[.string fa, .slice oi fi.length ci, .string fb] 31)) (fun k' hk' => by have := hrb k' hk'; omega)
              have hK8 : Kr p w w8 := ((HK6.out.more (.cells #[.string fa, .slice oi fi.length ci, .string fb] 31)).more (.cells #[.string fa, .slice oi fi.length ci, .string fb] 31)).grown hg8 (fun k' hk' => by have := hrb k' hk'; omega)
              have hz8 : w.heap.size + 2 ≤ w8.heap.size := by have := hg8.size; simp at this; omega
              have E8 : ∀ i (h : i < sv.length), w8.ownsRow (w.heap.size + 2) 28 4 sv[i] (fs[i]'(by have := HF6.out.len; omega)).ins.length (ic (fs[i]'(by have := HF6.out.len; omega)).ins) := fun i h => (((HF6.out.each i h).alloc _).alloc _).kept hg8 (rows_ne (by decide) (HF6.out.each i h) HF6.out.row)
              have N8 : w8.ownsRow (w.heap.size + 2) 28 4 (.slice oi fi.length ci) fi.length (ic fi) := ((HI6.out.alloc _).alloc _).kept hg8 (rows_ne (by decide) HI6.out HF6.out.row)
              have O8 := ((HO6.out.alloc (.cells #[.string fa, .slice oi fi.length ci, .string fb] 31)).alloc (.cells #[.string fa, .slice oi fi.length ci, .string fb] 31)).kept hg8 (rows_ne (by decide) HO6.out HF6.out.row)
              have q8 : w8.cell? ⟨w.heap.size + 1, 2, none⟩ = some (.slice oF fs.length cF) := cell_of hX8 2
              have f8 : w8.frozen? ⟨w.heap.size + 1, 2, none⟩ = false := free_of hX8 2
              have hql : w.heap.size + 1 < w.heap.size + 2 := by omega
              have HX9 : Hid ((w8.setCell ⟨w.heap.size + 1, 2, none⟩ (.slice o8 (fs.length + 1) c8)).heap[w.heap.size + 1]? = some (.cells #[.string t, .slice oL ls.length cL, .slice o8 (fs.length + 1) c8] 25)) := set_of hX8 2 _
              have HR9 := hide (heap_set w8 ⟨w.heap.size + 1, 2, none⟩ (.slice o8 (fs.length + 1) c8) hR8 (by show w.heap.size ≠ w.heap.size + 1; omega))
              have HP9 := hide (hP8.put ⟨w.heap.size + 1, 2, none⟩ (.slice o8 (fs.length + 1) c8) (by show p ≠ w.heap.size + 1; omega))
              have HK9 := hide (hK8.put ⟨w.heap.size + 1, 2, none⟩ (.slice o8 (fs.length + 1) c8) (by show w.heap.size ≤ w.heap.size + 1; omega))
              have HO9 := hide (own_off O8 ⟨w.heap.size + 1, 2, none⟩ (.slice o8 (fs.length + 1) c8) (Or.inl hql))
              have HF9 : Hid (OwnF (w.heap.size + 2) (w8.setCell ⟨w.heap.size + 1, 2, none⟩ (.slice o8 (fs.length + 1) c8)) (.slice o8 (fs.length + 1) c8) (fs ++ [⟨fa, fi, fb⟩]) (sv ++ [.slice oi fi.length ci])) := by
                show OwnF _ _ _ _ _
                refine OwnF.off ?_ _ _ (Or.inl hql)
                exact ownF_snoc (f := ⟨fa, fi, fb⟩) HF6.out.len own8 E8 N8
              have hz9 : w.heap.size + 2 ≤ (w8.setCell ⟨w.heap.size + 1, 2, none⟩ (.slice o8 (fs.length + 1) c8)).heap.size := by rw [size_set]; exact hz8
              have htd9 := HP9.out.todo
              clear own8 hg8 hX8 hR8 hP8 hK8 E8 N8 O8 HX7 HC7 HF6 HI6 HO6 HX6 HR6 HP6 HK6 q6
              go_wp2_with fail
              go_roundw
              case rel => exact ⟨_, _, _, c2, m2, HK9, HP9, by omega, hc2, HX9, HR9, HO9, HF9, HS6, hz9⟩
              case measure =>
                rw [htd9, htx]
                cases m2 with
                | true => simp; omega
                | false =>
                  have := HT6.out rfl
                  simp
                  omega
      | some r =>
        have HKT : Hid (skp mLineHead.data.toList (rest s b) = some r) := hk
        clear hk
        go_wp2_with (fail)
        refine (pass_rel p s mLineHead b false w1 HP1.out (by omega) hs' (by decide)).mono ?_
        rintro e u207 ⟨b207, m207, rfl, K207, P207, le207, ha207, R207⟩
        have HK207 := hide (HK1.out.trans K207)
        have HP207 := hide P207
        have HL207 := hide R207
        have HR207 := hide (K207.keep HR1.out (by omega))
        have HX207 := hide (K207.keep HX1.out (by omega))
        have HW207 := hide (ownd_kr HO1.out K207 (by omega))
        clear K207 P207 R207
        go_wp2_with (fail)
        refine (upTo_any p s 60 b207 m207 u207 HP207.out (by omega) hs').mono ?_
        rintro e u208 ⟨ln, b208, m208, rfl, K208, P208, le208, ha208, R208⟩
        have HK208 := hide (HK207.out.trans K208)
        have HP208 := hide P208
        have HL208 := hide R208
        have HR208 := hide (K208.keep HR207.out (by omega))
        have HX208 := hide (K208.keep HX207.out (by omega))
        have HW208 := hide (ownd_kr HW207.out K208 (by omega))
        clear K208 P208 R208
        go_wp2_with (fail)
        refine (pass_rel p s mLineEnd b208 m208 u208 HP208.out (by omega) hs' (by decide)).mono ?_
        rintro e u209 ⟨b209, m209, rfl, K209, P209, le209, ha209, R209⟩
        have HK209 := hide (HK208.out.trans K209)
        have HP209 := hide P209
        have HL209 := hide R209
        have HR209 := hide (K209.keep HR208.out (by omega))
        have HX209 := hide (K209.keep HX208.out (by omega))
        have HW209 := hide (ownd_kr HW208.out K209 (by omega))
        clear K209 P209 R209
        have hst := HIr.out.step hab hbs (by omega) (fun n => lines_more HKT.out n) (fun y q hq => lnD_lt hq) (ln_rel HL207.out HL208.out HL209.out)
        have HS2 := hide hst.1
        have HT2 := hide hst.2
        have hF2 : w.heap.size + 2 ≤ u209.heap.size := by have := (Array.getElem?_eq_some_iff.1 HX209.out).1; omega
        have q1 : u209.cell? ⟨w.heap.size + 1, 1, none⟩ = some (.slice oL ls.length cL) := cell_of HX209.out 1
        have HX3 := hide (heap_old u209 (.cells #[.string ln] 9) HX209.out)
        have HC3 := hide (cells_new u209 [.string ln] 9)
        clear hst
        go_wp2_with (at_builtin; refine wpList_append_own _ rfl _ _ 22 rfl (w.heap.size + 2) 9 i0 _ 1 16 Tryd.underlying22 hi hz0 hz1 hz2 rfl (by decide) _ _ _ rfl (HW209.out.alloc _) ⟨u209.heap.size, 0, none⟩ 1 1 [.string ln] rfl rfl HC3.out ?c2 ?c3 ?c4 ?c5 ?_)
        case c2 => first | rfl | (intro u hu; simp at hu; rcases hu with rfl; rfl)
        case c3 => unfold maxLen; omega
        case c4 => omega
        case c5 => simp; omega
        intro v3 w3 own3 hg3 _
        obtain ⟨o3, c3, rfl⟩ := form_w own3
        have hrb := own_ge HW209.out
        have hX3 := grown_at hg3 HX3.out (fun k' hk' => by have := hrb k' hk'; omega)
        have hR3 := grown_at hg3 (heap_old u209 (.cells #[.string ln] 9) HR209.out) (fun k' hk' => by have := hrb k' hk'; omega)
        have hP3 : Pl w3 p s b209 m209 := grown_at hg3 (HP209.out.more (.cells #[.string ln] 9)) (fun k' hk' => by have := hrb k' hk'; omega)
        have hK3 : Kr p w w3 := (HK209.out.more (.cells #[.string ln] 9)).grown hg3 (fun k' hk' => by have := hrb k' hk'; omega)
        have hz3 : w.heap.size + 2 ≤ w3.heap.size := by have := hg3.size; simp at this; omega
        have q3 : w3.cell? ⟨w.heap.size + 1, 1, none⟩ = some (.slice oL ls.length cL) := cell_of hX3 1
        have f3 : w3.frozen? ⟨w.heap.size + 1, 1, none⟩ = false := free_of hX3 1
        have HX4 : Hid ((w3.setCell ⟨w.heap.size + 1, 1, none⟩ (.slice o3 (ls.length + 1) c3)).heap[w.heap.size + 1]? = some (.cells #[.string t, .slice o3 (ls.length + 1) c3, .slice none 0 0] 25)) := set_of hX3 1 _
        have HR4 := hide (heap_set w3 ⟨w.heap.size + 1, 1, none⟩ (.slice o3 (ls.length + 1) c3) hR3 (by show w.heap.size ≠ w.heap.size + 1; omega))
        have HP4 := hide (hP3.put ⟨w.heap.size + 1, 1, none⟩ (.slice o3 (ls.length + 1) c3) (by show p ≠ w.heap.size + 1; omega))
        have HK4 := hide (hK3.put ⟨w.heap.size + 1, 1, none⟩ (.slice o3 (ls.length + 1) c3) (by show w.heap.size ≤ w.heap.size + 1; omega))
        have HO4 : Hid ((w3.setCell ⟨w.heap.size + 1, 1, none⟩ (.slice o3 (ls.length + 1) c3)).ownsRow (w.heap.size + 2) 9 1 (.slice o3 (ls.length + 1) c3) (ls ++ [ln]).length ((ls ++ [ln]).map Value.string)) := by
          show World.ownsRow _ _ _ _ _ _ _
          rw [List.map_append, List.length_append]
          exact own_off own3 ⟨w.heap.size + 1, 1, none⟩ (.slice o3 (ls.length + 1) c3) (Or.inl (by show w.heap.size + 1 < w.heap.size + 2; omega))
        have hz4 : w.heap.size + 2 ≤ (w3.setCell ⟨w.heap.size + 1, 1, none⟩ (.slice o3 (ls.length + 1) c3)).heap.size := by rw [size_set]; exact hz3
        have htd4 := HP4.out.todo
        clear own3 hg3 hX3 hR3 hP3 hK3 HX3 HC3 q1
        go_wp2_with fail
        go_roundw
        case rel => exact ⟨_, _, b209, m209, HK4, HP4, by omega, by omega, HX4, HR4, HO4, HS2, hz4⟩
        case measure =>
          rw [htd4, htd]
          generalize m209 = m2 at *
          cases m2 with
          | true => simp; omega
          | false =>
            have := HT2.out rfl
            simp
            omega
end Go.Proofs.YtaejlcffimkopaaDoor.pg
