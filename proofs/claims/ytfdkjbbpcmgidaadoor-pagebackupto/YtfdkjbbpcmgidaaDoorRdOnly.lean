import Derived.Test.YtfdkjbbpcmgidaaDoorRdRead
import Derived.Test.YtfdkjbbpcmgidaaDoorErrWalks
namespace Go.Proofs.YtfdkjbbpcmgidaaDoor.pg
open Go.ChangeShapes Go.WideShapes Go.ChangeAt Go.RowKit Go.Proofs.YtfdkjbbpcmgidaaDoor.common Go.Maps
attribute [local go_sem ↓] Go.wp_at_zero Go.wp_at_succ

theorem pageL_most' (t : ByteArray) (ls : List ByteArray) (fs : List Frm) : (pageL t ls fs).length ≤ 6 * pageW t ls fs := by
  have h1 := partsA_len (headP t) true
  have h2 := headP_wt t
  have h3 := lines_len ls
  have h4 := frms_len fs
  have e : mPageEnd.data.toList.length = 16 := rfl
  unfold pageL pageW
  rw [List.length_append, List.length_append, List.length_append, e]
  omega
theorem esc_ge (x : ByteArray) : x.size ≤ (Pg.esc x.data.toList).length := by
  have := (Pg.esc_len x.data.toList).1
  rwa [len_list] at this
theorem len2 {a m b r : List UInt8} (h : a ++ [] = m ++ (b ++ r)) : m.length + b.length ≤ a.length := by
  have := congrArg List.length h
  simp only [List.length_append, List.length_nil] at this
  omega
theorem len4 {a m b c d r : List UInt8} (h : a ++ [] = m ++ (b ++ (c ++ (d ++ r)))) : m.length + b.length + d.length ≤ a.length := by
  have := congrArg List.length h
  simp only [List.length_append, List.length_nil] at this
  omega
theorem len6 {a m b c d e f r : List UInt8} (h : a ++ [] = m ++ (b ++ (c ++ (d ++ (e ++ (f ++ r)))))) : m.length + b.length + d.length + f.length ≤ a.length := by
  have := congrArg List.length h
  simp only [List.length_append, List.length_nil] at this
  omega
theorem len7 {a m b c d e f g r : List UInt8} (h : a ++ [] = m ++ (b ++ (c ++ (d ++ (e ++ (f ++ (g ++ r))))))) : m.length + c.length + e.length + g.length ≤ a.length := by
  have := congrArg List.length h
  simp only [List.length_append, List.length_nil] at this
  omega
theorem len8 {a m b c d e f g r : List UInt8} (h : a = m ++ (b ++ (c ++ (d ++ (e ++ (f ++ (g ++ r))))))) : b.length + d.length + f.length + g.length ≤ a.length := by
  have := congrArg List.length h
  simp only [List.length_append] at this
  omega
theorem line_least (x : Inp) (h : mayB x = true) : inW x + 10 ≤ (lineL x).length := by
  have hk := mayB_kind h
  obtain ⟨k, n, v, l⟩ := x
  dsimp only at hk
  have hc : k = 1 ∨ k = 2 ∨ k = 3 ∨ k = 4 := by omega
  have hn := esc_ge n
  have hv := esc_ge v
  have hl := esc_ge l
  show n.size + v.size + l.size + 10 ≤ _
  rcases hc with rfl | rfl | rfl | rfl
  · have e : l.size = 0 := by
      unfold mayB at h
      simp at h
      rw [emp_is h.2]; rfl
    have := len4 (rdl1 n v l [])
    have e1 : mHiddenName.data.toList.length = 27 := rfl
    omega
  · have := len6 (rdl2 n v l [])
    have e1 : mLabelHead.data.toList.length = 10 := rfl
    omega
  · have e : v.size = 0 := by
      unfold mayB at h
      simp at h
      rw [emp_is h.2]; rfl
    have := len4 (rdl3 n v l [])
    have e1 : mLabelHead.data.toList.length = 10 := rfl
    omega
  · have := len7 (rdl4 n v l [])
    have e1 : mLabelHead.data.toList.length = 10 := rfl
    omega
theorem insW_least : ∀ xs : List Inp, xs.all mayB = true → insW xs ≤ 11 * (insL xs).length
  | [], _ => Nat.zero_le _
  | x :: r, h => by
    rw [List.all_cons, Bool.and_eq_true] at h
    have h1 := line_least x h.1
    have h2 := insW_least r h.2
    rw [insL_cons, List.length_append]
    show inW x + 100 + insW r ≤ _
    omega
theorem linesW_least : ∀ ls : List ByteArray, linesW ls ≤ 20 * (ls.flatMap lineT).length
  | [] => Nat.zero_le _
  | s :: r => by
    have h1 := len2 (lineT_app s [])
    have h2 := linesW_least r
    have h3 := esc_ge s
    have e1 : mLineHead.data.toList.length = 3 := rfl
    rw [List.flatMap_cons, List.length_append]
    show s.size + 20 + linesW r ≤ _
    omega
theorem frmsW_least : ∀ fs : List Frm, fs.all okF = true → frmsW fs ≤ 20 * (fs.flatMap frmL).length
  | [], _ => Nat.zero_le _
  | f :: r, h => by
    rw [List.all_cons, Bool.and_eq_true] at h
    have h1 := len6 (frmL_is f [])
    have h2 := frmsW_least r h.2
    have h3 := esc_ge f.act
    have h4 := esc_ge f.but
    have h5 := insW_least f.ins h.1
    have e1 : mFormHead.data.toList.length = 28 := rfl
    rw [List.flatMap_cons, List.length_append]
    show (f.act.size + insW f.ins + f.but.size + 100) + frmsW r ≤ _
    omega
theorem pageW_least (t : ByteArray) (ls : List ByteArray) (fs : List Frm) (h : fs.all okF = true) : pageW t ls fs ≤ 20 * (pageL t ls fs).length + 300 := by
  have h1 := len8 (pageL_is t ls fs)
  have h2 := linesW_least ls
  have h3 := frmsW_least fs h
  have h4 := esc_ge t
  unfold pageW
  omega
theorem page_lens (t : ByteArray) (ls : List ByteArray) (fs : List Frm) : ls.length ≤ (pageL t ls fs).length ∧ fs.length ≤ (pageL t ls fs).length ∧ ∀ f ∈ fs, f.ins.length ≤ (pageL t ls fs).length := by
  have h1 := len8 (pageL_is t ls fs)
  have h2 := lines_most ls
  have h3 := frms_most fs
  refine ⟨by omega, by omega, fun f hf => ?_⟩
  have h4 : (frmL f).length ≤ (fs.flatMap frmL).length := by
    obtain ⟨a, c, rfl⟩ := List.append_of_mem hf
    rw [List.flatMap_append, List.flatMap_cons, List.length_append, List.length_append]
    omega
  have h5 := len6 (frmL_is f [])
  have h6 := insL_most f.ins
  omega
theorem liesS_nil (w : World) : LiesS w (.slice none 0 0) [] := ⟨none, 0, rfl, fun _ hi => absurd hi (Nat.not_lt_zero _)⟩
theorem liesF_nil (w : World) : LiesF w (.slice none 0 0) [] := ⟨none, 0, rfl, fun _ hi => absurd hi (Nat.not_lt_zero _)⟩
/-- a text that is a page is read -/
theorem read_some (s : ByteArray) (w : World) (hs : s.size ≤ 1099511627776) (ea : Addr) (hE : Esc w) (hT : Txt w ea) {t : ByteArray} {ls : List ByteArray} {fs : List Frm} (h : pageRd s.data.toList = some (t, ls, fs)) :
    Calls Tryd.prog 9 #[.string s] w fun x w' => ∃ oa ca ob cb ss, x = .returned (.tuple #[.agg #[.string t, .slice oa ls.length ca, .slice ob fs.length cb], .nilIface]) ∧ w'.ownsRow w.heap.size 9 1 (.slice oa ls.length ca) ls.length (ls.map Value.string) ∧ OwnF w.heap.size w' (.slice ob fs.length cb) fs ss ∧ Aside ss ∧ Below w.heap.size w w' := by
  refine (read_any s w hs ea hE hT).mono ?_
  rintro x w' ⟨⟨t', ls', fs', vL, vF, ss, h1, rfl, h2, h3, h4⟩ | ⟨h1, _⟩, hb⟩
  · rw [h] at h1
    cases h1
    obtain ⟨oa, ca, rfl⟩ := form_w h2
    obtain ⟨ob, cb, rfl⟩ := form_w h3.row
    exact ⟨oa, ca, ob, cb, ss, rfl, h2, h3, h4, hb⟩
  · rw [h] at h1; cases h1
/-- all else is refused -/
theorem read_none (s : ByteArray) (w : World) (hs : s.size ≤ 1099511627776) (ea : Addr) (hE : Esc w) (hT : Txt w ea) (h : pageRd s.data.toList = none) :
    Calls Tryd.prog 9 #[.string s] w fun x w' => x = .returned (.tuple #[.agg #[.string ⟨#[]⟩, .slice none 0 0, .slice none 0 0], X ea]) ∧ Below w.heap.size w w' := by
  refine (read_any s w hs ea hE hT).mono ?_
  rintro x w' ⟨⟨t', ls', fs', vL, vF, ss, h1, _⟩ | ⟨_, h2⟩, hb⟩
  · rw [h] at h1; cases h1
  · exact ⟨h2, hb⟩

set_option maxRecDepth 100000 in
set_option maxHeartbeats 3200000 in
theorem lawOnly (s : ByteArray) (w : World) (hz : s.size ≤ 1048576) (ht : Esc w) (e : Nat → Addr) (he : errw.Errs w e) :
    Calls Tryd.prog 3 #[.string s] w fun x w' => x = .returned (.bool true) ∧ Below w.heap.size w w' := by
  have hw : pageW s [] [] = 2 * s.size + 300 := by show s.size + s.size + 0 + 0 + 300 = _; omega
  have hm := pageL_most' s [] []
  have hrd := pageRd_app s [] [] rfl
  have hsz : (ByteArray.mk (pageL s [] []).toArray).size ≤ 1099511627776 := by rw [size_mk]; omega
  have HP := hide (page_any w s _ _ _ [] [] (liesS_nil w) (liesF_nil w) ht (he.cell 0 (by decide)) (by rw [hw]; omega) (by simp) (by simp) (fun f hf => by cases hf))
  have HR : Hid (∀ W, Below w.heap.size w W → Calls Tryd.prog 9 #[.string ⟨(pageL s [] []).toArray⟩] W fun x w' => ∃ oa ca ob cb ss, x = .returned (.tuple #[.agg #[.string s, .slice oa 0 ca, .slice ob 0 cb], .nilIface]) ∧ W.heap.size ≤ w'.heap.size ∧ OwnF W.heap.size w' (.slice ob 0 cb) [] ss ∧ Below W.heap.size W w') := by
    intro W hb
    refine (read_some _ W hsz (e 1) (ht.next hb) ((he.below hb).cell 1 (by decide)) (t := s) (ls := []) (fs := []) ?_).mono ?_
    · show pageRd (pageL s [] []).toArray.toList = _
      rw [List.toList_toArray]; exact hrd
    · rintro x w' ⟨oa, ca, ob, cb, ss, rfl, _, h2, _, hb⟩
      exact ⟨oa, ca, ob, cb, ss, rfl, hb.size, h2, hb⟩
  have HT := hide ht
  have HE := hide he
  have HRD : Hid (∀ W, Below w.heap.size w W → s.size ≤ 1099511627776 ∧ Esc W ∧ Txt W (e 1) ∧ errw.Errs W e) := fun W hb => ⟨by omega, ht.next hb, (he.below hb).cell 1 (by decide), he.below hb⟩
  have HS : Hid (pageR (errw.E e 0) s [] [] = .tuple #[S (pageL s [] []), .nilIface]) := rfl
  have hcp : pageR (errw.E e 0) s [] [] = .tuple #[S (pageL s [] []), .nilIface] := rfl
  rw [hcp] at HP
  clear ht he hw hm hrd hsz hcp HS
  generalize pageL s [] [] = P at *
  go_enter Tryd.func3, Tryd.ntmps3
  go_wp2_with fail
  refine HP.out.mono ?_
  rintro x w1 ⟨rfl, b1⟩
  have HB1 := hide b1
  have HR1 := hide (HR.out w1 b1)
  clear b1 HP HR
  go_wp2_with fail
  refine HR1.out.mono ?_
  rintro x w2 ⟨oa, ca, ob, cb, ss, rfl, hs2, hF2, b2⟩
  have HB2 := hide (HB1.out.trans (b2.mono HB1.out.size))
  clear hs2 hF2 b2 HR1
  go_wp2_with fail
  have B3 : Below w2.heap.size w2 (w2.alloc (.cells #[.string s, .slice oa 0 ca, .slice ob 0 cb] 29)) := (Below.refl _ _).alloc (Nat.le_refl _) _
  have HB3 := hide (HB2.out.trans (B3.mono HB2.out.size))
  clear B3
  generalize w2.alloc (.cells #[.string s, .slice oa 0 ca, .slice ob 0 cb] 29) = W3 at *
  obtain ⟨hs1, hE3, hT3, _⟩ := HRD.out W3 HB3.out
  cases hr : pageRd s.data.toList with
  | none =>
    have HC := hide (read_none s W3 hs1 (e 1) hE3 hT3 hr)
    clear hs1 hE3 hT3 hr
    refine HC.out.mono ?_
    rintro x w4 ⟨rfl, b4⟩
    have HB4 := hide (HB3.out.trans (b4.mono HB3.out.size))
    have B5 : Below w4.heap.size w4 (w4.alloc (.cells #[.string ⟨#[]⟩, .slice none 0 0, .slice none 0 0] 29)) := (Below.refl _ _).alloc (Nat.le_refl _) _
    have HB5 := hide (HB4.out.trans (B5.mono HB4.out.size))
    clear b4 B5 HC
    have HSP := hide (fun W => samePage_any ⟨#[]⟩ (.slice none 0 0) (.slice none 0 0) (.slice none 0 0) (.slice none 0 0) [] [] W (liesS_nil W) (liesF_nil W) (liesS_nil W) (liesF_nil W) (by simp) (by simp) (fun f hf => by cases hf))
    go_wp2_with fail
    refine (HSP.out _).mono ?_
    rintro x w6 ⟨rfl, b6⟩
    have HB6 := hide (HB5.out.trans (b6.mono HB5.out.size))
    have HN := hide (errw.num_1 w6 e (HRD.out w6 HB6.out).2.2.2)
    clear b6
    go_wp2_with fail
    refine HN.out.mono ?_
    rintro x w7 ⟨rfl, h7⟩
    obtain rfl := h7.symm
    go_wp2
    go_ret
    exact ⟨rfl, HB6.out⟩
  | some p =>
    obtain ⟨t, ls, fs⟩ := p
    have HC := hide (read_some s W3 hs1 (e 1) hE3 hT3 hr)
    obtain ⟨hpl, hok⟩ := pageRd_is hr
    have hpw := pageW_least t ls fs hok
    rw [← hpl, len_list] at hpw
    have HPL := hide hpl
    have HOK := hide hok
    have HLN : Hid (ls.length ≤ 1048576 ∧ fs.length ≤ 1048576 ∧ ∀ f ∈ fs, f.ins.length ≤ 1048576) := by
      obtain ⟨l1, l2, l3⟩ := page_lens t ls fs
      rw [← hpl, len_list] at l1 l2 l3
      exact ⟨Nat.le_trans l1 hz, Nat.le_trans l2 hz, fun f hf => Nat.le_trans (l3 f hf) hz⟩
    clear hs1 hE3 hT3 hr hpl hok
    refine HC.out.mono ?_
    rintro x w4 ⟨oc, cc, od, cd, ss', rfl, hL4, hF4, _, b4⟩
    have HB4 := hide (HB3.out.trans (b4.mono HB3.out.size))
    have hLi := liesS_of_own hL4
    have hFi := hF4.lies
    have B5 : Below w4.heap.size w4 (w4.alloc (.cells #[.string t, .slice oc ls.length cc, .slice od fs.length cd] 29)) := (Below.refl _ _).alloc (Nat.le_refl _) _
    have HB5 := hide (HB4.out.trans (B5.mono HB4.out.size))
    have HR5 := hide (HRD.out _ HB5.out)
    have HPG := hide (page_any _ t _ _ _ ls fs (hLi.below B5) (hFi.below B5) HR5.out.2.1 (HR5.out.2.2.2.cell 0 (by decide)) (by omega) (Nat.le_trans HLN.out.1 (by decide)) (Nat.le_trans HLN.out.2.1 (by decide)) (fun f hf => Nat.le_trans (HLN.out.2.2 f hf) (by decide)))
    have hcp : pageR (errw.E e 0) t ls fs = .tuple #[.string s, .nilIface] := by
      unfold pageR
      rw [if_pos HOK.out, ← HPL.out]
    rw [hcp] at HPG
    clear b4 B5 HC hL4 hF4 hLi hFi hpw hcp
    go_wp2_with fail
    refine HPG.out.mono ?_
    rintro x w6 ⟨rfl, b6⟩
    have HB6 := hide (HB5.out.trans (b6.mono HB5.out.size))
    clear b6
    go_wp2
    go_ret
    exact ⟨rfl, HB6.out⟩
end Go.Proofs.YtfdkjbbpcmgidaaDoor.pg
