import Derived.Test.YtaejlcffimkopaaDoorRdRead
import Derived.Test.YtaejlcffimkopaaDoorErrWalks
namespace Go.Proofs.YtaejlcffimkopaaDoor.pg
open Go.ChangeShapes Go.WideShapes Go.ChangeAt Go.RowKit Go.Proofs.YtaejlcffimkopaaDoor.common Go.Maps
attribute [local go_sem ↓] Go.wp_at_zero Go.wp_at_succ

theorem pageL_most' (t : ByteArray) (ls : List ByteArray) (fs : List Frm) : (pageL t ls fs).length ≤ 6 * pageW t ls fs := by
  have h1 := partsA_len (headP t) true
  have h2 := headP_wt t
  have h3 := lines_len ls
  have h4 := frms_len fs
  have e : mPageEnd.data.toList.length = 16 := rfl
  unfold pageL pageW
  rw [List.length_append, List.length_append, List.length_append, e]
  omega
theorem esc_ge (x : ByteArray) : x.size ≤ (Pg.esc x.data.toList).length := by
  have := (Pg.esc_len x.data.toList).1
  rwa [len_list] at this
theorem len2 {a m b r : List UInt8} (h : a ++ [] = m ++ (b ++ r)) : m.length + b.length ≤ a.length := by
  have := congrArg List.length h
  simp only [List.length_append, List.length_nil] at this
  omega
theorem len4 {a m b c d r : List UInt8} (h : a ++ [] = m ++ (b ++ (c ++ (d ++ r)))) : m.length + b.length + d.length ≤ a.length := by
  have := congrArg List.length h
  simp only [List.length_append, List.length_nil] at this
  omega
theorem len6 {a m b c d e f r : List UInt8} (h : a ++ [] = m ++ (b ++ (c ++ (d ++ (e ++ (f ++ r)))))) : m.length + b.length + d.length + f.length ≤ a.length := by
  have := congrArg List.length h
  simp only [List.length_append, List.length_nil] at this
  omega
theorem len7 {a m b c d e f g r : List UInt8} (h : a ++ [] = m ++ (b ++ (c ++ (d ++ (e ++ (f ++ (g ++ r))))))) : m.length + c.length + e.length + g.length ≤ a.length := by
  have := congrArg List.length h
  simp only [List.length_append, List.length_nil] at this
  omega
theorem len8 {a m b c d e f g r : List UInt8} (h : a = m ++ (b ++ (c ++ (d ++ (e ++ (f ++ (g ++ r))))))) : b.length + d.length + f.length + g.length ≤ a.length := by
  have := congrArg List.length h
  simp only [List.length_append] at this
  omega
theorem line_least (x : Inp) (h : mayB x = true) : inW x + 10 ≤ (lineL x).length := by
  have hk := mayB_kind h
  obtain ⟨k, n, v, l⟩ := x
  dsimp only at hk
  have hc : k = 1 ∨ k = 2 ∨ k = 3 ∨ k = 4 := by omega
  have hn := esc_ge n
  have hv := esc_ge v
  have hl := esc_ge l
  show n.size + v.size + l.size + 10 ≤ _
  rcases hc with rfl | rfl | rfl | rfl
  · have e : l.size = 0 := by
      unfold mayB at h
      simp at h
      rw [emp_is h.2]; rfl
    have := len4 (rdl1 n v l [])
    have e1 : mHiddenName.data.toList.length = 27 := rfl
    omega
  · have := len6 (rdl2 n v l [])
    have e1 : mLabelHead.data.toList.length = 10 := rfl
    omega
  · have e : v.size = 0 := by
      unfold mayB at h
      simp at h
      rw [emp_is h.2]; rfl
    have := len4 (rdl3 n v l [])
    have e1 : mLabelHead.data.toList.length = 10 := rfl
    omega
  · have := len7 (rdl4 n v l [])
    have e1 : mLabelHead.data.toList.length = 10 := rfl
    omega
theorem insW_least : ∀ xs : List Inp, xs.all mayB = true → insW xs ≤ 11 * (insL xs).length
  | [], _ => Nat.zero_le _
  | x :: r, h => by
    rw [List.all_cons, Bool.and_eq_true] at h
    have h1 := line_least x h.1
    have h2 := insW_least r h.2
    rw [insL_cons, List.length_append]
    show inW x + 100 + insW r ≤ _
    omega
theorem linesW_least : ∀ ls : List ByteArray, linesW ls ≤ 20 * (ls.flatMap lineT).length
  | [] => Nat.zero_le _
  | s :: r => by
    have h1 := len2 (lineT_app s [])
    have h2 := linesW_least r
    have h3 := esc_ge s
    have e1 : mLineHead.data.toList.length = 3 := rfl
    rw [List.flatMap_cons, List.length_append]
    show s.size + 20 + linesW r ≤ _
    omega
theorem frmsW_least : ∀ fs : List Frm, fs.all okF = true → frmsW fs ≤ 20 * (fs.flatMap frmL).length
  | [], _ => Nat.zero_le _
  | f :: r, h => by
    rw [List.all_cons, Bool.and_eq_true] at h
    have h1 := len6 (frmL_is f [])
    have h2 := frmsW_least r h.2
    have h3 := esc_ge f.act
    have h4 := esc_ge f.but
    have h5 := insW_least f.ins h.1
    have e1 : mFormHead.data.toList.length = 28 := rfl
    rw [List.flatMap_cons, List.length_append]
    show (f.act.size + insW f.ins + f.but.size + 100) + frmsW r ≤ _
    omega
theorem pageW_least (t : ByteArray) (ls : List ByteArray) (fs : List Frm) (h : fs.all okF = true) : pageW t ls fs ≤ 20 * (pageL t ls fs).length + 300 := by
  have h1 := len8 (pageL_is t ls fs)
  have h2 := linesW_least ls
  have h3 := frmsW_least fs h
  have h4 := esc_ge t
  unfold pageW
  omega
theorem page_lens (t : ByteArray) (ls : List ByteArray) (fs : List Frm) : ls.length ≤ (pageL t ls fs).length ∧ fs.length ≤ (pageL t ls fs).length ∧ ∀ f ∈ fs, f.ins.length ≤ (pageL t ls fs).length := by
  have h1 := len8 (pageL_is t ls fs)
  have h2 := lines_most ls
  have h3 := frms_most fs
  refine ⟨by omega, by omega, fun f hf => ?_⟩
  have h4 : (frmL f).length ≤ (fs.flatMap frmL).length := by
    obtain ⟨a, c, rfl⟩ := List.append_of_mem hf
    rw [List.flatMap_append, List.flatMap_cons, List.length_append, List.length_append]
    omega
  have h5 := len6 (frmL_is f [])
  have h6 := insL_most f.ins
  omega
theorem liesS_nil (w : World) : LiesS w (.slice none 0 0) [] := ⟨none, 0, rfl, fun _ hi => absurd hi (Nat.not_lt_zero _)⟩
theorem liesF_nil (w : World) : LiesF w (.slice none 0 0) [] := ⟨none, 0, rfl, fun _ hi => absurd hi (Nat.not_lt_zero _)⟩
/-- a text that is a page is read -/
theorem read_some (s : ByteArray) (w : World) (hs : s.size ≤ 1099511627776) (ea : Addr) (hE : Esc w) (hT : Txt w ea) {t : ByteArray} {ls : List ByteArray} {fs : List Frm} (h : pageRd s.data.toList = some (t, ls, fs)) :
    Calls Tryd.prog 8 #[.string s] w fun x w' => ∃ oa ca ob cb ss, x = .returned (.tuple #[.agg #[.string t, .slice oa ls.length ca, .slice ob fs.length cb], .nilIface]) ∧ w'.ownsRow w.heap.size 9 1 (.slice oa ls.length ca) ls.length (ls.map Value.string) ∧ OwnF w.heap.size w' (.slice ob fs.length cb) fs ss ∧ Aside ss ∧ Below w.heap.size w w' := by
  refine (read_any s w hs ea hE hT).mono ?_
  rintro x w' ⟨⟨t', ls', fs', vL, vF, ss, h1, rfl, h2, h3, h4⟩ | ⟨h1, _⟩, hb⟩
  · rw [h] at h1
    cases h1
    obtain ⟨oa, ca, rfl⟩ := form_w h2
    obtain ⟨ob, cb, rfl⟩ := form_w h3.row
    exact ⟨oa, ca, ob, cb, ss, rfl, h2, h3, h4, hb⟩
  · rw [h] at h1; cases h1
/-- all else is refused -/
theorem read_none (s : ByteArray) (w : World) (hs : s.size ≤ 1099511627776) (ea : Addr) (hE : Esc w) (hT : Txt w ea) (h : pageRd s.data.toList = none) :
    Calls Tryd.prog 8 #[.string s] w fun x w' => x = .returned (.tuple #[.agg #[.string ⟨#[]⟩, .slice none 0 0, .slice none 0 0], X ea]) ∧ Below w.heap.size w w' := by
  refine (read_any s w hs ea hE hT).mono ?_
  rintro x w' ⟨⟨t', ls', fs', vL, vF, ss, h1, _⟩ | ⟨_, h2⟩, hb⟩
  · rw [h] at h1; cases h1
  · exact ⟨h2, hb⟩

end Go.Proofs.YtaejlcffimkopaaDoor.pg
