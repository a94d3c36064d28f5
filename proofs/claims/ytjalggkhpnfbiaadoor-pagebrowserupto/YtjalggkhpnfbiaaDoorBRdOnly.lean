import Derived.Test.YtjalggkhpnfbiaaDoorBRdRead
import Derived.Test.YtjalggkhpnfbiaaDoorBErrWalks
namespace Go.Proofs.YtjalggkhpnfbiaaDoor.pg
open Go.ChangeShapes Go.WideShapes Go.ChangeAt Go.RowKit Go.Proofs.YtjalggkhpnfbiaaDoor.common Go.Maps
attribute [local go_sem ↓] Go.wp_at_zero Go.wp_at_succ

theorem pageL_most' (t : ByteArray) (ls : List ByteArray) (fs : List Frm) : (pageL t ls fs).length ≤ 6 * pageW t ls fs := by
  have h1 := partsA_len (headP t) true
  have h2 := headP_wt t
  have h3 := lines_len ls
  have h4 := frms_len fs
  have e : mPageEnd.data.toList.length = 16 := rfl
  unfold pageL pageW
  rw [List.length_append, List.length_append, List.length_append, e]
  omega
/-- a text that is a page is read -/
theorem read_some (s : ByteArray) (w : World) (hs : s.size ≤ 1099511627776) (ea : Addr) (hE : Esc w) (hT : Txt w ea) {t : ByteArray} {ls : List ByteArray} {fs : List Frm} (h : pageRd s.data.toList = some (t, ls, fs)) :
    Calls Tryd.prog 7 #[.string s] w fun x w' => ∃ oa ca ob cb ss, x = .returned (.tuple #[.agg #[.string t, .slice oa ls.length ca, .slice ob fs.length cb], .nilIface]) ∧ w'.ownsRow w.heap.size 9 1 (.slice oa ls.length ca) ls.length (ls.map Value.string) ∧ OwnF w.heap.size w' (.slice ob fs.length cb) fs ss ∧ Aside ss ∧ Below w.heap.size w w' := by
  refine (read_any s w hs ea hE hT).mono ?_
  rintro x w' ⟨⟨t', ls', fs', vL, vF, ss, h1, rfl, h2, h3, h4⟩ | ⟨h1, _⟩, hb⟩
  · rw [h] at h1
    cases h1
    obtain ⟨oa, ca, rfl⟩ := form_w h2
    obtain ⟨ob, cb, rfl⟩ := form_w h3.row
    exact ⟨oa, ca, ob, cb, ss, rfl, h2, h3, h4, hb⟩
  · rw [h] at h1; cases h1
end Go.Proofs.YtjalggkhpnfbiaaDoor.pg
