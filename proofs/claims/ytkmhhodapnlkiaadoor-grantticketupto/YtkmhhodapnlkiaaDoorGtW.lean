import Derived.Test.YtkmhhodapnlkiaaDoorFormWalks
import Derived.Test.YtkmhhodapnlkiaaDoorRefForm
import Derived.Test.YtkmhhodapnlkiaaDoorRefMac
import Derived.Test.YtkmhhodapnlkiaaDoorUrlWalks
namespace Go.Proofs.YtkmhhodapnlkiaaDoor.gt
open Go.ChangeShapes Go.WideShapes Go.ChangeAt Go.RowKit Go.Proofs.YtkmhhodapnlkiaaDoor.common
open Go.Proofs.YtkmhhodapnlkiaaDoor.lst (PB Lies)
open Go.Proofs.YtkmhhodapnlkiaaDoor.pctw (tot pr)

/-- the form, its Mac, the ticket -/
def fm (l : List PB) : ByteArray := ⟨(Pct.form (l.map pr)).toArray⟩
def mc (s : ByteArray) (l : List PB) : ByteArray := ⟨(shaw.macOf s.data.toList (fm l).data.toList).toArray⟩
def tk (s : ByteArray) (l : List PB) : ByteArray := ⟨(Rad.b64 Rad.urlT (mc s l).data.toList).toArray⟩
theorem ba_size (l : List UInt8) : (⟨l.toArray⟩ : ByteArray).size = l.length := by show l.toArray.size = _; simp
theorem mc_size (s : ByteArray) (l : List PB) : (mc s l).size = 32 := by unfold mc; rw [ba_size, shaw.macOf_len]
theorem fm_size (l : List PB) : (fm l).size ≤ 3 * tot l := by unfold fm; rw [ba_size]; exact pctw.form_len l

/-- what lies in the variables -/
structure Env (w : World) : Prop where
  tabs : refw.Tabs w
  url : radw.UrlTab w
  pct : pctw.Tab w
theorem Env.below {w w' : World} (h : Env w) (hb : Below w.heap.size w w') : Env w' := ⟨h.tabs.below hb, h.url.below hb (h.url.lt (by decide)), h.pct.below hb (Nat.le_refl _)⟩

theorem ticket_any (s : ByteArray) (v : Value) (l : List PB) (w : World) (hl : Lies w v l) (he : Env w) (hs : s.size ≤ 281474976710656) (ht : 4 * tot l ≤ 140737488355328) (hn : l.length ≤ 4611686018427387904) :
    Calls Tryd.prog 5 #[.string s, v] w fun e w' => e = .returned (.string (tk s l)) ∧ Below w.heap.size w w' := by
  have H1 : Hid (Calls Tryd.prog 10 #[v] w fun e w' => e = .returned (.string (fm l)) ∧ Below w.heap.size w w') := pctw.form_any v l w hl he.pct ht hn
  have H2 : Hid (∀ W, Below w.heap.size w W → Calls Tryd.prog 9 #[.string s, .string (fm l)] W fun e w' => e = .returned (.string (mc s l)) ∧ Below W.heap.size W w') := fun W hW =>
    shaw.mac_any s (fm l) W hs (by have := fm_size l; omega) (he.below hW).tabs.rw (he.below hW).tabs.fw
  have H3 : Hid (∀ W, Below w.heap.size w W → Calls Tryd.prog 8 #[.string (mc s l)] W fun e w' => e = .returned (.string (tk s l)) ∧ Below W.heap.size W w') := fun W hW =>
    radw.url_any (mc s l) W (by rw [mc_size]; decide) (he.below hW).url
  obtain ⟨ov, cv, rfl, _⟩ := hl
  clear he hs ht
  generalize fm l = F at *
  generalize mc s l = M at *
  generalize tk s l = T at *
  go_enter Tryd.func5, Tryd.ntmps5
  go_wp2_with fail
  refine H1.out.mono ?_
  rintro x w1 ⟨rfl, h1⟩
  have B1 := hide h1
  clear h1
  go_wp2_with fail
  refine (H2.out _ B1.out).mono ?_
  rintro x w2 ⟨rfl, h2⟩
  have B2 := hide (B1.out.trans (h2.mono B1.out.size))
  clear h2
  go_wp2_with fail
  refine (H3.out _ B2.out).mono ?_
  rintro x w3 ⟨rfl, h3⟩
  have B3 := hide (B2.out.trans (h3.mono B2.out.size))
  clear h3
  go_wp2
  go_ret
  exact ⟨rfl, B3.out⟩

theorem refTicket_any (s : ByteArray) (v : Value) (l : List PB) (w : World) (hl : Lies w v l) (he : Env w) (hs : s.size ≤ 281474976710656) (ht : 4 * tot l ≤ 140737488355328) (hn : l.length ≤ 4611686018427387904) :
    Calls Tryd.prog 7 #[.string s, v] w fun e w' => e = .returned (.string (tk s l)) ∧ Below w.heap.size w w' := by
  have H1 : Hid (Calls Tryd.prog 11 #[v] w fun e w' => e = .returned (.string (fm l)) ∧ Below w.heap.size w w') := pctw.refForm_any v l w hl ht hn
  have H2 : Hid (∀ W, Below w.heap.size w W → Calls Tryd.prog 12 #[.string s, .string (fm l)] W fun e w' => e = .returned (.string (mc s l)) ∧ Below W.heap.size W w') := fun W hW =>
    refw.refMac_any s (fm l) W hs (by have := fm_size l; omega) (he.below hW).tabs
  have H3 : Hid (∀ W, Below w.heap.size w W → Calls Tryd.prog 13 #[.string (mc s l)] W fun e w' => e = .returned (.string (tk s l)) ∧ Below W.heap.size W w') := fun W _ =>
    radw.refUrl_any (mc s l) W (by rw [mc_size]; decide)
  obtain ⟨ov, cv, rfl, _⟩ := hl
  clear he hs ht
  generalize fm l = F at *
  generalize mc s l = M at *
  generalize tk s l = T at *
  go_enter Tryd.func7, Tryd.ntmps7
  go_wp2_with fail
  refine H1.out.mono ?_
  rintro x w1 ⟨rfl, h1⟩
  have B1 := hide h1
  clear h1
  go_wp2_with fail
  refine (H2.out _ B1.out).mono ?_
  rintro x w2 ⟨rfl, h2⟩
  have B2 := hide (B1.out.trans (h2.mono B1.out.size))
  clear h2
  go_wp2_with fail
  refine (H3.out _ B2.out).mono ?_
  rintro x w3 ⟨rfl, h3⟩
  have B3 := hide (B2.out.trans (h3.mono B2.out.size))
  clear h3
  go_wp2
  go_ret
  exact ⟨rfl, B3.out⟩
end Go.Proofs.YtkmhhodapnlkiaaDoor.gt
