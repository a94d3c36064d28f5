import Derived.Test.YthpickmiohakbaaDoorRefMac
namespace Go.Proofs.YthpickmiohakbaaDoor.refw
open Go.ChangeShapes Go.WideShapes Go.ChangeAt Go.RowKit Go.Proofs.YthpickmiohakbaaDoor.common Go.Proofs.YthpickmiohakbaaDoor.shaw
attribute [local go_sem ↓] Go.wp_at_zero Go.wp_at_succ

set_option maxRecDepth 100000 in
set_option maxHeartbeats 1600000 in
theorem lawMac (a b : ByteArray) (w : World) (ha : a.size ≤ reachBytes) (hb : b.size ≤ reachBytes) (ht : Tabs w) :
    Calls Tryd.prog 7 #[.agg #[.string a, .string b]] w fun e w' => e = .returned (.bool true) ∧ Below w.heap.size w w' := by
  have HA : Hid (a.size ≤ 281474976710656) := by show _ ≤ _; unfold reachBytes at ha; omega
  have HB : Hid (b.size ≤ 281474976710656) := by show _ ≤ _; unfold reachBytes at hb; omega
  have HW : Hid (Below w.heap.size w (w.alloc (.cells #[.string a, .string b] 23))) := (Below.refl _ _).alloc (Nat.le_refl _) _
  have HT := hide ht
  have a1 : (w.alloc (.cells #[.string a, .string b] 23)).cell? ⟨w.heap.size, 0, none⟩ = some (.string a) := by simp
  have b1 : (w.alloc (.cells #[.string a, .string b] 23)).cell? ⟨w.heap.size, 1, none⟩ = some (.string b) := by simp
  have HL1 : Hid (w.heap.size < (w.alloc (.cells #[.string a, .string b] 23)).heap.size) := by show _ < _; simp
  clear ht ha hb
  go_enter Tryd.func7, Tryd.ntmps7
  go_wp2_with fail
  generalize w.alloc (.cells #[.string a, .string b] 23) = wx at *
  go_region_held3 (fun W => W.cell? ⟨w.heap.size, 0, none⟩ = some (.string a) ∧ W.cell? ⟨w.heap.size, 1, none⟩ = some (.string b))
    (first
      | go_keep
      | exact ⟨(hb3.cell (Nat.lt_of_lt_of_le HL1.out hb2.size)).trans ((hb2.cell HL1.out).trans a1), (hb3.cell (Nat.lt_of_lt_of_le HL1.out hb2.size)).trans ((hb2.cell HL1.out).trans b1)⟩
      | exact ⟨(hb2.cell HL1.out).trans a1, (hb2.cell HL1.out).trans b1⟩)
    (first
      | (go_at_call 9; refine (mac_any a b _ HA.out HB.out (HT.out.below HW.out.drew).rw (HT.out.below HW.out.drew).fw).mono ?_; rintro e w2 ⟨rfl, hb2⟩)
      | (go_at_call 19; refine (refMac_any a b _ HA.out HB.out (HT.out.below (HW.out.drew.trans (hb2.mono HW.out.size)))).mono ?_; rintro e w3 ⟨rfl, hb3⟩))
  have KW : Hid (Below w.heap.size w w3) := (HW.out.drew.trans (hb2.mono HW.out.size)).trans (hb3.mono (Nat.le_trans HW.out.size hb2.size))
  clear hb2 hb3 a1 b1
  go_wp2
  go_ret
  exact ⟨by simp, KW.out⟩

end Go.Proofs.YthpickmiohakbaaDoor.refw
