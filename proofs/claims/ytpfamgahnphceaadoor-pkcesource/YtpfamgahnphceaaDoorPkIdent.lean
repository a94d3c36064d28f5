import Derived.Test.YtpfamgahnphceaaDoorPkTake
namespace Go.Proofs.YtpfamgahnphceaaDoor.pk
open Go.ChangeShapes Go.WideShapes Go.ChangeAt Go.RowKit Go.Proofs.YtpfamgahnphceaaDoor.common
open Go.Proofs.YtpfamgahnphceaaDoor.radw (B Lay)

/-- the identifier of a draw -/
def idn (d : List UInt8) : ByteArray := ⟨(Rad.b64 Rad.urlT d).toArray⟩

set_option maxRecDepth 100000 in
set_option maxHeartbeats 1600000 in
theorem identifier_any (d : List UInt8) (w : World) (hd : d.length = 32) (hu : radw.UrlTab w) :
    Calls Tryd.prog 22 #[.agg (d.map B).toArray] w fun e w' => e = .returned (.string (idn d)) ∧ Below w.heap.size w w' := by
  have hb : Below w.heap.size w (w.alloc (.cells (d.map B).toArray 55)) := (Below.refl _ _).alloc (Nat.le_refl _) _
  have hL : Lay (w.alloc (.cells (d.map B).toArray 55)) w.heap.size d := ⟨there_new_at w _ _ _ _ rfl (by simp), range_new_at w _ _ _ _ rfl rfl⟩
  have hc := hL.conv (cap := 32) hd
  have hU : Calls Tryd.prog 26 #[.string ⟨d.toArray⟩] (w.alloc (.cells (d.map B).toArray 55)) fun e w' => e = .returned (.string (idn d)) ∧ Below (w.alloc (.cells (d.map B).toArray 55)).heap.size (w.alloc (.cells (d.map B).toArray 55)) w' :=
    radw.url_any ⟨d.toArray⟩ _ (by show d.toArray.size ≤ _; rw [List.size_toArray, hd]; decide) (hu.below hb (hu.lt (by decide)))
  have HU := hide hU
  have HB := hide hb
  clear hU hb hL hu hd
  generalize (⟨d.toArray⟩ : ByteArray) = S at *
  generalize idn d = I at *
  generalize (d.map B).toArray = C at *
  go_enter Tryd.func22, Tryd.ntmps22
  go_wp2_with fail
  refine HU.out.mono ?_
  rintro x w1 ⟨rfl, h1⟩
  have B1 := hide (HB.out.trans (h1.mono HB.out.size))
  clear h1
  go_wp2
  go_ret
  exact ⟨rfl, B1.out⟩

theorem newSource_any (w : World) :
    Calls Tryd.prog 5 #[] w fun e w' => e = .returned (ptr w.heap.size) ∧ w' = w.alloc (.cells #[.slice none 0 0] 53) := by
  go_enter Tryd.func5, Tryd.ntmps5
  go_wp2
  go_ret
  exact ⟨rfl, rfl⟩

end Go.Proofs.YtpfamgahnphceaaDoor.pk
