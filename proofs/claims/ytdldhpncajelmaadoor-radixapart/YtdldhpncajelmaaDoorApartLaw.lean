import Derived.Test.YtdldhpncajelmaaDoorRadixEq
import Derived.Stop.LaidErr
namespace Go.Proofs.YtdldhpncajelmaaDoor.radw
open Go.ChangeShapes Go.WideShapes Go.ChangeAt Go.RowKit Go.Proofs.YtdldhpncajelmaaDoor.common

theorem cellsTwo : Tryd.prog.cellsOf 25 = 2 := by kernel_rfl

set_option maxHeartbeats 800000 in
theorem lawApart (a b : ByteArray) (w : World) (ha : a.size ≤ reachBytes) (hb : b.size ≤ reachBytes) (ht : Tabs w) :
    Calls Tryd.prog 4 #[.agg #[.string a, .string b]] w fun e w' => e = .returned (.bool true) ∧ Below w.heap.size w w' := by
  have HA := hide ha
  have HB := hide hb
  have HT : Hid (Tabs (w.alloc (.cells #[.string a, .string b] 25))) := ht.below ((Below.refl _ _).alloc (Nat.le_refl _) _) (Nat.le_refl _)
  have HW : Hid (Below w.heap.size w (w.alloc (.cells #[.string a, .string b] 25))) := (Below.refl _ _).alloc (Nat.le_refl _) _
  have a0 : (w.alloc (.cells #[.string a, .string b] 25)).cell? ⟨w.heap.size, 0, none⟩ = some (.string a) := by simp
  have b0 : (w.alloc (.cells #[.string a, .string b] 25)).cell? ⟨w.heap.size, 1, none⟩ = some (.string b) := by simp
  have A0 := hide a0
  have B0 := hide b0
  have hlt : w.heap.size < (w.alloc (.cells #[.string a, .string b] 25)).heap.size := by simp
  have HLT := hide hlt
  clear ha hb ht a0 b0 hlt
  go_enter Tryd.func4, Tryd.ntmps4
  go_wp2_with fail
  generalize w.alloc (.cells #[.string a, .string b] 25) = wx at *
  refine (url_any a wx HA.out HT.out.url).mono ?_
  rintro e w1 ⟨rfl, h1⟩
  have c1 : w1.cell? ⟨w.heap.size, 1, none⟩ = some (.string b) := by rw [← B0.out]; exact h1.cell HLT.out
  have K1 := hide h1
  clear h1
  go_wp2_with fail
  refine (url_any b w1 HB.out (HT.out.below K1.out (Nat.le_refl _)).url).mono ?_
  rintro e w2 ⟨rfl, h2⟩
  have K2 := hide (K1.out.trans (h2.mono K1.out.size))
  have c2 : w2.cell? ⟨w.heap.size, 0, none⟩ = some (.string a) := by rw [← A0.out]; exact K2.out.cell HLT.out
  clear h2 c1 K1
  go_wp2_with fail
  refine (std_any a w2 HA.out (HT.out.below K2.out (Nat.le_refl _)).std).mono ?_
  rintro e w3 ⟨rfl, h3⟩
  have K3 := hide (K2.out.trans (h3.mono K2.out.size))
  have c3 : w3.cell? ⟨w.heap.size, 1, none⟩ = some (.string b) := by rw [← B0.out]; exact K3.out.cell HLT.out
  clear h3 c2 K2
  go_wp2_with fail
  refine (std_any b w3 HB.out (HT.out.below K3.out (Nat.le_refl _)).std).mono ?_
  rintro e w4 ⟨rfl, h4⟩
  have K4 := hide (K3.out.trans (h4.mono K3.out.size))
  have c4 : w4.cell? ⟨w.heap.size, 0, none⟩ = some (.string a) := by rw [← A0.out]; exact K4.out.cell HLT.out
  clear h4 c3 K3
  go_wp2_with fail
  refine (hex_any a w4 HA.out (HT.out.below K4.out (Nat.le_refl _)).hex).mono ?_
  rintro e w5 ⟨rfl, h5⟩
  have K5 := hide (K4.out.trans (h5.mono K4.out.size))
  have c5 : w5.cell? ⟨w.heap.size, 1, none⟩ = some (.string b) := by rw [← B0.out]; exact K5.out.cell HLT.out
  clear h5 c4 K4
  go_wp2_with fail
  refine (hex_any b w5 HB.out (HT.out.below K5.out (Nat.le_refl _)).hex).mono ?_
  rintro e w6 ⟨rfl, h6⟩
  have K6 := hide (K5.out.trans (h6.mono K5.out.size))
  have KW := hide (HW.out.trans (K6.out.mono (Nat.le_of_lt HLT.out)))
  clear h6 c5 K5 K6
  by_cases h : a = b
  · subst h
    go_wp2_with fail
    go_ret
    exact ⟨by simp, KW.out⟩
  · have n1 := ne_list (a := (⟨(Rad.b64 Rad.urlT a.data.toList).toArray⟩ : ByteArray)) (b := ⟨(Rad.b64 Rad.urlT b.data.toList).toArray⟩) fun e => h (ba_ext (Rad.b64_inj Rad.urlGood (to_ba e)))
    have n2 := ne_list (a := (⟨(Rad.std a.data.toList).toArray⟩ : ByteArray)) (b := ⟨(Rad.std b.data.toList).toArray⟩) fun e => h (ba_ext (Rad.std_inj (to_ba e)))
    have n3 := ne_list (a := (⟨(Rad.hex a.data.toList).toArray⟩ : ByteArray)) (b := ⟨(Rad.hex b.data.toList).toArray⟩) fun e => h (ba_ext (Rad.hex_inj (to_ba e)))
    generalize (⟨(Rad.b64 Rad.urlT a.data.toList).toArray⟩ : ByteArray) = X1 at *
    generalize (⟨(Rad.b64 Rad.urlT b.data.toList).toArray⟩ : ByteArray) = Y1 at *
    generalize (⟨(Rad.std a.data.toList).toArray⟩ : ByteArray) = X2 at *
    generalize (⟨(Rad.std b.data.toList).toArray⟩ : ByteArray) = Y2 at *
    generalize (⟨(Rad.hex a.data.toList).toArray⟩ : ByteArray) = X3 at *
    generalize (⟨(Rad.hex b.data.toList).toArray⟩ : ByteArray) = Y3 at *
    have n0 := ne_list h
    go_wp2_with fail
    go_ret
    exact ⟨by simp, KW.out⟩

end Go.Proofs.YtdldhpncajelmaaDoor.radw
