import Derived.Test.YtdldhpncajelmaaDoorRadixEq
import Derived.Stop.LaidErr
namespace Go.Proofs.YtdldhpncajelmaaDoor.radw
open Go.ChangeShapes Go.WideShapes Go.ChangeAt Go.RowKit Go.Proofs.YtdldhpncajelmaaDoor.common

theorem cellsTwo : Tryd.prog.cellsOf 25 = 2 := by kernel_rfl

theorem head_any (s : ByteArray) (m : Nat) (w : World) (hm : m ≤ s.size) :
    Calls Tryd.prog 15 #[.string s, .int .i64 (m : Int)] w fun e w' => (∃ t : ByteArray, e = .returned (.string t) ∧ t.data.toList = s.data.toList.take m) ∧ w' = w := by
  by_cases h0 : m = 0
  · subst h0
    go_enter Tryd.func15, Tryd.ntmps15
    go_wp2
    go_ret
    exact ⟨⟨_, rfl, by simp⟩, rfl⟩
  · have h1 : ¬ (m : Int) < 1 := by omega
    by_cases h2 : s.size ≤ m
    · have h3 : (s.size : Int) ≤ (m : Int) := by omega
      go_enter Tryd.func15, Tryd.ntmps15
      go_wp2
      go_ret
      exact ⟨⟨_, rfl, by rw [List.take_of_length_le (by rw [len_list]; exact h2)]⟩, rfl⟩
    · have h3 : ¬ (s.size : Int) ≤ (m : Int) := by omega
      have h4 : (m : Int) ≤ (s.size : Int) := by omega
      go_enter Tryd.func15, Tryd.ntmps15
      go_wp2
      go_ret
      exact ⟨⟨_, rfl, by simp⟩, rfl⟩

theorem app_list (a b : ByteArray) : (a ++ b).data.toList = a.data.toList ++ b.data.toList := by simp

theorem app_str {a b c : List UInt8} (h : a = b ++ c) : (⟨a.toArray⟩ : ByteArray) = ⟨b.toArray⟩ ++ ⟨c.toArray⟩ := by
  subst h; apply ByteArray.ext; simp

theorem str_size (l : List UInt8) : (⟨l.toArray⟩ : ByteArray).size = l.length := by
  show l.toArray.size = _; simp

set_option maxHeartbeats 1600000 in
theorem lawJoin (a b : ByteArray) (w : World) (hab : a.size + b.size ≤ 1048576) (ht : Tabs w) :
    Calls Tryd.prog 7 #[.agg #[.string a, .string b]] w fun e w' => e = .returned (.bool true) ∧ Below w.heap.size w w' := by
  have hm : (a.size : Int) / 3 * 3 = ((a.size / 3 * 3 : Nat) : Int) := by omega
  have hm1 : a.size / 3 * 3 ≤ a.size := by omega
  have hm3 : a.size / 3 * 3 % 3 = 0 := by omega
  have HT : Hid (Tabs (w.alloc (.cells #[.string a, .string b] 25))) := ht.below ((Below.refl _ _).alloc (Nat.le_refl _) _) (Nat.le_refl _)
  have HW : Hid (Below w.heap.size w (w.alloc (.cells #[.string a, .string b] 25))) := (Below.refl _ _).alloc (Nat.le_refl _) _
  have a0 : (w.alloc (.cells #[.string a, .string b] 25)).cell? ⟨w.heap.size, 0, none⟩ = some (.string a) := by simp
  have b0 : (w.alloc (.cells #[.string a, .string b] 25)).cell? ⟨w.heap.size, 1, none⟩ = some (.string b) := by simp
  have hlt : w.heap.size < (w.alloc (.cells #[.string a, .string b] 25)).heap.size := by simp
  have HLT := hide hlt
  clear ht hlt
  generalize a.size / 3 * 3 = m at *
  go_enter Tryd.func7, Tryd.ntmps7
  go_wp2_with fail
  generalize w.alloc (.cells #[.string a, .string b] 25) = wx at *
  refine (head_any a m wx hm1).mono ?_
  rintro e w0 ⟨⟨p, rfl, hp⟩, rfl⟩
  have hps : p.size = m := by rw [← len_list, hp, List.length_take, len_list]; omega
  have HP := hide hp
  have HP3 : Hid (p.data.toList.length % 3 = 0) := by show _ = _; rw [len_list, hps]; exact hm3
  clear hm hm3 hp
  have A0 := hide a0
  have B0 := hide b0
  have D0 : Hid (∀ l : ByteArray, l.size ≤ 1048576 → l.size ≤ reachBytes) := fun l h => by unfold reachBytes; omega
  have hpq : (p ++ b).size ≤ 1048576 := by rw [ByteArray.size_append]; omega
  have haq : (a ++ b).size ≤ 1048576 := by rw [ByteArray.size_append]; omega
  have HPQ := hide hpq
  have HAQ := hide haq
  clear hpq haq
  go_wp2_with fail
  refine (url_any (p ++ b) w0 (D0.out _ HPQ.out) HT.out.url).mono ?_
  rintro e w1 ⟨rfl, h1⟩
  have K1 := hide h1
  clear h1 a0 b0
  go_wp2_with fail
  refine (url_any p w1 (D0.out _ (by omega)) (HT.out.below K1.out (Nat.le_refl _)).url).mono ?_
  rintro e w2 ⟨rfl, h2⟩
  have K2 := hide (K1.out.trans (h2.mono K1.out.size))
  have c2 : w2.cell? ⟨w.heap.size, 1, none⟩ = some (.string b) := by rw [← B0.out]; exact K2.out.cell HLT.out
  clear h2 K1
  go_wp2_with fail
  refine (url_any b w2 (D0.out _ (by omega)) (HT.out.below K2.out (Nat.le_refl _)).url).mono ?_
  rintro e w3 ⟨rfl, h3⟩
  have K3 := hide (K2.out.trans (h3.mono K2.out.size))
  have c3 : w3.cell? ⟨w.heap.size, 1, none⟩ = some (.string b) := by rw [← B0.out]; exact K3.out.cell HLT.out
  clear h3 c2 K2
  go_wp2_with fail
  refine (std_any (p ++ b) w3 (D0.out _ HPQ.out) (HT.out.below K3.out (Nat.le_refl _)).std).mono ?_
  rintro e w4 ⟨rfl, h4⟩
  have K4 := hide (K3.out.trans (h4.mono K3.out.size))
  clear h4 c3 K3
  go_wp2_with fail
  refine (std_any p w4 (D0.out _ (by omega)) (HT.out.below K4.out (Nat.le_refl _)).std).mono ?_
  rintro e w5 ⟨rfl, h5⟩
  have K5 := hide (K4.out.trans (h5.mono K4.out.size))
  have c5 : w5.cell? ⟨w.heap.size, 1, none⟩ = some (.string b) := by rw [← B0.out]; exact K5.out.cell HLT.out
  clear h5 K4
  go_wp2_with fail
  refine (std_any b w5 (D0.out _ (by omega)) (HT.out.below K5.out (Nat.le_refl _)).std).mono ?_
  rintro e w6 ⟨rfl, h6⟩
  have K6 := hide (K5.out.trans (h6.mono K5.out.size))
  have c6 : w6.cell? ⟨w.heap.size, 1, none⟩ = some (.string b) := by rw [← B0.out]; exact K6.out.cell HLT.out
  have d6 : w6.cell? ⟨w.heap.size, 0, none⟩ = some (.string a) := by rw [← A0.out]; exact K6.out.cell HLT.out
  clear h6 c5 K5
  go_wp2_with fail
  refine (hex_any (a ++ b) w6 (D0.out _ HAQ.out) (HT.out.below K6.out (Nat.le_refl _)).hex).mono ?_
  rintro e w7 ⟨rfl, h7⟩
  have K7 := hide (K6.out.trans (h7.mono K6.out.size))
  have d7 : w7.cell? ⟨w.heap.size, 0, none⟩ = some (.string a) := by rw [← A0.out]; exact K7.out.cell HLT.out
  clear h7 c6 d6 K6
  go_wp2_with fail
  refine (hex_any a w7 (D0.out _ (by omega)) (HT.out.below K7.out (Nat.le_refl _)).hex).mono ?_
  rintro e w8 ⟨rfl, h8⟩
  have K8 := hide (K7.out.trans (h8.mono K7.out.size))
  have c8 : w8.cell? ⟨w.heap.size, 1, none⟩ = some (.string b) := by rw [← B0.out]; exact K8.out.cell HLT.out
  clear h8 d7 K7
  go_wp2_with fail
  refine (hex_any b w8 (D0.out _ (by omega)) (HT.out.below K8.out (Nat.le_refl _)).hex).mono ?_
  rintro e w9 ⟨rfl, h9⟩
  have K9 := hide (K8.out.trans (h9.mono K8.out.size))
  have c9 : w9.cell? ⟨w.heap.size, 1, none⟩ = some (.string b) := by rw [← B0.out]; exact K9.out.cell HLT.out
  have KW := hide (HW.out.trans (K9.out.mono (Nat.le_of_lt HLT.out)))
  clear h9 c8 K8 K9
  have e1 := eq_list (app_str (Rad.b64_join Rad.urlT p.data.toList b.data.toList HP3.out))
  have e2 := eq_list (app_str (Rad.std_join p.data.toList b.data.toList HP3.out))
  have e3 := eq_list (app_str (Rad.hex_join a.data.toList b.data.toList))
  have z1 : (⟨(Rad.b64 Rad.urlT (p.data.toList ++ b.data.toList)).toArray⟩ : ByteArray).size = Rad.n6 (p ++ b).size := by rw [← app_list, str_size, Rad.b64_len, len_list]
  have z3 : (⟨(Rad.hex (a.data.toList ++ b.data.toList)).toArray⟩ : ByteArray).size = 2 * (a ++ b).size := by rw [← app_list, str_size, Rad.hex_len, len_list]
  have y1 : (⟨(Rad.b64 Rad.urlT p.data.toList).toArray⟩ : ByteArray).size ≤ 1500000 := by rw [str_size, Rad.b64_len, len_list]; unfold Rad.n6; omega
  have y2 : (⟨(Rad.b64 Rad.urlT b.data.toList).toArray⟩ : ByteArray).size ≤ 1500000 := by rw [str_size, Rad.b64_len, len_list]; unfold Rad.n6; omega
  have y3 : (⟨(Rad.std p.data.toList).toArray⟩ : ByteArray).size ≤ 1500000 := by rw [str_size, Rad.std_len, len_list]; omega
  have y4 : (⟨(Rad.std b.data.toList).toArray⟩ : ByteArray).size ≤ 1500000 := by rw [str_size, Rad.std_len, len_list]; omega
  have y5 : (⟨(Rad.hex a.data.toList).toArray⟩ : ByteArray).size ≤ 2500000 := by rw [str_size, Rad.hex_len, len_list]; omega
  have y6 : (⟨(Rad.hex b.data.toList).toArray⟩ : ByteArray).size ≤ 2500000 := by rw [str_size, Rad.hex_len, len_list]; omega
  have l1 : ¬ (((⟨(Rad.b64 Rad.urlT (p.data.toList ++ b.data.toList)).toArray⟩ : ByteArray).size : Int) < (b.size : Int)) := by rw [z1, ByteArray.size_append]; unfold Rad.n6; omega
  have l3 : ¬ (((⟨(Rad.hex (a.data.toList ++ b.data.toList)).toArray⟩ : ByteArray).size : Int) < (b.size : Int)) := by rw [z3, ByteArray.size_append]; omega
  clear z1 z3
  generalize (⟨(Rad.b64 Rad.urlT (p.data.toList ++ b.data.toList)).toArray⟩ : ByteArray) = X1 at *
  generalize (⟨(Rad.std (p.data.toList ++ b.data.toList)).toArray⟩ : ByteArray) = X2 at *
  generalize (⟨(Rad.hex (a.data.toList ++ b.data.toList)).toArray⟩ : ByteArray) = X3 at *
  generalize (⟨(Rad.b64 Rad.urlT p.data.toList).toArray⟩ : ByteArray) = Y1 at *
  generalize (⟨(Rad.b64 Rad.urlT b.data.toList).toArray⟩ : ByteArray) = Y2 at *
  generalize (⟨(Rad.std p.data.toList).toArray⟩ : ByteArray) = Y3 at *
  generalize (⟨(Rad.std b.data.toList).toArray⟩ : ByteArray) = Y4 at *
  generalize (⟨(Rad.hex a.data.toList).toArray⟩ : ByteArray) = Y5 at *
  generalize (⟨(Rad.hex b.data.toList).toArray⟩ : ByteArray) = Y6 at *
  clear hps hm1
  go_wp2_with fail
  go_ret
  exact ⟨rfl, KW.out⟩

end Go.Proofs.YtdldhpncajelmaaDoor.radw
