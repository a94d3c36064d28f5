import Derived.Test.YtcpflfpgnbihiaaGreatDoorMFormMath
import Derived.Lib.Bytealg
import Derived.Laws.Externs
namespace Go.Proofs.YtcpflfpgnbihiaaGreatDoor.pctw
open Go.ChangeShapes Go.WideShapes Go.ChangeAt Go.RowKit Go.Proofs.YtcpflfpgnbihiaaGreatDoor.common
attribute [local go_sem ↓] Go.wp_at_zero Go.wp_at_succ

theorem wrap_le (x : Int) (h0 : 0 ≤ x) (h1 : x ≤ 9223372036854775807) : IntKind.i64.wrap x = x := by
  have hm : x % 18446744073709551616 = x := by omega
  unfold IntKind.wrap
  simp only [IntKind.bits, IntKind.signed, Int.reducePow, Nat.reduceSub, hm]
  rw [if_neg (by simp; omega)]

theorem ext_take (s : ByteArray) (i : Nat) : s.extract 0 i = ⟨(s.data.toList.take i).toArray⟩ := by
  apply ba_ext; simp
theorem ext_drop (s : ByteArray) (i : Nat) : s.extract i s.size = ⟨(s.data.toList.drop i).toArray⟩ := by
  apply ba_ext
  have h : s.data.toList.length = s.size := by simp
  simp
  exact List.take_of_length_le (by rw [List.length_drop, h]; exact Nat.le_refl _)

/-- where a byte first stands -/
theorem index_cases (c : UInt8) (l : List UInt8) : (Lib.indexByte l c = -1 ∧ ∀ x ∈ l, x ≠ c) ∨ ∃ i : Nat, Lib.indexByte l c = (i : Int) ∧ i < l.length ∧ l = l.take i ++ c :: l.drop (i + 1) ∧ ∀ x ∈ l.take i, x ≠ c := by
  induction l with
  | nil => exact Or.inl ⟨rfl, fun x h => by cases h⟩
  | cons b r ih =>
    by_cases hb : b = c
    · subst hb
      exact Or.inr ⟨0, by simp [Lib.indexByte], by simp, by simp, fun x h => by simp at h⟩
    · have e : Lib.indexByte (b :: r) c = if Lib.indexByte r c == -1 then -1 else Lib.indexByte r c + 1 := by
        rw [Lib.indexByte, if_neg (by simpa using hb)]
      rcases ih with ⟨h1, h2⟩ | ⟨i, h1, h2, h3, h4⟩
      · refine Or.inl ⟨by rw [e, h1]; rfl, fun x hx => ?_⟩
        rcases List.mem_cons.1 hx with rfl | hx
        · exact hb
        · exact h2 x hx
      · refine Or.inr ⟨i + 1, ?_, by simpa using h2, ?_, ?_⟩
        · rw [e, h1, if_neg (by simp)]; rfl
        · show b :: r = b :: (r.take i ++ c :: r.drop (i + 1))
          rw [← h3]
        · intro x hx
          rw [List.take_succ_cons] at hx
          rcases List.mem_cons.1 hx with rfl | hx
          · exact hb
          · exact h4 x hx

set_option maxRecDepth 100000 in
theorem indexByte_any (s : ByteArray) (c : UInt8) (w : World) :
    Calls Tryz.prog 71 #[.string s, B c] w fun e w' => e = .returned (.int .i64 (Lib.indexByte s.data.toList c)) ∧ w' = w := by
  go_enter Tryz.func71, Tryz.ntmps71
  go_wp2_with fail
  rw [run_callFunc_extern Tryz.func93 (by kernel_rfl) (by kernel_rfl) (by kernel_rfl) (e := Extern.BytealgIndexByte.indexByte) (by kernel_rfl), Lib.run_indexByteString]
  have e : ((c.toNat : Int)).toNat.toUInt8 = c := by simp
  rw [e]
  simp only [Result.andThen]
  rw [Oper.upon_value]
  go_wp2
  go_ret
  exact ⟨rfl, rfl⟩

set_option maxRecDepth 100000 in
set_option maxHeartbeats 800000 in
theorem indexLite_any (s : ByteArray) (c : UInt8) (w : World) :
    Calls Tryz.prog 75 #[.string s, .string ⟨#[c]⟩] w fun e w' => e = .returned (.int .i64 (Lib.indexByte s.data.toList c)) ∧ w' = w := by
  by_cases hc : s = ⟨#[c]⟩
  · have H0 : Hid (Lib.indexByte s.data.toList c = 0) := by show _ = _; rw [hc]; simp [Lib.indexByte]
    have he : (([c] : List UInt8) == s.toList) = true := by rw [hc, ByteArray.toList_eq]; simp
    clear hc
    go_enter Tryz.func75, Tryz.ntmps75
    go_wp2_with fail
    go_ret
    exact ⟨by rw [H0.out]; rfl, rfl⟩
  · have he : (([c] : List UInt8) == s.toList) = false := beq_false_of_ne (fun e => hc (ba_ext (by rw [ByteArray.toList_eq] at e; rw [← e])))
    clear hc
    go_enter Tryz.func75, Tryz.ntmps75
    go_wp2_with (go_at_call 71; refine (indexByte_any s c _).mono ?_; rintro e w' ⟨rfl, rfl⟩)
    go_ret
    exact ⟨rfl, rfl⟩

set_option maxRecDepth 100000 in
theorem index_any (s : ByteArray) (c : UInt8) (w : World) :
    Calls Tryz.prog 100 #[.string s, .string ⟨#[c]⟩] w fun e w' => e = .returned (.int .i64 (Lib.indexByte s.data.toList c)) ∧ w' = w := by
  go_enter Tryz.func100, Tryz.ntmps100
  go_wp2_with (go_at_call 75; refine (indexLite_any s c _).mono ?_; rintro e w' ⟨rfl, rfl⟩)
  go_ret
  exact ⟨rfl, rfl⟩

set_option maxRecDepth 100000 in
set_option maxHeartbeats 800000 in
theorem cutLite_any (s : ByteArray) (w : World) (hs : s.size ≤ reachBytes) :
    Calls Tryz.prog 59 #[.string s, .string ⟨#[61]⟩] w fun e w' => (∃ f, e = .returned (.tuple #[S (Pct.name s.data.toList), S (Pct.value s.data.toList), .bool f])) ∧ Below w.heap.size w w' := by
  unfold reachBytes at hs
  rcases index_cases 61 s.data.toList with ⟨h1, h2⟩ | ⟨i, h1, h2, h3, h4⟩
  · have HN := hide (Pct.name_no _ h2)
    have HV := hide (Pct.value_no _ h2)
    have HI := hide (fun W => indexLite_any s 61 W)
    rw [h1] at HI
    clear h1 h2
    go_enter Tryz.func59, Tryz.ntmps59
    go_wp2_with (go_at_call 75; refine (HI.out _).mono ?_; rintro e w' ⟨rfl, rfl⟩)
    refine bodyPost_ret (results_tmp3 rfl _ _ _) rfl ⟨⟨false, ?_⟩, Below.refl _ _⟩
    rw [HN.out, HV.out]
    rfl
  · have HI := hide (fun W => indexLite_any s 61 W)
    rw [h1] at HI
    rw [len_list] at h2
    have HN : Hid (Pct.name s.data.toList = s.data.toList.take i) := by
      show _ = _
      conv => lhs; rw [h3]
      exact Pct.name_at _ _ h4
    have HV : Hid (Pct.value s.data.toList = s.data.toList.drop (i + 1)) := by
      show _ = _
      conv => lhs; rw [h3]
      exact Pct.value_at _ _ h4
    clear h1 h3 h4
    go_enter Tryz.func59, Tryz.ntmps59
    go_wp2_with (go_at_call 75; refine (HI.out _).mono ?_; rintro e w' ⟨rfl, rfl⟩)
    have k0 : (0 : Int) ≤ (i : Int) := Int.natCast_nonneg _
    have k1 : (i : Int) ≤ (s.size : Int) := by omega
    have k2 : (i : Int) + 1 ≤ (s.size : Int) := by omega
    have k3 : (0 : Int) ≤ (i : Int) + 1 := by omega
    have k4 : ((i : Int) + 1).toNat = i + 1 := by omega
    have ww : IntKind.i64.wrap ((i : Int) + 1) = (i : Int) + 1 := wrap_le _ (by omega) (by omega)
    have HX1 : Hid (Value.string (s.extract 0 i) = S (s.data.toList.take i)) := by show _ = _; exact congrArg Value.string (ext_take s i)
    have HX2 : Hid (Value.string (s.extract (i + 1) s.size) = S (s.data.toList.drop (i + 1))) := by show _ = _; exact congrArg Value.string (ext_drop s (i + 1))
    go_region
    all_goals
      go_wp2_with fail
      refine bodyPost_ret (results_tmp3 rfl _ _ _) rfl ⟨⟨true, ?_⟩, (Below.refl _ _).drew⟩
      rw [HN.out, HV.out, ← HX1.out, ← HX2.out]
      rfl

set_option maxRecDepth 100000 in
theorem cut_any (s : ByteArray) (w : World) (hs : s.size ≤ reachBytes) :
    Calls Tryz.prog 39 #[.string s, .string ⟨#[61]⟩] w fun e w' => (∃ f, e = .returned (.tuple #[S (Pct.name s.data.toList), S (Pct.value s.data.toList), .bool f])) ∧ Below w.heap.size w w' := by
  have HS := hide hs
  clear hs
  go_enter Tryz.func39, Tryz.ntmps39
  go_wp2_with fail
  refine (cutLite_any s w HS.out).mono ?_
  rintro e w' ⟨⟨f, rfl⟩, hb⟩
  have HB := hide hb
  clear hb
  go_wp2_with fail
  refine bodyPost_ret (results_tmp3 rfl _ _ _) rfl ⟨⟨f, rfl⟩, HB.out⟩

end Go.Proofs.YtcpflfpgnbihiaaGreatDoor.pctw
