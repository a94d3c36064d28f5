import Derived.Test.YtlefalplljgkeaaGreatDoorMAgMath
import Derived.Lib.Bytealg
import Derived.Laws.Externs
namespace Go.Proofs.YtlefalplljgkeaaGreatDoor.fd
open Go.ChangeShapes Go.WideShapes Go.ChangeAt Go.RowKit Go.Proofs.YtlefalplljgkeaaGreatDoor.common Go.Proofs.YtlefalplljgkeaaGreatDoor.bk
attribute [local go_sem ↓] Go.wp_at_zero Go.wp_at_succ

theorem ext_take (s : ByteArray) (i : Nat) : s.extract 0 i = ⟨(s.data.toList.take i).toArray⟩ := by
  apply ba_ext; simp
theorem ext_drop (s : ByteArray) (i : Nat) : s.extract i s.size = ⟨(s.data.toList.drop i).toArray⟩ := by
  apply ba_ext
  have h : s.data.toList.length = s.size := by simp
  simp
  exact List.take_of_length_le (by rw [List.length_drop, h]; exact Nat.le_refl _)

/-- where a byte first stands -/
theorem index_cases (c : UInt8) (l : List UInt8) : (Lib.indexByte l c = -1 ∧ ∀ x ∈ l, x ≠ c) ∨ ∃ i : Nat, Lib.indexByte l c = (i : Int) ∧ i < l.length ∧ l = l.take i ++ c :: l.drop (i + 1) ∧ ∀ x ∈ l.take i, x ≠ c := by
  induction l with
  | nil => exact Or.inl ⟨rfl, fun x h => by cases h⟩
  | cons b r ih =>
    by_cases hb : b = c
    · subst hb
      exact Or.inr ⟨0, by simp [Lib.indexByte], by simp, by simp, fun x h => by simp at h⟩
    · have e : Lib.indexByte (b :: r) c = if Lib.indexByte r c == -1 then -1 else Lib.indexByte r c + 1 := by
        rw [Lib.indexByte, if_neg (by simpa using hb)]
      rcases ih with ⟨h1, h2⟩ | ⟨i, h1, h2, h3, h4⟩
      · refine Or.inl ⟨by rw [e, h1]; rfl, fun x hx => ?_⟩
        rcases List.mem_cons.1 hx with rfl | hx
        · exact hb
        · exact h2 x hx
      · refine Or.inr ⟨i + 1, ?_, by simpa using h2, ?_, ?_⟩
        · rw [e, h1, if_neg (by simp)]; rfl
        · show b :: r = b :: (r.take i ++ c :: r.drop (i + 1))
          rw [← h3]
        · intro x hx
          rw [List.take_succ_cons] at hx
          rcases List.mem_cons.1 hx with rfl | hx
          · exact hb
          · exact h4 x hx

set_option maxRecDepth 100000 in
theorem indexByte_any (s : ByteArray) (c : UInt8) (w : World) :
    Calls Tryz.prog 127 #[.string s, B c] w fun e w' => e = .returned (.int .i64 (Lib.indexByte s.data.toList c)) ∧ w' = w := by
  go_enter Tryz.func127, Tryz.ntmps127
  go_wp2_with fail
  rw [run_callFunc_extern Tryz.func147 (by kernel_rfl) (by kernel_rfl) (by kernel_rfl) (e := Extern.BytealgIndexByte.indexByte) (by kernel_rfl), Lib.run_indexByteString]
  have e : ((c.toNat : Int)).toNat.toUInt8 = c := by simp
  rw [e]
  simp only [Result.andThen]
  rw [Oper.upon_value]
  go_wp2
  go_ret
  exact ⟨rfl, rfl⟩

set_option maxRecDepth 100000 in
set_option maxHeartbeats 800000 in
theorem indexLite_any (s : ByteArray) (c : UInt8) (w : World) :
    Calls Tryz.prog 118 #[.string s, .string ⟨#[c]⟩] w fun e w' => e = .returned (.int .i64 (Lib.indexByte s.data.toList c)) ∧ w' = w := by
  by_cases hc : s = ⟨#[c]⟩
  · have H0 : Hid (Lib.indexByte s.data.toList c = 0) := by show _ = _; rw [hc]; simp [Lib.indexByte]
    have he : (([c] : List UInt8) == s.toList) = true := by rw [hc, ByteArray.toList_eq]; simp
    clear hc
    go_enter Tryz.func118, Tryz.ntmps118
    go_wp2_with fail
    go_ret
    exact ⟨by rw [H0.out]; rfl, rfl⟩
  · have he : (([c] : List UInt8) == s.toList) = false := beq_false_of_ne (fun e => hc (ba_ext (by rw [ByteArray.toList_eq] at e; rw [← e])))
    clear hc
    go_enter Tryz.func118, Tryz.ntmps118
    go_wp2_with (go_at_call 127; refine (indexByte_any s c _).mono ?_; rintro e w' ⟨rfl, rfl⟩)
    go_ret
    exact ⟨rfl, rfl⟩

/-- a text cut at a byte's first place -/
def before (c : UInt8) (l : List UInt8) : List UInt8 := l.takeWhile fun x => decide (x ≠ c)
def behind (c : UInt8) (l : List UInt8) : List UInt8 := (l.dropWhile fun x => decide (x ≠ c)).tail
theorem tw_all {p : UInt8 → Bool} {l : List UInt8} (h : ∀ x ∈ l, p x = true) : l.takeWhile p = l ∧ l.dropWhile p = [] := by
  induction l with
  | nil => exact ⟨rfl, rfl⟩
  | cons a r ih =>
    have ha := h a (by simp)
    have := ih fun x hx => h x (by simp [hx])
    simp [ha, this.1, this.2]
theorem cut_no {c : UInt8} {l : List UInt8} (h : ∀ x ∈ l, x ≠ c) : before c l = l ∧ behind c l = [] ∧ l.contains c = false := by
  have ht := tw_all (p := fun x => decide (x ≠ c)) (l := l) fun x hx => decide_eq_true (h x hx)
  refine ⟨ht.1, ?_, ?_⟩
  · unfold behind
    rw [ht.2]; rfl
  · rw [Bool.eq_false_iff]
    intro hc
    exact h c (List.contains_iff_mem.1 hc) rfl
theorem cut_at {c : UInt8} {m r : List UInt8} (h : ∀ x ∈ m, x ≠ c) : before c (m ++ c :: r) = m ∧ behind c (m ++ c :: r) = r ∧ (m ++ c :: r).contains c = true := by
  have h1 : ∀ x ∈ m, (fun x => decide (x ≠ c)) x = true := fun x hx => decide_eq_true (h x hx)
  refine ⟨?_, ?_, by simp⟩
  · unfold before
    rw [List.takeWhile_append_of_pos h1]
    simp
  · unfold behind
    rw [List.dropWhile_append_of_pos h1]
    simp

set_option maxRecDepth 100000 in
set_option maxHeartbeats 800000 in
theorem cutLite_any (s : ByteArray) (c : UInt8) (w : World) (hs : s.size ≤ 4611686018427387904) :
    Calls Tryz.prog 97 #[.string s, .string ⟨#[c]⟩] w fun e w' => e = .returned (.tuple #[S (before c s.data.toList), S (behind c s.data.toList), .bool (s.data.toList.contains c)]) ∧ Below w.heap.size w w' := by
  rcases index_cases c s.data.toList with ⟨h1, h2⟩ | ⟨i, h1, h2, h3, h4⟩
  · obtain ⟨a1, a2, a3⟩ := cut_no h2
    rw [a1, a2, a3]
    have HI := hide (fun W => indexLite_any s c W)
    rw [h1] at HI
    clear h1 h2 a1 a2 a3
    go_enter Tryz.func97, Tryz.ntmps97
    go_wp2_with (go_at_call 118; refine (HI.out _).mono ?_; rintro e w' ⟨rfl, rfl⟩)
    refine bodyPost_ret (results_tmp3 rfl _ _ _) rfl ⟨?_, Below.refl _ _⟩
    rfl
  · have HI := hide (fun W => indexLite_any s c W)
    rw [h1] at HI
    rw [len_list] at h2
    obtain ⟨a1, a2, a3⟩ := cut_at (r := s.data.toList.drop (i + 1)) h4
    rw [← h3] at a1 a2 a3
    rw [a1, a2, a3]
    clear h1 h3 h4 a1 a2 a3
    go_enter Tryz.func97, Tryz.ntmps97
    go_wp2_with (go_at_call 118; refine (HI.out _).mono ?_; rintro e w' ⟨rfl, rfl⟩)
    have k0 : (0 : Int) ≤ (i : Int) := Int.natCast_nonneg _
    have k1 : (i : Int) ≤ (s.size : Int) := by omega
    have k2 : (i : Int) + 1 ≤ (s.size : Int) := by omega
    have k3 : (0 : Int) ≤ (i : Int) + 1 := by omega
    have k4 : ((i : Int) + 1).toNat = i + 1 := by omega
    have ww : IntKind.i64.wrap ((i : Int) + 1) = (i : Int) + 1 := wrap_le _ (by omega) (by omega)
    have HX1 : Hid (Value.string (s.extract 0 i) = S (s.data.toList.take i)) := by show _ = _; exact congrArg Value.string (ext_take s i)
    have HX2 : Hid (Value.string (s.extract (i + 1) s.size) = S (s.data.toList.drop (i + 1))) := by show _ = _; exact congrArg Value.string (ext_drop s (i + 1))
    go_region
    all_goals
      go_wp2_with fail
      refine bodyPost_ret (results_tmp3 rfl _ _ _) rfl ⟨?_, (Below.refl _ _).drew⟩
      rw [← HX1.out, ← HX2.out]
      rfl

set_option maxRecDepth 100000 in
theorem cut_any (s : ByteArray) (c : UInt8) (w : World) (hs : s.size ≤ 4611686018427387904) :
    Calls Tryz.prog 67 #[.string s, .string ⟨#[c]⟩] w fun e w' => e = .returned (.tuple #[S (before c s.data.toList), S (behind c s.data.toList), .bool (s.data.toList.contains c)]) ∧ Below w.heap.size w w' := by
  have HC := hide (cutLite_any s c w hs)
  generalize s.data.toList.contains c = f at *
  go_enter Tryz.func67, Tryz.ntmps67
  go_wp2_with fail
  refine HC.out.mono ?_
  rintro e w' ⟨rfl, hb⟩
  have HB := hide hb
  clear hb
  go_wp2_with fail
  refine bodyPost_ret (results_tmp3 rfl _ _ _) rfl ⟨rfl, HB.out⟩

end Go.Proofs.YtlefalplljgkeaaGreatDoor.fd
