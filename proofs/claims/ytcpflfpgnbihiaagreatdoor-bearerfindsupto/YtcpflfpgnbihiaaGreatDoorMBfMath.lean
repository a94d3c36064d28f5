import Derived.Test.YtcpflfpgnbihiaaGreatDoorMFieldMath
import Derived.Lib.Bytealg
import Derived.Laws.Externs
namespace Go.Proofs.YtcpflfpgnbihiaaGreatDoor.fd
open Go.ChangeShapes Go.WideShapes Go.ChangeAt Go.RowKit Go.Proofs.YtcpflfpgnbihiaaGreatDoor.common Go.Proofs.YtcpflfpgnbihiaaGreatDoor.bk
attribute [local go_sem ↓] Go.wp_at_zero Go.wp_at_succ

theorem ext_take (s : ByteArray) (i : Nat) : s.extract 0 i = ⟨(s.data.toList.take i).toArray⟩ := by
  apply ba_ext; simp
theorem ext_drop (s : ByteArray) (i : Nat) : s.extract i s.size = ⟨(s.data.toList.drop i).toArray⟩ := by
  apply ba_ext
  have h : s.data.toList.length = s.size := by simp
  simp
  exact List.take_of_length_le (by rw [List.length_drop, h]; exact Nat.le_refl _)

/-- where a byte first stands -/
theorem index_cases (c : UInt8) (l : List UInt8) : (Lib.indexByte l c = -1 ∧ ∀ x ∈ l, x ≠ c) ∨ ∃ i : Nat, Lib.indexByte l c = (i : Int) ∧ i < l.length ∧ l = l.take i ++ c :: l.drop (i + 1) ∧ ∀ x ∈ l.take i, x ≠ c := by
  induction l with
  | nil => exact Or.inl ⟨rfl, fun x h => by cases h⟩
  | cons b r ih =>
    by_cases hb : b = c
    · subst hb
      exact Or.inr ⟨0, by simp [Lib.indexByte], by simp, by simp, fun x h => by simp at h⟩
    · have e : Lib.indexByte (b :: r) c = if Lib.indexByte r c == -1 then -1 else Lib.indexByte r c + 1 := by
        rw [Lib.indexByte, if_neg (by simpa using hb)]
      rcases ih with ⟨h1, h2⟩ | ⟨i, h1, h2, h3, h4⟩
      · refine Or.inl ⟨by rw [e, h1]; rfl, fun x hx => ?_⟩
        rcases List.mem_cons.1 hx with rfl | hx
        · exact hb
        · exact h2 x hx
      · refine Or.inr ⟨i + 1, ?_, by simpa using h2, ?_, ?_⟩
        · rw [e, h1, if_neg (by simp)]; rfl
        · show b :: r = b :: (r.take i ++ c :: r.drop (i + 1))
          rw [← h3]
        · intro x hx
          rw [List.take_succ_cons] at hx
          rcases List.mem_cons.1 hx with rfl | hx
          · exact hb
          · exact h4 x hx

set_option maxRecDepth 100000 in
theorem indexByte_any (s : ByteArray) (c : UInt8) (w : World) :
    Calls Tryz.prog 71 #[.string s, B c] w fun e w' => e = .returned (.int .i64 (Lib.indexByte s.data.toList c)) ∧ w' = w := by
  go_enter Tryz.func71, Tryz.ntmps71
  go_wp2_with fail
  rw [run_callFunc_extern Tryz.func93 (by kernel_rfl) (by kernel_rfl) (by kernel_rfl) (e := Extern.BytealgIndexByte.indexByte) (by kernel_rfl), Lib.run_indexByteString]
  have e : ((c.toNat : Int)).toNat.toUInt8 = c := by simp
  rw [e]
  simp only [Result.andThen]
  rw [Oper.upon_value]
  go_wp2
  go_ret
  exact ⟨rfl, rfl⟩

set_option maxRecDepth 100000 in
set_option maxHeartbeats 800000 in
theorem indexLite_any (s : ByteArray) (c : UInt8) (w : World) :
    Calls Tryz.prog 75 #[.string s, .string ⟨#[c]⟩] w fun e w' => e = .returned (.int .i64 (Lib.indexByte s.data.toList c)) ∧ w' = w := by
  by_cases hc : s = ⟨#[c]⟩
  · have H0 : Hid (Lib.indexByte s.data.toList c = 0) := by show _ = _; rw [hc]; simp [Lib.indexByte]
    have he : (([c] : List UInt8) == s.toList) = true := by rw [hc, ByteArray.toList_eq]; simp
    clear hc
    go_enter Tryz.func75, Tryz.ntmps75
    go_wp2_with fail
    go_ret
    exact ⟨by rw [H0.out]; rfl, rfl⟩
  · have he : (([c] : List UInt8) == s.toList) = false := beq_false_of_ne (fun e => hc (ba_ext (by rw [ByteArray.toList_eq] at e; rw [← e])))
    clear hc
    go_enter Tryz.func75, Tryz.ntmps75
    go_wp2_with (go_at_call 71; refine (indexByte_any s c _).mono ?_; rintro e w' ⟨rfl, rfl⟩)
    go_ret
    exact ⟨rfl, rfl⟩

/-- a text cut at a byte's first place -/
def before (c : UInt8) (l : List UInt8) : List UInt8 := l.takeWhile fun x => decide (x ≠ c)
def behind (c : UInt8) (l : List UInt8) : List UInt8 := (l.dropWhile fun x => decide (x ≠ c)).tail
theorem tw_all {p : UInt8 → Bool} {l : List UInt8} (h : ∀ x ∈ l, p x = true) : l.takeWhile p = l ∧ l.dropWhile p = [] := by
  induction l with
  | nil => exact ⟨rfl, rfl⟩
  | cons a r ih =>
    have ha := h a (by simp)
    have := ih fun x hx => h x (by simp [hx])
    simp [ha, this.1, this.2]
theorem cut_no {c : UInt8} {l : List UInt8} (h : ∀ x ∈ l, x ≠ c) : before c l = l ∧ behind c l = [] ∧ l.contains c = false := by
  have ht := tw_all (p := fun x => decide (x ≠ c)) (l := l) fun x hx => decide_eq_true (h x hx)
  refine ⟨ht.1, ?_, ?_⟩
  · unfold behind
    rw [ht.2]; rfl
  · rw [Bool.eq_false_iff]
    intro hc
    exact h c (List.contains_iff_mem.1 hc) rfl
theorem cut_at {c : UInt8} {m r : List UInt8} (h : ∀ x ∈ m, x ≠ c) : before c (m ++ c :: r) = m ∧ behind c (m ++ c :: r) = r ∧ (m ++ c :: r).contains c = true := by
  have h1 : ∀ x ∈ m, (fun x => decide (x ≠ c)) x = true := fun x hx => decide_eq_true (h x hx)
  refine ⟨?_, ?_, by simp⟩
  · unfold before
    rw [List.takeWhile_append_of_pos h1]
    simp
  · unfold behind
    rw [List.dropWhile_append_of_pos h1]
    simp

set_option maxRecDepth 100000 in
set_option maxHeartbeats 800000 in
theorem cutLite_any (s : ByteArray) (c : UInt8) (w : World) (hs : s.size ≤ 4611686018427387904) :
    Calls Tryz.prog 59 #[.string s, .string ⟨#[c]⟩] w fun e w' => e = .returned (.tuple #[S (before c s.data.toList), S (behind c s.data.toList), .bool (s.data.toList.contains c)]) ∧ Below w.heap.size w w' := by
  rcases index_cases c s.data.toList with ⟨h1, h2⟩ | ⟨i, h1, h2, h3, h4⟩
  · obtain ⟨a1, a2, a3⟩ := cut_no h2
    rw [a1, a2, a3]
    have HI := hide (fun W => indexLite_any s c W)
    rw [h1] at HI
    clear h1 h2 a1 a2 a3
    go_enter Tryz.func59, Tryz.ntmps59
    go_wp2_with (go_at_call 75; refine (HI.out _).mono ?_; rintro e w' ⟨rfl, rfl⟩)
    refine bodyPost_ret (results_tmp3 rfl _ _ _) rfl ⟨?_, Below.refl _ _⟩
    rfl
  · have HI := hide (fun W => indexLite_any s c W)
    rw [h1] at HI
    rw [len_list] at h2
    obtain ⟨a1, a2, a3⟩ := cut_at (r := s.data.toList.drop (i + 1)) h4
    rw [← h3] at a1 a2 a3
    rw [a1, a2, a3]
    clear h1 h3 h4 a1 a2 a3
    go_enter Tryz.func59, Tryz.ntmps59
    go_wp2_with (go_at_call 75; refine (HI.out _).mono ?_; rintro e w' ⟨rfl, rfl⟩)
    have k0 : (0 : Int) ≤ (i : Int) := Int.natCast_nonneg _
    have k1 : (i : Int) ≤ (s.size : Int) := by omega
    have k2 : (i : Int) + 1 ≤ (s.size : Int) := by omega
    have k3 : (0 : Int) ≤ (i : Int) + 1 := by omega
    have k4 : ((i : Int) + 1).toNat = i + 1 := by omega
    have ww : IntKind.i64.wrap ((i : Int) + 1) = (i : Int) + 1 := wrap_le _ (by omega) (by omega)
    have HX1 : Hid (Value.string (s.extract 0 i) = S (s.data.toList.take i)) := by show _ = _; exact congrArg Value.string (ext_take s i)
    have HX2 : Hid (Value.string (s.extract (i + 1) s.size) = S (s.data.toList.drop (i + 1))) := by show _ = _; exact congrArg Value.string (ext_drop s (i + 1))
    go_region
    all_goals
      go_wp2_with fail
      refine bodyPost_ret (results_tmp3 rfl _ _ _) rfl ⟨?_, (Below.refl _ _).drew⟩
      rw [← HX1.out, ← HX2.out]
      rfl

set_option maxRecDepth 100000 in
theorem cut_any (s : ByteArray) (c : UInt8) (w : World) (hs : s.size ≤ 4611686018427387904) :
    Calls Tryz.prog 39 #[.string s, .string ⟨#[c]⟩] w fun e w' => e = .returned (.tuple #[S (before c s.data.toList), S (behind c s.data.toList), .bool (s.data.toList.contains c)]) ∧ Below w.heap.size w w' := by
  have HC := hide (cutLite_any s c w hs)
  generalize s.data.toList.contains c = f at *
  go_enter Tryz.func39, Tryz.ntmps39
  go_wp2_with fail
  refine HC.out.mono ?_
  rintro e w' ⟨rfl, hb⟩
  have HB := hide hb
  clear hb
  go_wp2_with fail
  refine bodyPost_ret (results_tmp3 rfl _ _ _) rfl ⟨rfl, HB.out⟩

end Go.Proofs.YtcpflfpgnbihiaaGreatDoor.fd

namespace Go.Proofs.YtcpflfpgnbihiaaGreatDoor.Bf
open Go.Proofs.YtcpflfpgnbihiaaGreatDoor

/-- the scheme's name -/
def bearer : List UInt8 := [98, 101, 97, 114, 101, 114]
/-- what a field's value shows, and whether it shows something -/
def shw (v : List UInt8) : List UInt8 × Bool :=
  if Fd.lows (v.takeWhile Fd.tok) = bearer then (if (v.dropWhile Fd.tok).head? = some 32 then (v.dropWhile Fd.tok).dropWhile (fun c => c == 32) else [], true) else ([], false)
/-- may it stand in a token? -/
def tch (c : UInt8) : Bool := decide (65 ≤ c.toNat ∧ c.toNat ≤ 90 ∨ 97 ≤ c.toNat ∧ c.toNat ≤ 122 ∨ 48 ≤ c.toNat ∧ c.toNat ≤ 57 ∨ c.toNat = 45 ∨ c.toNat = 46 ∨ c.toNat = 95 ∨ c.toNat = 126 ∨ c.toNat = 43 ∨ c.toNat = 47)
/-- is it a token's text? -/
def isTk (s : List UInt8) : Bool := !(s.takeWhile tch).isEmpty && (s.dropWhile tch).all (fun c => c == 61)

theorem lows_len (l : List UInt8) : (Fd.lows l).length = l.length := by unfold Fd.lows; simp
theorem low_cases (c : UInt8) : (65 ≤ c.toNat ∧ c.toNat ≤ 90 ∧ (Fd.low c).toNat = c.toNat + 32) ∨ (¬ (65 ≤ c.toNat ∧ c.toNat ≤ 90) ∧ Fd.low c = c) := by
  by_cases h : 65 ≤ c.toNat ∧ c.toNat ≤ 90
  · refine Or.inl ⟨h.1, h.2, ?_⟩
    have := c.toNat_lt
    unfold Fd.low; rw [if_pos h, UInt8.toNat_add]; show (c.toNat + 32) % 256 = _; omega
  · exact Or.inr ⟨h, by unfold Fd.low; rw [if_neg h]⟩
/-- what is a small letter, made small, is a token byte -/
theorem tok_of_low {c x : UInt8} (h : Fd.low c = x) (h0 : 97 ≤ x.toNat) (h1 : x.toNat ≤ 122) : Fd.tok c = true := by
  unfold Fd.tok Fd.tokB
  refine decide_eq_true ?_
  rcases low_cases c with ⟨a, b, _⟩ | ⟨_, e⟩
  · omega
  · rw [e] at h; subst h; omega
theorem tw_all {p : UInt8 → Bool} {l r : List UInt8} (h : ∀ x ∈ l, p x = true) : (l ++ r).takeWhile p = l ++ r.takeWhile p ∧ (l ++ r).dropWhile p = r.dropWhile p := by
  induction l with
  | nil => exact ⟨rfl, rfl⟩
  | cons a t ih =>
    have ha := h a List.mem_cons_self
    obtain ⟨i1, i2⟩ := ih fun x hx => h x (List.mem_cons_of_mem _ hx)
    refine ⟨?_, ?_⟩
    · rw [List.cons_append, List.takeWhile_cons, if_pos ha, i1]; rfl
    · rw [List.cons_append, List.dropWhile_cons, if_pos ha, i2]
theorem bearer_tok {l : List UInt8} (h : Fd.lows l = bearer) : ∀ x ∈ l, Fd.tok x = true := by
  intro x hx
  have hm : Fd.low x ∈ Fd.lows l := List.mem_map.2 ⟨x, hx, rfl⟩
  rw [h] at hm
  have hb : ∀ y ∈ bearer, 97 ≤ y.toNat ∧ y.toNat ≤ 122 := by decide
  exact tok_of_low rfl (hb _ hm).1 (hb _ hm).2
theorem shw_six {h r : List UInt8} (hh : Fd.lows h = bearer) :
    shw (h ++ r) = if Fd.lows (r.takeWhile Fd.tok) = [] then (if (r.dropWhile Fd.tok).head? = some 32 then (r.dropWhile Fd.tok).dropWhile (fun c => c == 32) else [], true) else ([], false) := by
  obtain ⟨a, b⟩ := tw_all (p := Fd.tok) (r := r) (bearer_tok hh)
  unfold shw
  rw [a, b]
  have e : (Fd.lows (h ++ r.takeWhile Fd.tok) = bearer) ↔ Fd.lows (r.takeWhile Fd.tok) = [] := by
    unfold Fd.lows at hh ⊢
    rw [List.map_append, hh]
    constructor
    · intro e; exact List.append_right_eq_self.1 e
    · intro e; rw [e, List.append_nil]
  by_cases h1 : Fd.lows (r.takeWhile Fd.tok) = []
  · rw [if_pos (e.2 h1), if_pos h1]
  · rw [if_neg (fun x => h1 (e.1 x)), if_neg h1]
theorem shw_blank {h r : List UInt8} (hh : Fd.lows h = bearer) : shw (h ++ 32 :: r) = ((32 :: r).dropWhile (fun c => c == 32), true) := by
  rw [shw_six hh]
  have t : Fd.tok 32 = false := by decide
  rw [List.takeWhile_cons, t, List.dropWhile_cons, t]
  simp [Fd.lows]
theorem shw_end {h : List UInt8} (hh : Fd.lows h = bearer) : shw h = ([], true) := by
  have := shw_six (r := []) hh
  rw [List.append_nil] at this
  rw [this]; rfl
theorem shw_other {h r : List UInt8} {c : UInt8} (hh : Fd.lows h = bearer) (hc : c ≠ 32) : shw (h ++ c :: r) = ([], !Fd.tok c) := by
  rw [shw_six hh, List.takeWhile_cons, List.dropWhile_cons]
  cases ht : Fd.tok c
  · simp [Fd.lows, hc]
  · simp [Fd.lows]
theorem shw_short {v : List UInt8} (h : v.length < 6) : shw v = ([], false) := by
  unfold shw
  rw [if_neg]
  intro e
  have h1 := congrArg List.length e
  rw [lows_len] at h1
  have h2 := (List.takeWhile_prefix (l := v) Fd.tok).length_le
  have h3 : bearer.length = 6 := rfl
  omega
theorem shw_none {h r : List UInt8} (hl : h.length = 6) (hh : Fd.lows h ≠ bearer) : shw (h ++ r) = ([], false) := by
  unfold shw
  rw [if_neg]
  intro e
  refine hh ?_
  have h1 := congrArg List.length e
  rw [lows_len] at h1
  have h3 : bearer.length = 6 := rfl
  have h4 : (h ++ r).takeWhile Fd.tok = (h ++ r).take 6 := by
    have hp := List.takeWhile_prefix (l := h ++ r) Fd.tok
    have := List.prefix_iff_eq_take.1 hp
    rw [this]
    congr 1
  rw [h4, ← hl, List.take_left] at e
  exact e
theorem shw_nil : shw [] = ([], false) := shw_short (by decide)

end Go.Proofs.YtcpflfpgnbihiaaGreatDoor.Bf
