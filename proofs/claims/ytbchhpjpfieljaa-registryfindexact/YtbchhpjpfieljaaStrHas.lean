import Derived.Test.YtbchhpjpfieljaaStrBase
namespace Go.Proofs.Ytbchhpjpfieljaa.ss
open Go.ChangeShapes Go.WideShapes Go.ChangeAt Go.RowKit Go.Proofs.Ytbchhpjpfieljaa.common Go.Proofs.Ytbchhpjpfieljaa.bk
attribute [local go_sem ↓] Go.wp_at_zero Go.wp_at_succ

/-- does x stand in l? -/
def has (x : ByteArray) (l : List ByteArray) : Bool := l.any fun y => y.data.toList == x.data.toList
theorem has_iff {x : ByteArray} {l : List ByteArray} : has x l = true ↔ x ∈ l := by
  unfold has
  rw [List.any_eq_true]
  constructor
  · rintro ⟨y, hy, e⟩
    have : y = x := ba_ext (by simpa using e)
    exact this ▸ hy
  · intro h; exact ⟨x, h, by simp⟩
theorem has_no {x : ByteArray} {l : List ByteArray} (h : ∀ y ∈ l, y ≠ x) : has x l = false := by
  cases e : has x l with
  | false => rfl
  | true => exact absurd rfl (h x (has_iff.1 e))
/-- is each of a among b? -/
def win (a b : List ByteArray) : Bool := a.all fun x => has x b
theorem win_iff {a b : List ByteArray} : win a b = true ↔ ∀ x ∈ a, x ∈ b := by
  unfold win
  rw [List.all_eq_true]
  exact ⟨fun h x hx => has_iff.1 (h x hx), fun h x hx => has_iff.2 (h x hx)⟩
theorem all_takeS (l : List ByteArray) (p : ByteArray → Bool) (k : Nat) (h : k < l.length) : (l.take (k + 1)).all p = ((l.take k).all p && p l[k]) := by
  rw [takeS l k h, List.all_append]; simp
theorem all_shortS (l : List ByteArray) (p : ByteArray → Bool) (k : Nat) (h : (l.take k).all p = false) : l.all p = false := by
  have e : l.all p = ((l.take k).all p && (l.drop k).all p) := by rw [← List.all_append, List.take_append_drop]
  rw [e, h]; rfl

theorem no_next {x : ByteArray} {l : List ByteArray} {k : Nat} (h : k < l.length) (h0 : ∀ y ∈ l.take k, y ≠ x) (hn : l[k] ≠ x) : ∀ y ∈ l.take (k + 1), y ≠ x := by
  rw [takeS l k h]
  intro y hy
  rcases List.mem_append.1 hy with hy | hy
  · exact h0 y hy
  · simp at hy; subst hy; exact hn

set_option maxRecDepth 100000 in
set_option maxHeartbeats 1600000 in
theorem index_any (v : Value) (l : List ByteArray) (x : ByteArray) (w : World) (hl : Lies w v l) (hs : l.length ≤ 4611686018427387904) :
    Calls Try.prog 17 #[v, .string x] w fun e w' => ∃ i : Int, e = .returned (.int .i64 i) ∧ decide (i ≥ 0) = has x l ∧ w' = w := by
  obtain ⟨oa, cap, rfl, hc⟩ := hl
  have HC := hide hc
  clear hc
  go_enter Try.func17, Try.ntmps17
  go_wp2_with fail
  go_loopw [8] (fun i wr => ∃ k : Nat, k ≤ l.length ∧ i = .int .i64 k ∧ Hid (∀ y ∈ l.take k, y ≠ x) ∧ wr = w) (fun i _ => l.length - (intOf i).toNat)
  case atStart => exact ⟨0, Nat.zero_le _, rfl, fun y h => by simp at h, rfl⟩
  case round =>
    obtain ⟨k, hk, rfl, HN, rfl⟩ := hrel
    by_cases hlt : k < l.length
    · have hki : (k : Int) < (l.length : Int) := by omega
      obtain ⟨b, o, rfl, hb, c0⟩ := HC.out k hlt
      by_cases he : l[k] = x
      · have HM : Hid (has x l = true) := has_iff.2 (he ▸ List.getElem_mem hlt)
        generalize l[k] = p at *
        subst he
        go_wp2_with fail
        go_ret
        exact ⟨k, rfl, by rw [HM.out]; simp, rfl⟩
      · have HN1 := hide (no_next hlt HN.out he)
        have e1 : (x.toList == l[k].toList) = false := ne_list (fun e => he e.symm)
        generalize l[k] = p at *
        go_wp2_with fail
        go_roundw
        case rel => exact ⟨k + 1, by omega, by go_num, HN1, by trivial⟩
        case measure => simp [intOf]; omega
    · obtain rfl : k = l.length := by omega
      have HM : Hid (has x l = false) := by
        have := HN.out
        rw [List.take_length] at this
        exact has_no this
      go_wp2_with fail
      go_ret
      exact ⟨-1, rfl, by rw [HM.out]; rfl, rfl⟩

set_option maxHeartbeats 800000 in
theorem contains_any (v : Value) (l : List ByteArray) (x : ByteArray) (w : World) (hl : Lies w v l) (hs : l.length ≤ 4611686018427387904) :
    Calls Try.prog 15 #[v, .string x] w fun e w' => e = .returned (.bool (has x l)) ∧ w' = w := by
  have HI := hide (fun W (h : Lies W v l) => index_any v l x W h hs)
  have HL := hide hl
  clear hl
  go_enter Try.func15, Try.ntmps15
  go_wp2_with fail
  refine (HI.out _ HL.out).mono ?_
  rintro e w2 ⟨i, rfl, hi, rfl⟩
  have H := hide hi
  clear hi
  by_cases hp : (0 : Int) ≤ i
  · have HR : Hid (has x l = true) := by show _ = _; rw [← H.out]; exact decide_eq_true hp
    go_wp2_with fail
    go_ret
    exact ⟨by rw [HR.out]; rfl, rfl⟩
  · have HR : Hid (has x l = false) := by show _ = _; rw [← H.out]; exact decide_eq_false hp
    go_wp2_with fail
    go_ret
    exact ⟨by rw [HR.out, decide_eq_false (show ¬ (0 : Int) ≤ i by omega)]; rfl, rfl⟩

end Go.Proofs.Ytbchhpjpfieljaa.ss
