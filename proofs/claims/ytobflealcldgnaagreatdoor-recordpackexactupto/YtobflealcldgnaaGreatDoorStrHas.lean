import Derived.Test.YtobflealcldgnaaGreatDoorRefScope9
import Derived.Laws.Cover1
import Derived.Sort.Walk0
import Derived.Test.YtobflealcldgnaaGreatDoorStrBase
namespace Go.Proofs.YtobflealcldgnaaGreatDoor.tm
open Go.ChangeShapes Go.WideShapes Go.ChangeAt Go.RowKit Go.Proofs.YtobflealcldgnaaGreatDoor.common Go.Proofs.YtobflealcldgnaaGreatDoor.bk
open Go.Proofs.YtobflealcldgnaaGreatDoor.ss (sc Lies)
attribute [local go_sem ↓] Go.wp_at_zero Go.wp_at_succ

/-- which texts are above the last one -/
def above (last : ByteArray) (first : Bool) (x : ByteArray) : Bool := first || decide (last.data.toList < x.data.toList)
/-- what is known of the least: none is above, or it is one of them, and none of them is below it -/
structure Least (l : List ByteArray) (last : ByteArray) (first : Bool) (best : ByteArray) (found : Bool) : Prop where
  no : found = false → ∀ x ∈ l, above last first x = false
  mem : found = true → best ∈ l
  ab : found = true → above last first best = true
  low : found = true → ∀ x ∈ l, above last first x = true → ¬ x.data.toList < best.data.toList

theorem less_eq (a b : ByteArray) : Op.bytesLess a.toList b.toList = decide (a.data.toList < b.data.toList) := by
  rw [Go.Proofs.bytesLess_eq, ByteArray.toList_eq, ByteArray.toList_eq]
theorem gtr_eq (a b : ByteArray) : (Op.bytesLess a.toList b.toList || a.toList == b.toList) = !decide (b.data.toList < a.data.toList) := by
  rw [less_eq, ByteArray.toList_eq, ByteArray.toList_eq]
  by_cases h : b.data.toList < a.data.toList
  · rw [decide_eq_true h]
    have h1 : ¬ a.data.toList < b.data.toList := fun k => Tm.lt_irr _ (Tm.lt_tr h k)
    have h2 : a.data.toList ≠ b.data.toList := fun e => by rw [e] at h; exact Tm.lt_irr _ h
    rw [decide_eq_false h1, beq_false_of_ne h2]; rfl
  · rw [decide_eq_false h]
    by_cases e : a.data.toList = b.data.toList
    · simp [e]
    · have : a.data.toList < b.data.toList := Tm.lt_of (List.not_lt.1 h) e
      rw [decide_eq_true this]; rfl

theorem Least.take_no {l : List ByteArray} {last best : ByteArray} {first found : Bool} {k : Nat} (h : k < l.length) (H : Least (l.take k) last first best found) (hx : above last first l[k] = false ∨ (found = true ∧ ¬ l[k].data.toList < best.data.toList)) : Least (l.take (k + 1)) last first best found := by
  have ht := ss.takeS l k h
  refine ⟨fun hf x hx' => ?_, fun hf => ?_, H.ab, fun hf x hx' ha => ?_⟩
  · rw [ht] at hx'
    rcases List.mem_append.1 hx' with m | m
    · exact H.no hf x m
    · obtain rfl : x = l[k] := by simpa using m
      rcases hx with h1 | ⟨h1, _⟩
      · exact h1
      · rw [hf] at h1; cases h1
  · rw [ht]; exact List.mem_append_left _ (H.mem hf)
  · rw [ht] at hx'
    rcases List.mem_append.1 hx' with m | m
    · exact H.low hf x m ha
    · obtain rfl : x = l[k] := by simpa using m
      rcases hx with h1 | ⟨_, h1⟩
      · rw [ha] at h1; cases h1
      · exact h1
theorem Least.take_yes {l : List ByteArray} {last best : ByteArray} {first found : Bool} {k : Nat} (h : k < l.length) (H : Least (l.take k) last first best found) (ha : above last first l[k] = true) (hb : found = false ∨ l[k].data.toList < best.data.toList) : Least (l.take (k + 1)) last first l[k] true := by
  have ht := ss.takeS l k h
  refine ⟨fun hf => (by cases hf), fun _ => (by rw [ht]; exact List.mem_append_right _ (List.mem_singleton.2 rfl)), fun _ => ha, fun _ x hx' hax => ?_⟩
  rw [ht] at hx'
  rcases List.mem_append.1 hx' with m | m
  · cases found with
    | false => rw [H.no rfl x m] at hax; cases hax
    | true =>
      rcases hb with hb | hb
      · cases hb
      · intro hlt
        exact H.low rfl x m hax (Tm.lt_tr hlt hb)
  · obtain rfl : x = l[k] := by simpa using m
    exact Tm.lt_irr _

set_option maxRecDepth 100000 in
set_option maxHeartbeats 6400000 in
theorem least_any (v : Value) (l : List ByteArray) (last : ByteArray) (first : Bool) (w : World) (hl : Lies w v l) (hs : l.length ≤ 4611686018427387904) :
    Calls Tryz.prog 66 #[v, .string last, .bool first] w fun e w' => ∃ best found, e = .returned (.tuple #[.string best, .bool found]) ∧ Least l last first best found ∧ w' = w := by
  obtain ⟨oa, cap, rfl, hc⟩ := hl
  have HC := hide hc
  clear hc
  go_enter Tryz.func66, Tryz.ntmps66
  go_wp2_with fail
  go_loopw [8, 9, 10] (fun f b i wr => ∃ (k : Nat) (best : ByteArray) (found : Bool), k ≤ l.length ∧ i = .int .i64 k ∧ b = .string best ∧ f = .bool found ∧ Hid (Least (l.take k) last first best found) ∧ wr = w) (fun _ _ i _ => l.length - (intOf i).toNat)
  case atStart => exact ⟨0, ⟨#[]⟩, false, Nat.zero_le _, rfl, rfl, rfl, ⟨fun _ x h => (by simp at h), fun h => (by cases h), fun h => (by cases h), fun h => (by cases h)⟩, rfl⟩
  case round =>
    obtain ⟨k, best, found, hk, rfl, rfl, rfl, HL, rfl⟩ := hrel
    by_cases hlt : k < l.length
    · have hki : (k : Int) < (l.length : Int) := by omega
      obtain ⟨b, o, rfl, hb, c0⟩ := HC.out k hlt
      have HY : Hid (above last first l[k] = true → (found = false ∨ l[k].data.toList < best.data.toList) → Least (l.take (k + 1)) last first l[k] true) := fun h1 h2 => Least.take_yes hlt HL.out h1 h2
      have HN : Hid ((above last first l[k] = false ∨ (found = true ∧ ¬ l[k].data.toList < best.data.toList)) → Least (l.take (k + 1)) last first best found) := fun h => Least.take_no hlt HL.out h
      have HG := hide (gtr_eq l[k] last)
      have HS := hide (less_eq l[k] best)
      generalize l[k] = p at *
      clear HL
      have HAB : Hid (above last first p = (first || decide (last.data.toList < p.data.toList))) := rfl
      cases first with
      | true =>
        cases found with
        | false =>
          have R := hide (HY.out rfl (Or.inl rfl))
          go_wp2_with fail
          go_roundw
          case rel => exact ⟨k + 1, p, true, by omega, by go_num, rfl, rfl, R, by trivial⟩
          case measure => simp [intOf]; omega
        | true =>
          by_cases hlb : p.data.toList < best.data.toList
          · have R := hide (HY.out rfl (Or.inr hlb))
            have hq : Op.bytesLess p.toList best.toList = true := by rw [HS.out]; exact decide_eq_true hlb
            clear hlb
            go_wp2_with fail
            go_roundw
            case rel => exact ⟨k + 1, p, true, by omega, by go_num, rfl, rfl, R, by trivial⟩
            case measure => simp [intOf]; omega
          · have R := hide (HN.out (Or.inr ⟨rfl, hlb⟩))
            have hq : Op.bytesLess p.toList best.toList = false := by rw [HS.out]; exact decide_eq_false hlb
            clear hlb
            go_wp2_with fail
            go_roundw
            case rel => exact ⟨k + 1, best, true, by omega, by go_num, rfl, rfl, R, by trivial⟩
            case measure => simp [intOf]; omega
      | false =>
        by_cases hla : last.data.toList < p.data.toList
        · have hg : (Op.bytesLess p.toList last.toList || p.toList == last.toList) = false := by rw [HG.out, decide_eq_true hla]; rfl
          have hg1 : Op.bytesLess p.toList last.toList = false := (Bool.or_eq_false_iff.1 hg).1
          have hg2 : (p.toList == last.toList) = false := (Bool.or_eq_false_iff.1 hg).2
          have ha : above last false p = true := by rw [HAB.out]; exact decide_eq_true hla
          have HAT := hide ha
          clear ha hla hg
          cases found with
          | false =>
            have R := hide (HY.out HAT.out (Or.inl rfl))
            go_wp2_with fail
            go_roundw
            case rel => exact ⟨k + 1, p, true, by omega, by go_num, rfl, rfl, R, by trivial⟩
            case measure => simp [intOf]; omega
          | true =>
            by_cases hlb : p.data.toList < best.data.toList
            · have R := hide (HY.out HAT.out (Or.inr hlb))
              have hq : Op.bytesLess p.toList best.toList = true := by rw [HS.out]; exact decide_eq_true hlb
              clear hlb
              go_wp2_with fail
              go_roundw
              case rel => exact ⟨k + 1, p, true, by omega, by go_num, rfl, rfl, R, by trivial⟩
              case measure => simp [intOf]; omega
            · have R := hide (HN.out (Or.inr ⟨rfl, hlb⟩))
              have hq : Op.bytesLess p.toList best.toList = false := by rw [HS.out]; exact decide_eq_false hlb
              clear hlb
              go_wp2_with fail
              go_roundw
              case rel => exact ⟨k + 1, best, true, by omega, by go_num, rfl, rfl, R, by trivial⟩
              case measure => simp [intOf]; omega
        · have hg : (Op.bytesLess p.toList last.toList || p.toList == last.toList) = true := by rw [HG.out, decide_eq_false hla]; rfl
          have ha : above last false p = false := by rw [HAB.out]; exact decide_eq_false hla
          have R := hide (HN.out (Or.inl ha))
          clear ha hla
          go_wp2_with fail
          go_roundw
          case rel => exact ⟨k + 1, best, found, by omega, by go_num, rfl, rfl, R, by trivial⟩
          case measure => simp [intOf]; omega
    · obtain rfl : k = l.length := by omega
      have R : Hid (Least l last first best found) := by have := HL.out; rw [List.take_length] at this; exact this
      clear HL
      go_wp2_with fail
      exact bodyPost_ret (results_tmp2 rfl _ _ _) rfl ⟨best, found, rfl, R.out, rfl⟩

end Go.Proofs.YtobflealcldgnaaGreatDoor.tm

namespace Go.Proofs.YtobflealcldgnaaGreatDoor.ss
open Go.ChangeShapes Go.WideShapes Go.ChangeAt Go.RowKit Go.Proofs.YtobflealcldgnaaGreatDoor.common Go.Proofs.YtobflealcldgnaaGreatDoor.bk
attribute [local go_sem ↓] Go.wp_at_zero Go.wp_at_succ

/-- does x stand in l? -/
def has (x : ByteArray) (l : List ByteArray) : Bool := l.any fun y => y.data.toList == x.data.toList
theorem has_iff {x : ByteArray} {l : List ByteArray} : has x l = true ↔ x ∈ l := by
  unfold has
  rw [List.any_eq_true]
  constructor
  · rintro ⟨y, hy, e⟩
    have : y = x := ba_ext (by simpa using e)
    exact this ▸ hy
  · intro h; exact ⟨x, h, by simp⟩
theorem has_no {x : ByteArray} {l : List ByteArray} (h : ∀ y ∈ l, y ≠ x) : has x l = false := by
  cases e : has x l with
  | false => rfl
  | true => exact absurd rfl (h x (has_iff.1 e))
/-- is each of a among b? -/
def win (a b : List ByteArray) : Bool := a.all fun x => has x b
theorem win_iff {a b : List ByteArray} : win a b = true ↔ ∀ x ∈ a, x ∈ b := by
  unfold win
  rw [List.all_eq_true]
  exact ⟨fun h x hx => has_iff.1 (h x hx), fun h x hx => has_iff.2 (h x hx)⟩
theorem all_takeS (l : List ByteArray) (p : ByteArray → Bool) (k : Nat) (h : k < l.length) : (l.take (k + 1)).all p = ((l.take k).all p && p l[k]) := by
  rw [takeS l k h, List.all_append]; simp
theorem all_shortS (l : List ByteArray) (p : ByteArray → Bool) (k : Nat) (h : (l.take k).all p = false) : l.all p = false := by
  have e : l.all p = ((l.take k).all p && (l.drop k).all p) := by rw [← List.all_append, List.take_append_drop]
  rw [e, h]; rfl

theorem no_next {x : ByteArray} {l : List ByteArray} {k : Nat} (h : k < l.length) (h0 : ∀ y ∈ l.take k, y ≠ x) (hn : l[k] ≠ x) : ∀ y ∈ l.take (k + 1), y ≠ x := by
  rw [takeS l k h]
  intro y hy
  rcases List.mem_append.1 hy with hy | hy
  · exact h0 y hy
  · simp at hy; subst hy; exact hn

end Go.Proofs.YtobflealcldgnaaGreatDoor.ss
