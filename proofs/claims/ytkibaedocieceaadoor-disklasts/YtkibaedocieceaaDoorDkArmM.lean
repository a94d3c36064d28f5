import Derived.Test.YtkibaedocieceaaDoorDkTwin
namespace Go.Proofs.YtkibaedocieceaaDoor.dk
open Go.ChangeShapes Go.WideShapes Go.ChangeAt Go.RowKit Go.Proofs.YtkibaedocieceaaDoor.common

/-- is the step an operation? -/
def opB (s : Sp) : Bool := decide (1 ≤ s.k) && decide (s.k ≤ 4)
/-- does it count at this disk? -/
def cnt (y : St) (s : Sp) : Bool := !y.d && opB s && (!decide (s.k = 4) || (decide (0 ≤ s.n) && decide (s.n ≤ (y.b.length : Int))))
/-- the disk with other arms -/
def St.with (y : St) (a : List (Nat × Int)) : St := ⟨y.b, y.s, y.r, a, y.d⟩
theorem St.with_self (y : St) (a : List (Nat × Int)) (h : y.a = a) : y.with a = y := by unfold St.with; rw [← h]
/-- as if in that operation: an Append's bytes first -/
def St.cutAs (y : St) (s : Sp) (keep : Int) : St := if s.k = 1 then (y.put s.t.data.toList).fail keep else y.fail keep

theorem with_put (y : St) (a : List (Nat × Int)) (p : List UInt8) : (y.with a).put p = (y.put p).with a := by
  unfold St.put St.with St.fits
  split <;> rfl
theorem with_fits (y : St) (a : List (Nat × Int)) (p : List UInt8) : (y.with a).fits p = y.fits p := rfl
theorem with_fail (y : St) (a : List (Nat × Int)) (k : Int) : (y.with a).fail k = (y.fail k).with a := rfl
theorem with_sync (y : St) (a : List (Nat × Int)) : (y.with a).sync = (y.sync).with a := rfl
theorem with_cut (y : St) (a : List (Nat × Int)) (n : Nat) : (y.with a).cut n = (y.cut n).with a := rfl

/-- it dies -/
theorem step_dies (y : St) (s : Sp) (keep : Int) (ha : y.a = []) (hc : cnt y s = true) : (y.with [(0, keep)]).step s = (y.cutAs s keep, ⟨[], 0, 10⟩) := by
  unfold cnt opB at hc
  simp only [Bool.and_eq_true, Bool.not_eq_true', Bool.or_eq_true, decide_eq_true_eq, decide_eq_false_iff_not] at hc
  obtain ⟨⟨hd, h1, h4⟩, hn⟩ := hc
  have hw : ∀ (dying on : St → St) (err : Nat), (y.with [(0, keep)]).oper dying on err = ((dying ⟨y.b, y.s, y.r, [], false⟩).fail keep, 10) := fun dying on err => by
    unfold St.oper St.with
    rw [hd]
    rfl
  have hy : (⟨y.b, y.s, y.r, [], false⟩ : St) = y := by rw [← hd, ← ha]
  have hk : s.k = 1 ∨ s.k = 2 ∨ s.k = 3 ∨ s.k = 4 := by omega
  unfold St.step St.cutAs
  rcases hk with h | h | h | h
  · rw [if_pos h, if_pos h]
    unfold St.append
    rw [hw, hy]
  · rw [if_neg (by omega), if_pos h, if_neg (by omega)]
    unfold St.syncs
    rw [hw, hy]
    rfl
  · rw [if_neg (by omega), if_neg (by omega), if_pos h, if_neg (by omega)]
    unfold St.readL St.reads
    rw [hw, hy]
    rfl
  · rw [if_neg (by omega), if_neg (by omega), if_neg (by omega), if_pos h, if_neg (by omega)]
    have hc : (!(y.with [(0, keep)]).d && (decide (s.n < 0) || decide (((y.with [(0, keep)]).b.length : Int) < s.n))) = false := by
      show (!y.d && (decide (s.n < 0) || decide ((y.b.length : Int) < s.n))) = false
      rw [hd]
      rcases hn with hn | ⟨hn1, hn2⟩
      · exact absurd h hn
      · simp; omega
    unfold St.trunc
    rw [hc]
    simp only [Bool.false_eq_true, if_false]
    rw [hw, hy]
    rfl
/-- an operation that counts and goes on -/
theorem step_goes (y : St) (s : Sp) (n : Nat) (keep : Int) (ha : y.a = []) (hc : cnt y s = true) : (y.with [(n + 1, keep)]).step s = ((y.step s).1.with [(n, keep)], (y.step s).2) ∧ (y.step s).1.a = [] := by
  unfold cnt opB at hc
  simp only [Bool.and_eq_true, Bool.not_eq_true', Bool.or_eq_true, decide_eq_true_eq, decide_eq_false_iff_not] at hc
  obtain ⟨⟨hd, h1, h4⟩, hn⟩ := hc
  have hw : ∀ (dying on : St → St) (err : Nat), (y.with [(n + 1, keep)]).oper dying on err = (on (y.with [(n, keep)]), err) := fun dying on err => by
    unfold St.oper St.with
    rw [hd]
    rfl
  have hz : ∀ (dying on : St → St) (err : Nat), y.oper dying on err = (on y, err) := fun dying on err => by
    unfold St.oper
    rw [hd, ha]
    rfl
  have hk : s.k = 1 ∨ s.k = 2 ∨ s.k = 3 ∨ s.k = 4 := by omega
  unfold St.step
  rcases hk with h | h | h | h
  · rw [if_pos h, if_pos h]
    unfold St.append
    rw [hw, hz]
    exact ⟨by rw [with_put, with_fits], by rw [put_arms]; exact ha⟩
  · rw [if_neg (by omega), if_pos h, if_neg (by omega), if_pos h]
    unfold St.syncs
    rw [hw, hz]
    exact ⟨rfl, ha⟩
  · rw [if_neg (by omega), if_neg (by omega), if_pos h, if_neg (by omega), if_neg (by omega), if_pos h]
    unfold St.readL St.reads
    rw [hw, hz]
    exact ⟨rfl, ha⟩
  · rw [if_neg (by omega), if_neg (by omega), if_neg (by omega), if_pos h, if_neg (by omega), if_neg (by omega), if_neg (by omega), if_pos h]
    have hc : ∀ a, (!(y.with a).d && (decide (s.n < 0) || decide (((y.with a).b.length : Int) < s.n))) = false := fun a => by
      show (!y.d && (decide (s.n < 0) || decide ((y.b.length : Int) < s.n))) = false
      rw [hd]
      rcases hn with hn | ⟨hn1, hn2⟩
      · exact absurd h hn
      · simp; omega
    have hc0 := hc y.a
    rw [St.with_self y y.a rfl] at hc0
    unfold St.trunc
    rw [hc, hc0]
    simp only [Bool.false_eq_true, if_false]
    rw [hw, hz]
    exact ⟨rfl, ha⟩
/-- a step that does not count leaves the arms alone -/
theorem step_not (y : St) (s : Sp) (a : List (Nat × Int)) (hc : cnt y s = false) (h5 : s.k ≠ 5) : (y.with a).step s = ((y.step s).1.with a, (y.step s).2) ∧ (y.step s).1.a = y.a := by
  have hop : ∀ (dying on : St → St) (err : Nat), y.d = true → y.oper dying on err = (y, 10) ∧ (y.with a).oper dying on err = (y.with a, 10) := fun dying on err hd => by
    unfold St.oper St.with
    rw [hd]
    exact ⟨rfl, rfl⟩
  by_cases hk : 1 ≤ s.k ∧ s.k ≤ 4
  · have hdn : y.d = true ∨ (s.k = 4 ∧ y.d = false ∧ (s.n < 0 ∨ (y.b.length : Int) < s.n)) := by
      cases hd : y.d with
      | true => exact Or.inl rfl
      | false =>
        right
        unfold cnt opB at hc
        rw [hd] at hc
        simp [hk.1, hk.2] at hc
        exact ⟨hc.1, rfl, by omega⟩
    rcases hdn with hd | ⟨h4, hd, hn⟩
    · unfold St.step
      have hkk : s.k = 1 ∨ s.k = 2 ∨ s.k = 3 ∨ s.k = 4 := by omega
      rcases hkk with h | h | h | h
      · rw [if_pos h, if_pos h]
        unfold St.append
        rw [(hop _ _ _ hd).1, (hop _ _ _ hd).2]
        exact ⟨rfl, rfl⟩
      · rw [if_neg (by omega), if_pos h, if_neg (by omega), if_pos h]
        unfold St.syncs
        rw [(hop _ _ _ hd).1, (hop _ _ _ hd).2]
        exact ⟨rfl, rfl⟩
      · rw [if_neg (by omega), if_neg (by omega), if_pos h, if_neg (by omega), if_neg (by omega), if_pos h]
        unfold St.readL St.reads
        rw [(hop _ _ _ hd).1, (hop _ _ _ hd).2]
        exact ⟨rfl, rfl⟩
      · rw [if_neg (by omega), if_neg (by omega), if_neg (by omega), if_pos h, if_neg (by omega), if_neg (by omega), if_neg (by omega), if_pos h]
        have e1 : ∀ n, y.trunc n = (y, 10) := fun n => by unfold St.trunc; rw [hd]; simp only [Bool.not_true, Bool.false_and, Bool.false_eq_true, if_false]; exact (hop _ _ _ hd).1
        have e2 : ∀ n, (y.with a).trunc n = (y.with a, 10) := fun n => by
          unfold St.trunc
          rw [show (y.with a).d = true from hd]
          simp only [Bool.not_true, Bool.false_and, Bool.false_eq_true, if_false]
          exact (hop _ _ _ hd).2
        rw [e1, e2]
        exact ⟨rfl, rfl⟩
    · unfold St.step
      rw [if_neg (by omega), if_neg (by omega), if_neg (by omega), if_pos h4, if_neg (by omega), if_neg (by omega), if_neg (by omega), if_pos h4]
      have hb : (decide (s.n < 0) || decide ((y.b.length : Int) < s.n)) = true := by simpa using hn
      have e1 : y.trunc s.n = (y, 1) := by unfold St.trunc; rw [hd, hb]; rfl
      have e2 : (y.with a).trunc s.n = (y.with a, 1) := by
        unfold St.trunc
        rw [show (y.with a).d = false from hd, show (decide (s.n < 0) || decide (((y.with a).b.length : Int) < s.n)) = true from hb]
        rfl
      rw [e1, e2]
      exact ⟨rfl, rfl⟩
  · have hst : ∀ z : St, z.step s = if s.k = 6 then (z.crash s.n, ⟨[], 0, 0⟩) else if s.k = 7 then (z, ⟨[], z.deadN, 0⟩) else if s.k = 8 then (z.revive, ⟨[], 0, 0⟩) else if s.k = 9 then (z, ⟨z.b, z.s, 0⟩) else (z, ⟨[], 0, 0⟩) := fun z => by
      unfold St.step
      rw [if_neg (by omega), if_neg (by omega), if_neg (by omega), if_neg (by omega), if_neg h5]
    rw [hst, hst]
    by_cases h6 : s.k = 6
    · simp only [if_pos h6]
      unfold St.crash
      show (if y.d then y.with a else (y.with a).fail s.n, _) = _ ∧ _
      cases y.d <;> exact ⟨rfl, rfl⟩
    · by_cases h7 : s.k = 7
      · simp only [if_neg h6, if_pos h7]
        exact ⟨rfl, trivial⟩
      · by_cases h8 : s.k = 8
        · simp only [if_neg h6, if_neg h7, if_pos h8]
          exact ⟨rfl, rfl⟩
        · by_cases h9 : s.k = 9
          · simp only [if_neg h6, if_neg h7, if_neg h8, if_pos h9]
            exact ⟨rfl, trivial⟩
          · simp only [if_neg h6, if_neg h7, if_neg h8, if_neg h9]
            exact ⟨trivial, trivial⟩
/-- on the other disk by hand -/
theorem cut_as (y : St) (s : Sp) (keep : Int) (hd : y.d = false) (ha : y.a = []) : (s.k = 1 → y.fits s.t.data.toList = true → ((y.step s).1.crash keep = y.cutAs s keep ∧ (y.step s).2.e = 0)) ∧ ((s.k ≠ 1 ∨ y.fits s.t.data.toList = false) → y.crash keep = y.cutAs s keep) := by
  refine ⟨fun h1 hf => ?_, fun h => ?_⟩
  · have e : y.step s = (y.put s.t.data.toList, ⟨[], 0, 0⟩) := by
      unfold St.step St.append St.oper
      rw [if_pos h1, hd, ha, hf]
      rfl
    rw [e]
    unfold St.crash St.cutAs
    rw [put_dead, hd, if_pos h1]
    exact ⟨rfl, rfl⟩
  · unfold St.crash St.cutAs
    rw [hd]
    simp only [Bool.false_eq_true, if_false]
    split
    · rename_i h1
      rcases h with h | h
      · exact absurd h1 h
      · have : y.put s.t.data.toList = y := by unfold St.put; rw [h]; rfl
        rw [this]
    · rfl
end Go.Proofs.YtkibaedocieceaaDoor.dk
