import Derived.Test.YtcpflfpgnbihiaaGreatDoorMFieldRef
import Derived.Test.YtcpflfpgnbihiaaGreatDoorMBfMath
import Derived.WalkMore
import Derived.ScopeJumps
import Derived.Laws.RangeAny
namespace Go.Proofs.YtcpflfpgnbihiaaGreatDoor.bf
open Go.ChangeShapes Go.WideShapes Go.ChangeAt Go.RowKit Go.Proofs.YtcpflfpgnbihiaaGreatDoor.common Go.Proofs.YtcpflfpgnbihiaaGreatDoor.bk Go.Proofs.YtcpflfpgnbihiaaGreatDoor.fd
attribute [local go_sem ↓] Go.wp_at_zero Go.wp_at_succ

/-- a letter or a digit -/
def alB (c : UInt8) : Bool := decide (65 ≤ c.toNat ∧ c.toNat ≤ 90 ∨ 97 ≤ c.toNat ∧ c.toNat ≤ 122 ∨ 48 ≤ c.toNat ∧ c.toNat ≤ 57)
def six : List UInt8 := [45, 46, 95, 126, 43, 47]
theorem tch_six (c : UInt8) : Bf.tch c = (alB c || six.contains c) := by
  have h : ∀ n : Fin 256, Bf.tch (UInt8.ofNat n.val) = (alB (UInt8.ofNat n.val) || six.contains (UInt8.ofNat n.val)) := by decide +kernel
  have := h ⟨c.toNat, c.toNat_lt⟩
  simpa using this
theorem tch_dec (c : UInt8) : (Bf.tch c = true ∧ (alB c = true ∨ c.toNat = 45 ∨ c.toNat = 46 ∨ c.toNat = 95 ∨ c.toNat = 126 ∨ c.toNat = 43 ∨ c.toNat = 47)) ∨ (Bf.tch c = false ∧ alB c = false ∧ ¬ (c.toNat = 45 ∨ c.toNat = 46 ∨ c.toNat = 95 ∨ c.toNat = 126 ∨ c.toNat = 43 ∨ c.toNat = 47)) := by
  unfold Bf.tch alB
  by_cases h : 65 ≤ c.toNat ∧ c.toNat ≤ 90 ∨ 97 ≤ c.toNat ∧ c.toNat ≤ 122 ∨ 48 ≤ c.toNat ∧ c.toNat ≤ 57
  · exact Or.inl ⟨decide_eq_true (by omega), Or.inl (decide_eq_true h)⟩
  · by_cases k : c.toNat = 45 ∨ c.toNat = 46 ∨ c.toNat = 95 ∨ c.toNat = 126 ∨ c.toNat = 43 ∨ c.toNat = 47
    · exact Or.inl ⟨decide_eq_true (by omega), Or.inr k⟩
    · exact Or.inr ⟨decide_eq_false (by omega), decide_eq_false h, k⟩
theorem idx_has (l : List UInt8) (c : UInt8) : (Lib.indexByte l c = -1 ∧ l.contains c = false) ∨ ((0 : Int) ≤ Lib.indexByte l c ∧ l.contains c = true) := by
  rcases index_cases c l with ⟨h1, h2⟩ | ⟨i, h1, h2, h3, h4⟩
  · refine Or.inl ⟨h1, ?_⟩
    cases h : l.contains c with
    | false => rfl
    | true => exact absurd rfl (h2 c (List.contains_iff_mem.1 h))
  · refine Or.inr ⟨by omega, List.contains_iff_mem.2 ?_⟩
    rw [h3]; simp

set_option maxHeartbeats 1600000 in
theorem alnum_any (c : UInt8) (w : World) : Calls Tryz.prog 31 #[B c] w fun e w' => e = .returned (.bool (alB c)) ∧ w' = w := by
  have HC0 := dec_cases (p := 65 ≤ c.toNat ∧ c.toNat ≤ 90 ∨ 97 ≤ c.toNat ∧ c.toNat ≤ 122 ∨ 48 ≤ c.toNat ∧ c.toNat ≤ 57) (t := alB c) rfl
  have HC := hide HC0
  clear HC0
  generalize alB c = t at *
  go_enter Tryz.func31, Tryz.ntmps31
  go_wp2
  all_goals (go_ret; refine ⟨?_, rfl⟩; rcases HC.out with ⟨h1, h2⟩ | ⟨h1, h2⟩)
  all_goals first
    | (exfalso; omega)
    | (rw [h1]; rfl)
    | (rw [h1]; simp; omega)

set_option maxHeartbeats 1600000 in
theorem letter_any (c : UInt8) (w : World) : Calls Tryz.prog 38 #[B c] w fun e w' => e = .returned (.bool (alB c)) ∧ w' = w := by
  have HC0 := dec_cases (p := 65 ≤ c.toNat ∧ c.toNat ≤ 90 ∨ 97 ≤ c.toNat ∧ c.toNat ≤ 122 ∨ 48 ≤ c.toNat ∧ c.toNat ≤ 57) (t := alB c) rfl
  have HC := hide HC0
  clear HC0
  generalize alB c = t at *
  go_enter Tryz.func38, Tryz.ntmps38
  go_wp2
  all_goals (go_ret; refine ⟨?_, rfl⟩; rcases HC.out with ⟨h1, h2⟩ | ⟨h1, h2⟩)
  all_goals first
    | (exfalso; omega)
    | (rw [h1]; rfl)
    | (rw [h1]; simp; omega)

theorem sIndexByte_any (s : ByteArray) (c : UInt8) (w : World) : Calls Tryz.prog 51 #[.string s, B c] w fun e w' => e = .returned (.int .i64 (Lib.indexByte s.data.toList c)) ∧ w' = w := by
  have H := hide (indexByte_any s c w)
  generalize Lib.indexByte s.data.toList c = I at *
  go_enter Tryz.func51, Tryz.ntmps51
  go_wp2_with fail
  refine H.out.mono ?_
  rintro e w' ⟨rfl, rfl⟩
  go_wp2_with fail
  go_ret
  exact ⟨rfl, rfl⟩

theorem among_any (s : ByteArray) (c : UInt8) (w : World) : Calls Tryz.prog 32 #[.string s, B c] w fun e w' => e = .returned (.bool (s.data.toList.contains c)) ∧ w' = w := by
  have H := hide (sIndexByte_any s c w)
  have HC := hide (idx_has s.data.toList c)
  generalize Lib.indexByte s.data.toList c = I at *
  generalize s.data.toList.contains c = t at *
  go_enter Tryz.func32, Tryz.ntmps32
  go_wp2_with fail
  refine H.out.mono ?_
  rintro e w' ⟨rfl, rfl⟩
  rcases HC.out with ⟨h1, h2⟩ | ⟨h1, h2⟩
  · subst h1 h2
    go_wp2_with fail
    go_ret
    exact ⟨by simp, rfl⟩
  · subst h2
    have hd : decide ((0 : Int) ≤ I) = true := decide_eq_true h1
    go_wp2_with fail
    go_ret
    exact ⟨by simp, rfl⟩

set_option maxHeartbeats 1600000 in
theorem bTokenByte_any (c : UInt8) (w : World) : Calls Tryz.prog 30 #[B c] w fun e w' => e = .returned (.bool (Fd.tok c)) ∧ w' = w := by
  have HT : Hid (Fd.tok c = (alB c || Fd.marks.contains c)) := marks_tok c
  have HA := hide (fun W => alnum_any c W)
  have HS0 := fun W => among_any ⟨#[33, 35, 36, 37, 38, 39, 42, 43, 45, 46, 94, 95, 124, 126, 96]⟩ c W
  change ∀ W, Calls _ _ _ _ fun e w' => e = .returned (.bool (Fd.marks.contains c)) ∧ w' = W at HS0
  have HS := hide HS0
  clear HS0
  generalize Fd.tok c = t at *
  generalize Fd.marks.contains c = u at *
  generalize alB c = a at *
  cases a
  all_goals
    go_enter Tryz.func30, Tryz.ntmps30
    go_wp2_with (first
      | (go_at_call 31; refine (HA.out _).mono ?_; rintro x w' ⟨rfl, rfl⟩)
      | (go_at_call 32; refine (HS.out _).mono ?_; rintro x w' ⟨rfl, rfl⟩))
    go_ret
    exact ⟨by rw [HT.out]; simp, rfl⟩

end Go.Proofs.YtcpflfpgnbihiaaGreatDoor.bf

namespace Go.Proofs.YtcpflfpgnbihiaaGreatDoor.bf
open Go.ChangeShapes Go.WideShapes Go.ChangeAt Go.RowKit Go.Proofs.YtcpflfpgnbihiaaGreatDoor.common Go.Proofs.YtcpflfpgnbihiaaGreatDoor.bk Go.Proofs.YtcpflfpgnbihiaaGreatDoor.fd
attribute [local go_sem ↓] Go.wp_at_zero Go.wp_at_succ

/-- the other form of a letter -/
def oth (r : Nat) : Nat := if r < 97 then r + 32 else r - 32
/-- the four letters of the scheme's name, in both forms -/
def isL (r : Nat) : Prop := r = 66 ∨ r = 98 ∨ r = 69 ∨ r = 101 ∨ r = 65 ∨ r = 97 ∨ r = 82 ∨ r = 114
def FoldT (w : World) : Prop := ∀ r, isL r → w.cell? ⟨13, r, none⟩ = some (.int .u16 (oth r : Int))
theorem FoldT.fr {w w' : World} (h : FoldT w) (hb : Below w.heap.size w w') : FoldT w' := fun r hr => (hb.cell (World.block_lt_of_cell? _ _ (h r hr))).trans (h r hr)
theorem isL_facts {r : Nat} (h : isL r) : 65 ≤ r ∧ r < 128 ∧ isL (oth r) ∧ oth (oth r) = r ∧ oth r ≠ r := by
  rcases h with rfl | rfl | rfl | rfl | rfl | rfl | rfl | rfl <;> (unfold isL; decide)
theorem wr32 (q : Nat) (h : q < 128) : IntKind.i32.wrap (q : Int) = (q : Int) ∧ wrap32 (q : Int) = (q : Int) := by
  constructor
  · have hm : (q : Int) % 4294967296 = q := by omega
    unfold IntKind.wrap
    simp only [IntKind.bits, IntKind.signed, Int.reducePow, Nat.reduceSub, hm]
    rw [if_neg (by simp; omega)]
  · unfold wrap32; omega

set_option maxRecDepth 100000 in
set_option maxHeartbeats 800000 in
theorem simple_any (r : Nat) (hr : isL r) (w : World) (hT : FoldT w) : Calls Tryz.prog 45 #[.int .i32 (r : Int)] w fun e w' => e = .returned (.int .i32 (oth r : Int)) ∧ Below w.heap.size w w' := by
  obtain ⟨h1, h2, h3, _, _⟩ := isL_facts hr
  obtain ⟨_, k2, _, _, _⟩ := isL_facts h3
  have hc := hT r hr
  obtain ⟨x1, x2⟩ := wr32 (oth r) k2
  have d1 : ¬ (r : Int) < 0 := by omega
  have d2 : ¬ (1114111 : Int) < (r : Int) := by omega
  have d3 : (r : Int) < 128 := by omega
  have d4 : (0 : Int) ≤ (r : Int) := by omega
  have d5 : decide ((r : Int) < 0) = false := decide_eq_false d1
  have d6 : decide ((1114111 : Int) < (r : Int)) = false := decide_eq_false d2
  clear hT hr h1 h2 h3 k2
  generalize oth r = q at *
  go_enter Tryz.func45, Tryz.ntmps45
  go_wp2_with fail
  go_ret
  exact ⟨rfl, Below.refl _ _⟩

set_option maxRecDepth 100000 in
set_option maxHeartbeats 800000 in
theorem decode1_any (t : ByteArray) (h0 : 0 < t.size) (h1 : t[0].toNat < 128) (w : World) : Calls Tryz.prog 44 #[.string t] w fun e w' => e = .returned (.tuple #[.int .i32 (t[0].toNat : Int), .int .i64 1]) ∧ w' = w := by
  have hne : t ≠ ⟨#[]⟩ := fun e => by subst e; exact Nat.lt_irrefl 0 h0
  have n2 : ¬ t.toList = [] := fun e => hne (ba_ext (by rw [ByteArray.toList_eq] at e; rw [e]))
  have n1 : (t.toList == []) = false := beq_false_of_ne n2
  have n3 : t.toList.isEmpty = false := by cases hh : t.toList with
    | nil => exact absurd hh n2
    | cons _ _ => rfl
  have h2 : (t[0].toNat : Int) < 128 := by omega
  have h3 : (0 : Int) < (t.size : Int) := by omega
  obtain ⟨x1, x2⟩ := wr32 t[0].toNat h1
  clear hne
  go_enter Tryz.func44, Tryz.ntmps44
  go_wp2_with fail
  go_ret2
  exact ⟨rfl, rfl⟩
end Go.Proofs.YtcpflfpgnbihiaaGreatDoor.bf
