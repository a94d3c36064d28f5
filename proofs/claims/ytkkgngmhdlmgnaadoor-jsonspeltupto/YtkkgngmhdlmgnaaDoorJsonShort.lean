import Derived.Test.YtkkgngmhdlmgnaaDoorJsonKit
namespace Go.Proofs.YtkkgngmhdlmgnaaDoor.jw
open Go.ChangeShapes Go.WideShapes Go.ChangeAt Go.RowKit Go.Proofs.YtkkgngmhdlmgnaaDoor.common
attribute [local go_sem ↓] Go.wp_at_zero Go.wp_at_succ

/-- the table of the short escapes -/
def sLet (i : Nat) : Nat := [34, 92, 47, 98, 102, 110, 114, 116].getD i 0
def sChr (i : Nat) : Nat := [34, 92, 47, 8, 12, 10, 13, 9].getD i 0
def Short (w : World) : Prop := ∀ i : Nat, i < 8 → w.cell? ⟨17, i * 2, none⟩ = some (.int .u8 (sLet i : Int)) ∧ w.cell? ⟨17, i * 2 + 1, none⟩ = some (.int .i32 (sChr i : Int))
theorem Short.lt {w : World} (h : Short w) : 17 < w.heap.size := World.block_lt_of_cell? w _ (h 0 (by decide)).1
theorem Short.under {w w' : World} {b : Nat} (h : Short w) (hb : Below b w w') (hB : 17 < b) : Short w' := fun i hi =>
  ⟨by rw [← (h i hi).1]; exact hb.cell hB, by rw [← (h i hi).2]; exact hb.cell hB⟩

set_option maxRecDepth 100000 in
set_option maxHeartbeats 800000 in
theorem shortLetter_any (d : Int) (w : World) (ht : Short w) :
    Calls Tryd.prog 77 #[.int .i32 d] w fun e w' => w' = w ∧ ((∃ j : Nat, j < 8 ∧ d = (sChr j : Int) ∧ e = .returned (.tuple #[.int .u8 (sLet j : Int), .bool true])) ∨ ((∀ j : Nat, j < 8 → d ≠ (sChr j : Int)) ∧ e = .returned (.tuple #[.int .u8 0, .bool false]))) := by
  have HT := hide ht
  clear ht
  go_enter Tryd.func77, Tryd.ntmps77
  go_wp2_with fail
  go_loopw [2, 3, 5] (fun r b i wr => ∃ k : Nat, r = .int .u8 0 ∧ b = .bool false ∧ k ≤ 8 ∧ i = .int .i64 k ∧ wr = w ∧ Hid (∀ j : Nat, j < k → d ≠ (sChr j : Int))) (fun _ _ i _ => 8 - (intOf i).toNat)
  case atStart => exact ⟨0, rfl, rfl, by omega, rfl, rfl, fun j hj => by omega⟩
  case round =>
    obtain ⟨k, rfl, rfl, hk, rfl, rfl, hno⟩ := hrel
    by_cases hlt : k < 8
    · have hki : (k : Int) < 8 := by omega
      obtain ⟨c1, c2⟩ := HT.out k hlt
      have z0 : (0 : Int) ≤ (k : Int) := by omega
      have hn : (k : Int).toNat = k := by omega
      by_cases he : (sChr k : Int) = d
      · obtain ⟨L, hL⟩ : ∃ L : Int, (sLet k : Int) = L := ⟨_, rfl⟩
        rw [hL] at c1
        rw [he] at c2
        go_wp2
        go_ret2
        refine ⟨rfl, Or.inl ⟨k, hlt, he.symm, ?_⟩⟩
        rw [hL]; rfl
      · obtain ⟨C, hC⟩ : ∃ C : Int, (sChr k : Int) = C := ⟨_, rfl⟩
        rw [hC] at c2 he
        have hb : (C == d) = false := by simpa using he
        go_wp2
        go_roundw
        case rel => exact ⟨k + 1, by first | rfl | trivial, by first | rfl | trivial, by omega, by go_num, by first | rfl | trivial, fun j hj => by
          by_cases hjk : j = k
          · subst hjk; rw [hC]; exact fun h => he h.symm
          · exact hno.out j (by omega)⟩
        case measure => simp [intOf] <;> omega
    · have hk8 : ¬ (k : Int) < 8 := by omega
      go_wp2
      go_ret2
      exact ⟨rfl, Or.inr ⟨fun j hj => hno.out j (by omega), rfl⟩⟩

set_option maxRecDepth 100000 in
set_option maxHeartbeats 800000 in
theorem shortMeaning_any (d : Int) (w : World) (ht : Short w) :
    Calls Tryd.prog 98 #[.int .u8 d] w fun e w' => w' = w ∧ ((∃ j : Nat, j < 8 ∧ d = (sLet j : Int) ∧ e = .returned (.tuple #[.int .i32 (sChr j : Int), .bool true])) ∨ ((∀ j : Nat, j < 8 → d ≠ (sLet j : Int)) ∧ e = .returned (.tuple #[.int .i32 0, .bool false]))) := by
  have HT := hide ht
  clear ht
  go_enter Tryd.func98, Tryd.ntmps98
  go_wp2_with fail
  go_loopw [2, 3, 5] (fun r b i wr => ∃ k : Nat, r = .int .i32 0 ∧ b = .bool false ∧ k ≤ 8 ∧ i = .int .i64 k ∧ wr = w ∧ Hid (∀ j : Nat, j < k → d ≠ (sLet j : Int))) (fun _ _ i _ => 8 - (intOf i).toNat)
  case atStart => exact ⟨0, rfl, rfl, by omega, rfl, rfl, fun j hj => by omega⟩
  case round =>
    obtain ⟨k, rfl, rfl, hk, rfl, rfl, hno⟩ := hrel
    by_cases hlt : k < 8
    · have hki : (k : Int) < 8 := by omega
      obtain ⟨c1, c2⟩ := HT.out k hlt
      have z0 : (0 : Int) ≤ (k : Int) := by omega
      have hn : (k : Int).toNat = k := by omega
      by_cases he : (sLet k : Int) = d
      · obtain ⟨L, hL⟩ : ∃ L : Int, (sChr k : Int) = L := ⟨_, rfl⟩
        rw [hL] at c2
        rw [he] at c1
        go_wp2
        go_ret2
        refine ⟨rfl, Or.inl ⟨k, hlt, he.symm, ?_⟩⟩
        rw [hL]; rfl
      · obtain ⟨C, hC⟩ : ∃ C : Int, (sLet k : Int) = C := ⟨_, rfl⟩
        rw [hC] at c1 he
        have hb : (C == d) = false := by simpa using he
        go_wp2
        go_roundw
        case rel => exact ⟨k + 1, by first | rfl | trivial, by first | rfl | trivial, by omega, by go_num, by first | rfl | trivial, fun j hj => by
          by_cases hjk : j = k
          · subst hjk; rw [hC]; exact fun h => he h.symm
          · exact hno.out j (by omega)⟩
        case measure => simp [intOf] <;> omega
    · have hk8 : ¬ (k : Int) < 8 := by omega
      go_wp2
      go_ret2
      exact ⟨rfl, Or.inr ⟨fun j hj => hno.out j (by omega), rfl⟩⟩
end Go.Proofs.YtkkgngmhdlmgnaaDoor.jw
