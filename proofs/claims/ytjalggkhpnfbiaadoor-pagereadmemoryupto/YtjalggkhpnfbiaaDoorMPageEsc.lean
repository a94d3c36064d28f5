import Derived.Test.YtjalggkhpnfbiaaDoorMPageBuild
namespace Go.Proofs.YtjalggkhpnfbiaaDoor.pg
open Go.ChangeShapes Go.WideShapes Go.ChangeAt Go.RowKit Go.Proofs.YtjalggkhpnfbiaaDoor.common
attribute [local go_sem ↓] Go.wp_at_zero Go.wp_at_succ

/-- the table of the escapes -/
def tC (i : Nat) : UInt8 := (Pg.tab.getD i (0, [])).1
def tS (i : Nat) : List UInt8 := (Pg.tab.getD i (0, [])).2
def Esc (w : World) : Prop := ∀ i : Nat, i < 5 → w.cell? ⟨4, i * 2, none⟩ = some (B (tC i)) ∧ w.cell? ⟨4, i * 2 + 1, none⟩ = some (S (tS i))
theorem Esc.lt {w : World} (h : Esc w) : 4 < w.heap.size := World.block_lt_of_cell? w _ (h 0 (by decide)).1
theorem Esc.under {w w' : World} {b : Nat} (h : Esc w) (hb : Below b w w') (hB : 4 < b) : Esc w' := fun i hi =>
  ⟨by rw [← (h i hi).1]; exact hb.cell hB, by rw [← (h i hi).2]; exact hb.cell hB⟩
theorem Esc.next {w w' : World} (h : Esc w) (hb : Below w.heap.size w w') : Esc w' := h.under hb h.lt

theorem tab_wr : ∀ i, i < 5 → tS i = Pg.wr (tC i) := by decide
theorem no_wr (c : UInt8) (h : ∀ j : Nat, j < 5 → tC j ≠ c) : Pg.wr c = [] := by
  rcases Pg.wr_cases c with h0 | rfl | rfl | rfl | rfl | rfl
  · exact h0.1
  · exact absurd rfl (h 0 (by decide))
  · exact absurd rfl (h 1 (by decide))
  · exact absurd rfl (h 2 (by decide))
  · exact absurd rfl (h 3 (by decide))
  · exact absurd rfl (h 4 (by decide))

set_option maxRecDepth 100000 in
set_option maxHeartbeats 800000 in
theorem escapeOf_at (c : UInt8) (D : Int) (hd : (c.toNat : Int) = D) (w : World) (ht : Esc w) :
    Calls Tryd.prog 58 #[.int .u8 D] w fun e w' => w' = w ∧ e = .returned (S (Pg.wr c)) := by
  have HT := hide ht
  have hD := hide hd
  clear ht hd
  go_enter Tryd.func58, Tryd.ntmps58
  go_wp2_with fail
  go_loopw [2, 4] (fun r i wr => ∃ k : Nat, r = .string ⟨#[]⟩ ∧ k ≤ 5 ∧ i = .int .i64 k ∧ wr = w ∧ Hid (∀ j : Nat, j < k → tC j ≠ c)) (fun _ i _ => 5 - (intOf i).toNat)
  case atStart => exact ⟨0, rfl, by omega, rfl, rfl, fun j hj => by omega⟩
  case round =>
    obtain ⟨k, rfl, hk, rfl, rfl, hno⟩ := hrel
    by_cases hlt : k < 5
    · have hki : (k : Int) < 5 := by omega
      obtain ⟨c1, c2⟩ := HT.out k hlt
      have z0 : (0 : Int) ≤ (k : Int) := by omega
      have hn : (k : Int).toNat = k := by omega
      have HW := hide (tab_wr k hlt)
      obtain ⟨C, hC⟩ : ∃ C : Int, ((tC k).toNat : Int) = C := ⟨_, rfl⟩
      unfold B at c1
      rw [hC] at c1
      by_cases he : C = D
      · obtain ⟨L, hL⟩ : ∃ L : ByteArray, (⟨(tS k).toArray⟩ : ByteArray) = L := ⟨_, rfl⟩
        unfold S at c2
        rw [hL] at c2
        have hce : Hid (tC k = c) := by
          show _ = _
          apply UInt8.toNat_inj.1
          have := hD.out
          omega
        have HL := hide hL
        clear hL
        subst he
        clear hC
        go_wp2
        go_ret
        refine ⟨rfl, ?_⟩
        rw [← HL.out, HW.out, hce.out]; rfl
      · have hb : (C == D) = false := by simpa using he
        have hce : Hid (tC k ≠ c) := fun h => he (by rw [← hC, ← hD.out, h])
        clear hC
        go_wp2
        go_roundw
        case rel => exact ⟨k + 1, by first | rfl | trivial, by omega, by go_num, by first | rfl | trivial, fun j hj => by
          by_cases hjk : j = k
          · subst hjk; exact hce.out
          · exact hno.out j (by omega)⟩
        case measure => simp [intOf] <;> omega
    · have hk8 : ¬ (k : Int) < 5 := by omega
      go_wp2
      go_ret
      refine ⟨rfl, ?_⟩
      rw [no_wr c (fun j hj => hno.out j (by omega))]; rfl

theorem escapeOf_any (c : UInt8) (w : World) (ht : Esc w) :
    Calls Tryd.prog 58 #[B c] w fun e w' => w' = w ∧ e = .returned (S (Pg.wr c)) := escapeOf_at c _ rfl w ht

theorem ext_list (s : ByteArray) (a b : Nat) : (s.extract a b).data.toList = (s.data.toList.drop a).take (b - a) := by
  rw [ByteArray.data_extract, Array.toList_extract, List.extract_eq_take_drop]
theorem pre_take (p l : List UInt8) : p.isPrefixOf l = decide (l.take p.length = p) := by
  by_cases h : l.take p.length = p
  · rw [decide_eq_true h]
    exact List.isPrefixOf_iff_prefix.2 ⟨l.drop p.length, by conv => lhs; arg 1; rw [← h]
                                                            exact List.take_append_drop _ _⟩
  · rw [decide_eq_false h]
    apply Bool.eq_false_iff.2
    intro h2
    obtain ⟨t, ht⟩ := List.isPrefixOf_iff_prefix.1 h2
    apply h
    rw [← ht]; simp
theorem pre_short (p l : List UInt8) (h : l.length < p.length) : p.isPrefixOf l = false := by
  rw [pre_take]
  apply decide_eq_false
  intro e
  have := congrArg List.length e
  rw [List.length_take] at this
  omega

set_option maxRecDepth 100000 in
set_option maxHeartbeats 400000 in
theorem slite_any (s p : ByteArray) (w : World) :
    Calls Tryd.prog 71 #[.string s, .string p] w fun e w' => e = .returned (.bool (p.data.toList.isPrefixOf s.data.toList)) ∧ w' = w := by
  by_cases hle : p.size ≤ s.size
  · have h2 : (p.size : Int) ≤ (s.size : Int) := by omega
    have hx := ext_list s 0 p.size
    rw [Nat.sub_zero, List.drop_zero] at hx
    have HX := hide hx
    have z0 : (0 : Int) ≤ (p.size : Int) := by omega
    clear hx
    go_enter Tryd.func71, Tryd.ntmps71
    go_wp2
    go_ret
    refine ⟨?_, rfl⟩
    rw [pre_take, len_list, ← HX.out]
    by_cases he : s.extract 0 p.size = p
    · rw [decide_eq_true (by rw [he])]; simp [he]
    · rw [decide_eq_false (fun h => he (ByteArray.ext (Array.toList_inj.1 h)))]
      have hb : ((s.extract 0 p.size).toList == p.toList) = false := beq_false_of_ne (fun h => he (ByteArray.ext (Array.toList_inj.1 (by rw [← ByteArray.toList_eq, ← ByteArray.toList_eq]; exact h))))
      show Ending.returned (Value.bool ((s.extract 0 p.size).toList == p.toList)) = _
      rw [hb]
  · have h2 : ¬ (p.size : Int) ≤ (s.size : Int) := by omega
    have h2d : decide ((p.size : Int) ≤ (s.size : Int)) = false := decide_eq_false h2
    rw [pre_short _ _ (by rw [len_list, len_list]; omega)]
    go_enter Tryd.func71, Tryd.ntmps71
    go_wp2
    go_ret
    exact ⟨rfl, rfl⟩
theorem hasPrefix_any (s p : ByteArray) (w : World) :
    Calls Tryd.prog 79 #[.string s, .string p] w fun e w' => e = .returned (.bool (p.data.toList.isPrefixOf s.data.toList)) ∧ w' = w := by
  generalize hp : p.data.toList.isPrefixOf s.data.toList = b
  have HC := hide (fun W => slite_any s p W)
  rw [hp] at HC
  clear hp
  go_enter Tryd.func79, Tryd.ntmps79
  go_wp2_with (go_at_call 71; refine (HC.out _).mono ?_; rintro e w' ⟨rfl, rfl⟩)
  go_ret
  exact ⟨rfl, rfl⟩

end Go.Proofs.YtjalggkhpnfbiaaDoor.pg
