import Derived.Test.YtjalggkhpnfbiaaDoorBPageKit
namespace Go.Proofs.YtjalggkhpnfbiaaDoor.pg
open Go.ChangeShapes Go.WideShapes Go.ChangeAt Go.RowKit Go.Proofs.YtjalggkhpnfbiaaDoor.common

theorem Bd.put {w : World} {b : Nat} {T : TypeId} {xs : List Value} {l : List UInt8} {v v' : Value} (hk : Kind T xs) (hb : w.heap[b]? = some (.cells ⟨ptr b :: v :: xs⟩ T (0, 0))) (hown : w.ownsRow b 5 1 v' l.length (l.map B)) (hl : l ≠ []) : Bd (w.setCell ⟨b, 1, none⟩ v') b T xs l := by
  have hne := Lib.ownBlock_ne hown hb hk.ne
  exact ⟨hk, ptr b, v', Or.inr rfl, by rw [set_block hb 1]; rfl, own_set hown hne 1 _, hne, fun h => absurd h hl⟩

set_option maxHeartbeats 2000000 in
set_option maxRecDepth 100000 in
theorem writeByte_any (b : Nat) (w : World) (T : TypeId) (xs : List Value) (l : List UInt8) (c : UInt8) (h : Bd w b T xs l) (hl : l.length + 1 ≤ 140737488355328) :
    Calls Tryd.prog 59 #[ptr b, B c] w fun e w' => e = .returned .nilIface ∧ Bd w' b T xs (l ++ [c]) ∧ Fr b w w' := by
  obtain ⟨i0, hi, hz0, hz1, hz2⟩ := info_parts info8
  have HH := hide h
  have hlt0 := hide h.lt
  clear h
  go_enter Tryd.func59, Tryd.ntmps59
  go_wp2_with fail
  refine (copy_any b w T xs l HH.out).mono ?_
  rintro e w1 ⟨rfl, hf, v, hbk, hown, hne⟩
  have c0 : w1.cell? ⟨b, 0, none⟩ = some (ptr b) := by rw [Lib.cell_of_heap hbk]; rfl
  have c1 : w1.cell? ⟨b, 1, none⟩ = some v := by rw [Lib.cell_of_heap hbk]; rfl
  have hlt : b < w1.heap.size := (Array.getElem?_eq_some_iff.1 hbk).1
  go_wp2_with (at_builtin; refine wpList_append_own _ rfl _ _ 52 rfl b 5 i0 (.int .u8 0) 1 1 Tryd.underlying52 hi hz0 hz1 hz2 rfl (by decide) _ _ _ rfl (hown.alloc _) ⟨w1.heap.size, 0, none⟩ 1 1 [B c] rfl rfl ?c1 ?c2 ?c3 ?c4 ?c5 ?_)
  case c1 =>
    intro j u hj
    match j, hj with
    | 0, hj => simp at hj; subst hj; simp [Addr.add]
  case c2 => intro u hu; simp at hu; subst hu; rfl
  case c3 => unfold maxLen; omega
  case c4 => omega
  case c5 => simp; omega
  intro v' w2 hown' hgrow _
  have hb2 : w2.heap[b]? = some (.cells ⟨ptr b :: v :: xs⟩ T (0, 0)) := by
    rw [hgrow.block b (by simp; omega) (fun e => hne e.symm), Lib.alloc_old w1 _ b hlt]
    exact hbk
  have d0 : w2.cell? ⟨b, 0, none⟩ = some (ptr b) := by rw [Lib.cell_of_heap hb2]; rfl
  have d1 : w2.cell? ⟨b, 1, none⟩ = some v := by rw [Lib.cell_of_heap hb2]; rfl
  have f1 : w2.frozen? ⟨b, 1, none⟩ = false := Lib.frozen_of_heap hb2 1
  obtain ⟨g, cap, rfl⟩ : ∃ g cap, v' = .slice (some ⟨g, 0, none⟩) (l.length + 1) cap := by
    rcases hown'.2 with ⟨_, h0⟩ | ⟨g, cap, cur, hv, _⟩
    · omega
    · exact ⟨g, cap, hv⟩
  go_wp2
  go_ret
  refine ⟨rfl, Bd.put HH.out.kind hb2 (by simpa using hown') (by simp), ?_, ?_⟩
  · exact ((hf.below.alloc (by omega) _).grown hgrow (by simp; omega) (fun k hk => (hown.lt k hk).1)).setCell (p := ⟨b, 1, none⟩) (Nat.le_refl _) _
  · exact ((hf.others.alloc _).grown hgrow (own_kind (hown.alloc _))).setCell ⟨b, 1, none⟩ rfl _

theorem strCells_is (s : ByteArray) : Lib.strCells s = s.data.toList.map B := rfl

set_option maxHeartbeats 2000000 in
set_option maxRecDepth 100000 in
theorem writeString_any (b : Nat) (w : World) (T : TypeId) (xs : List Value) (l : List UInt8) (s : ByteArray) (h : Bd w b T xs l) (h0 : 0 < s.size) (hl : l.length + s.size ≤ 140737488355328) :
    Calls Tryd.prog 37 #[ptr b, .string s] w fun e w' => e = .returned (.tuple #[.int .i64 s.size, .nilIface]) ∧ Bd w' b T xs (l ++ s.data.toList) ∧ Fr b w w' := by
  obtain ⟨i0, hi, hz0, hz1, hz2⟩ := info_parts info8
  have HH := hide h
  have hlt0 := hide h.lt
  clear h
  go_enter Tryd.func37, Tryd.ntmps37
  go_wp2_with fail
  refine (copy_any b w T xs l HH.out).mono ?_
  rintro e w1 ⟨rfl, hf, v, hbk, hown, hne⟩
  have c0 : w1.cell? ⟨b, 0, none⟩ = some (ptr b) := by rw [Lib.cell_of_heap hbk]; rfl
  have c1 : w1.cell? ⟨b, 1, none⟩ = some v := by rw [Lib.cell_of_heap hbk]; rfl
  have hlt : b < w1.heap.size := (Array.getElem?_eq_some_iff.1 hbk).1
  go_wp2_with (at_builtin; refine Lib.wpList_append_own_string _ rfl _ _ 52 9 rfl b 5 i0 Tryd.underlying52 Tryd.underlying9 hi hz0 hz1 hz2 _ _ _ rfl hown s rfl ?c3 ?c4 ?c5 ?_)
  case c3 => unfold maxLen; omega
  case c4 => omega
  case c5 => omega
  intro v' w2 hown' hgrow _
  have hb2 : w2.heap[b]? = some (.cells ⟨ptr b :: v :: xs⟩ T (0, 0)) := by
    rw [hgrow.block b hlt (fun e => hne e.symm)]
    exact hbk
  have d0 : w2.cell? ⟨b, 0, none⟩ = some (ptr b) := by rw [Lib.cell_of_heap hb2]; rfl
  have d1 : w2.cell? ⟨b, 1, none⟩ = some v := by rw [Lib.cell_of_heap hb2]; rfl
  have f1 : w2.frozen? ⟨b, 1, none⟩ = false := Lib.frozen_of_heap hb2 1
  obtain ⟨ao, n', cap, rfl⟩ : ∃ ao n' cap, v' = .slice ao n' cap := by
    rcases hown'.2 with ⟨hv, _⟩ | ⟨g, cap, cur, hv, _⟩
    · exact ⟨_, _, _, hv⟩
    · exact ⟨_, _, _, hv⟩
  go_wp2
  go_ret2
  have hne2 : l ++ s.data.toList ≠ [] := by
    intro e
    have := congrArg List.length e
    rw [List.length_append, len_list, List.length_nil] at this
    omega
  refine ⟨rfl, Bd.put HH.out.kind hb2 (by rw [List.length_append, len_list, List.map_append, ← strCells_is]; exact hown') hne2, ?_, ?_⟩
  · exact (hf.below.grown hgrow (by omega) (fun k hk => (hown.lt k hk).1)).setCell (p := ⟨b, 1, none⟩) (Nat.le_refl _) _
  · exact (hf.others.grown hgrow (own_kind hown)).setCell ⟨b, 1, none⟩ rfl _

theorem cells_b : Tryd.prog.cellsOf 5 = 1 := by kernel_rfl

set_option maxHeartbeats 2000000 in
set_option maxRecDepth 100000 in
theorem string_any (b : Nat) (w : World) (T : TypeId) (xs : List Value) (l : List UInt8) (h : Bd w b T xs l) :
    Calls Tryd.prog 17 #[ptr b] w fun e w' => e = .returned (S l) ∧ Below b w w' := by
  obtain ⟨p, v, hp, hbk, hown, hne, hnil⟩ := h.is
  clear h
  have mixed : Tryd.prog.follows Departure.mixedOrders = true := by kernel_rfl
  by_cases h0 : l = []
  · subst h0
    obtain rfl := hnil rfl
    have c1 : w.drew.cell? ⟨b, 1, none⟩ = some (.slice none 0 0) := by
      have : w.drew.heap[b]? = some (.cells ⟨p :: .slice none 0 0 :: xs⟩ T (0, 0)) := hbk
      rw [Lib.cell_of_heap this]; rfl
    have hSD : (Builtin.unsafeSliceData_ #[52] 83 #[.slice none 0 0]).run Tryd.prog w.drew = .ok (.pointer none) w.drew := rfl
    have hUS : (Builtin.unsafeString_ #[83, 3] 9 #[.pointer none, .int .i64 0]).run Tryd.prog w.drew = .ok (.string .empty) w.drew := by rfl
    clear hbk hown hne hnil hp
    go_enter Tryd.func17, Tryd.ntmps17
    go_wp2
    go_region_o
    all_goals (go_wp2; go_ret; exact ⟨rfl, Below.drew (Below.refl b w)⟩)
  · have hl0 : l.length ≠ 0 := by simpa using h0
    obtain ⟨g, cap, cur, rfl, hbg, hg, hnc, hcm, hcs, htake⟩ : ∃ g cap cur, v = .slice (some ⟨g, 0, none⟩) l.length cap ∧ b ≤ g ∧ w.heap[g]? = some (.cells cur 5 (0, 0)) ∧ l.length ≤ cap ∧ cap ≤ maxLen ∧ cur.size = cap * 1 ∧ cur.toList.take (l.length * 1) = l.map B := by
      rcases hown.2 with ⟨_, hz⟩ | ⟨g, cap, cur, hv, r⟩
      · exact absurd hz hl0
      · exact ⟨g, cap, cur, hv, r⟩
    have c1 : w.drew.cell? ⟨b, 1, none⟩ = some (.slice (some ⟨g, 0, none⟩) l.length cap) := by
      have : w.drew.heap[b]? = some (.cells ⟨p :: .slice (some ⟨g, 0, none⟩) l.length cap :: xs⟩ T (0, 0)) := hbk
      rw [Lib.cell_of_heap this]; rfl
    have hSD : (Builtin.unsafeSliceData_ #[52] 83 #[.slice (some ⟨g, 0, none⟩) l.length cap]).run Tryd.prog w.drew = .ok (.pointer (some ⟨g, 0, none⟩)) w.drew :=
      Lib.run_unsafeSliceData_row _ _ _ _ _ _ (by omega)
    have hUS : (Builtin.unsafeString_ #[83, 3] 9 #[.pointer (some ⟨g, 0, none⟩), .int .i64 l.length]).run Tryd.prog w.drew = .ok (S l) (w.drew.freeze ⟨g, 0, none⟩ l.length) := by
      refine Lib.run_unsafeString_row w.drew 83 3 9 5 Tryd.underlying83 cells_b g cur.size (by have hg' : w.drew.heap[g]? = some (.cells cur 5 (0, 0)) := hg; simp [World.shape?, hg']) l h0 (by omega) (by unfold maxLen at hcm; omega) ?_
      intro j x hx
      have := hown.cells (g := g) rfl j (.int .u8 x.toNat) (by simp [hx])
      exact this
    clear hown hne hnil hp htake hbk
    have HG := hide hbg
    go_enter Tryd.func17, Tryd.ntmps17
    go_wp2
    go_region_o
    all_goals (go_wp2; go_ret; exact ⟨rfl, Lib.below_freeze (Below.drew (Below.refl b w)) (p := ⟨g, 0, none⟩) HG.out _⟩)

end Go.Proofs.YtjalggkhpnfbiaaDoor.pg

namespace Go.Proofs.YtjalggkhpnfbiaaDoor.pg
open Go.ChangeShapes Go.WideShapes Go.ChangeAt Go.RowKit Go.Proofs.YtjalggkhpnfbiaaDoor.common
attribute [local go_sem ↓] Go.wp_at_zero Go.wp_at_succ

/-- the table of the escapes -/
def tC (i : Nat) : UInt8 := (Pg.tab.getD i (0, [])).1
def tS (i : Nat) : List UInt8 := (Pg.tab.getD i (0, [])).2
def Esc (w : World) : Prop := ∀ i : Nat, i < 5 → w.cell? ⟨4, i * 2, none⟩ = some (B (tC i)) ∧ w.cell? ⟨4, i * 2 + 1, none⟩ = some (S (tS i))
theorem Esc.lt {w : World} (h : Esc w) : 4 < w.heap.size := World.block_lt_of_cell? w _ (h 0 (by decide)).1
theorem Esc.under {w w' : World} {b : Nat} (h : Esc w) (hb : Below b w w') (hB : 4 < b) : Esc w' := fun i hi =>
  ⟨by rw [← (h i hi).1]; exact hb.cell hB, by rw [← (h i hi).2]; exact hb.cell hB⟩
theorem Esc.next {w w' : World} (h : Esc w) (hb : Below w.heap.size w w') : Esc w' := h.under hb h.lt

theorem tab_wr : ∀ i, i < 5 → tS i = Pg.wr (tC i) := by decide
theorem no_wr (c : UInt8) (h : ∀ j : Nat, j < 5 → tC j ≠ c) : Pg.wr c = [] := by
  rcases Pg.wr_cases c with h0 | rfl | rfl | rfl | rfl | rfl
  · exact h0.1
  · exact absurd rfl (h 0 (by decide))
  · exact absurd rfl (h 1 (by decide))
  · exact absurd rfl (h 2 (by decide))
  · exact absurd rfl (h 3 (by decide))
  · exact absurd rfl (h 4 (by decide))

set_option maxRecDepth 100000 in
set_option maxHeartbeats 800000 in
theorem escapeOf_at (c : UInt8) (D : Int) (hd : (c.toNat : Int) = D) (w : World) (ht : Esc w) :
    Calls Tryd.prog 58 #[.int .u8 D] w fun e w' => w' = w ∧ e = .returned (S (Pg.wr c)) := by
  have HT := hide ht
  have hD := hide hd
  clear ht hd
  go_enter Tryd.func58, Tryd.ntmps58
  go_wp2_with fail
  go_loopw [2, 4] (fun r i wr => ∃ k : Nat, r = .string ⟨#[]⟩ ∧ k ≤ 5 ∧ i = .int .i64 k ∧ wr = w ∧ Hid (∀ j : Nat, j < k → tC j ≠ c)) (fun _ i _ => 5 - (intOf i).toNat)
  case atStart => exact ⟨0, rfl, by omega, rfl, rfl, fun j hj => by omega⟩
  case round =>
    obtain ⟨k, rfl, hk, rfl, rfl, hno⟩ := hrel
    by_cases hlt : k < 5
    · have hki : (k : Int) < 5 := by omega
      obtain ⟨c1, c2⟩ := HT.out k hlt
      have z0 : (0 : Int) ≤ (k : Int) := by omega
      have hn : (k : Int).toNat = k := by omega
      have HW := hide (tab_wr k hlt)
      obtain ⟨C, hC⟩ : ∃ C : Int, ((tC k).toNat : Int) = C := ⟨_, rfl⟩
      unfold B at c1
      rw [hC] at c1
      by_cases he : C = D
      · obtain ⟨L, hL⟩ : ∃ L : ByteArray, (⟨(tS k).toArray⟩ : ByteArray) = L := ⟨_, rfl⟩
        unfold S at c2
        rw [hL] at c2
        have hce : Hid (tC k = c) := by
          show _ = _
          apply UInt8.toNat_inj.1
          have := hD.out
          omega
        have HL := hide hL
        clear hL
        subst he
        clear hC
        go_wp2
        go_ret
        refine ⟨rfl, ?_⟩
        rw [← HL.out, HW.out, hce.out]; rfl
      · have hb : (C == D) = false := by simpa using he
        have hce : Hid (tC k ≠ c) := fun h => he (by rw [← hC, ← hD.out, h])
        clear hC
        go_wp2
        go_roundw
        case rel => exact ⟨k + 1, by first | rfl | trivial, by omega, by go_num, by first | rfl | trivial, fun j hj => by
          by_cases hjk : j = k
          · subst hjk; exact hce.out
          · exact hno.out j (by omega)⟩
        case measure => simp [intOf] <;> omega
    · have hk8 : ¬ (k : Int) < 5 := by omega
      go_wp2
      go_ret
      refine ⟨rfl, ?_⟩
      rw [no_wr c (fun j hj => hno.out j (by omega))]; rfl

theorem escapeOf_any (c : UInt8) (w : World) (ht : Esc w) :
    Calls Tryd.prog 58 #[B c] w fun e w' => w' = w ∧ e = .returned (S (Pg.wr c)) := escapeOf_at c _ rfl w ht

theorem ext_list (s : ByteArray) (a b : Nat) : (s.extract a b).data.toList = (s.data.toList.drop a).take (b - a) := by
  rw [ByteArray.data_extract, Array.toList_extract, List.extract_eq_take_drop]
theorem pre_take (p l : List UInt8) : p.isPrefixOf l = decide (l.take p.length = p) := by
  by_cases h : l.take p.length = p
  · rw [decide_eq_true h]
    exact List.isPrefixOf_iff_prefix.2 ⟨l.drop p.length, by conv => lhs; arg 1; rw [← h]
                                                            exact List.take_append_drop _ _⟩
  · rw [decide_eq_false h]
    apply Bool.eq_false_iff.2
    intro h2
    obtain ⟨t, ht⟩ := List.isPrefixOf_iff_prefix.1 h2
    apply h
    rw [← ht]; simp
theorem pre_short (p l : List UInt8) (h : l.length < p.length) : p.isPrefixOf l = false := by
  rw [pre_take]
  apply decide_eq_false
  intro e
  have := congrArg List.length e
  rw [List.length_take] at this
  omega

set_option maxRecDepth 100000 in
set_option maxHeartbeats 400000 in
theorem slite_any (s p : ByteArray) (w : World) :
    Calls Tryd.prog 71 #[.string s, .string p] w fun e w' => e = .returned (.bool (p.data.toList.isPrefixOf s.data.toList)) ∧ w' = w := by
  by_cases hle : p.size ≤ s.size
  · have h2 : (p.size : Int) ≤ (s.size : Int) := by omega
    have hx := ext_list s 0 p.size
    rw [Nat.sub_zero, List.drop_zero] at hx
    have HX := hide hx
    have z0 : (0 : Int) ≤ (p.size : Int) := by omega
    clear hx
    go_enter Tryd.func71, Tryd.ntmps71
    go_wp2
    go_ret
    refine ⟨?_, rfl⟩
    rw [pre_take, len_list, ← HX.out]
    by_cases he : s.extract 0 p.size = p
    · rw [decide_eq_true (by rw [he])]; simp [he]
    · rw [decide_eq_false (fun h => he (ByteArray.ext (Array.toList_inj.1 h)))]
      have hb : ((s.extract 0 p.size).toList == p.toList) = false := beq_false_of_ne (fun h => he (ByteArray.ext (Array.toList_inj.1 (by rw [← ByteArray.toList_eq, ← ByteArray.toList_eq]; exact h))))
      show Ending.returned (Value.bool ((s.extract 0 p.size).toList == p.toList)) = _
      rw [hb]
  · have h2 : ¬ (p.size : Int) ≤ (s.size : Int) := by omega
    have h2d : decide ((p.size : Int) ≤ (s.size : Int)) = false := decide_eq_false h2
    rw [pre_short _ _ (by rw [len_list, len_list]; omega)]
    go_enter Tryd.func71, Tryd.ntmps71
    go_wp2
    go_ret
    exact ⟨rfl, rfl⟩
theorem hasPrefix_any (s p : ByteArray) (w : World) :
    Calls Tryd.prog 79 #[.string s, .string p] w fun e w' => e = .returned (.bool (p.data.toList.isPrefixOf s.data.toList)) ∧ w' = w := by
  generalize hp : p.data.toList.isPrefixOf s.data.toList = b
  have HC := hide (fun W => slite_any s p W)
  rw [hp] at HC
  clear hp
  go_enter Tryd.func79, Tryd.ntmps79
  go_wp2_with (go_at_call 71; refine (HC.out _).mono ?_; rintro e w' ⟨rfl, rfl⟩)
  go_ret
  exact ⟨rfl, rfl⟩

end Go.Proofs.YtjalggkhpnfbiaaDoor.pg
