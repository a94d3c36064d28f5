import Derived.Test.YtkkgngmhdlmgnaaDoorAppKeep
import Derived.Test.YtkkgngmhdlmgnaaDoorReadForm
import Derived.Test.YtkkgngmhdlmgnaaDoorRefReadC
namespace Go.Proofs.YtkkgngmhdlmgnaaDoor.jw
open Go.ChangeShapes Go.WideShapes Go.ChangeAt Go.RowKit Go.Proofs.YtkkgngmhdlmgnaaDoor.common
attribute [local go_sem ↓] Go.wp_at_zero Go.wp_at_succ

/-- the head of a row is a row -/
theorem own_prefix {w : World} {base : Nat} {e : TypeId} {g n k cap : Nat} {xs r : List Value} (h : w.ownsRow base e 5 (.slice (some ⟨g, 0, none⟩) (n + k) cap) (n + k) (xs ++ r)) (hx : xs.length = n * 5) : w.ownsRow base e 5 (.slice (some ⟨g, 0, none⟩) n cap) n xs := by
  rcases h.2 with ⟨h', _⟩ | ⟨g', cap', cur, h', q1, q2, q3, q4, q5, q6⟩
  · cases h'
  · cases h'
    refine ⟨by rw [hx], Or.inr ⟨g, cap, cur, rfl, q1, q2, by omega, q4, q5, ?_⟩⟩
    have : (cur.toList.take ((n + k) * 5)).take (n * 5) = (xs ++ r).take (n * 5) := by rw [q6]
    have e2 : (xs ++ r).take (n * 5) = xs := by rw [List.take_append_of_le_length (by omega)]; exact List.take_of_length_le (by omega)
    rw [List.take_take, Nat.min_eq_left (by omega), e2] at this
    exact this
/-- a list that grows out of v -/
def Grw (H : Nat) (v m : Value) (n t : Nat) : Prop := (∃ g cap, v = .slice (some ⟨g, 0, none⟩) n cap ∧ m = .slice (some ⟨g, 0, none⟩) (n + t) cap) ∨ (t = 0 ∧ m = v) ∨ (∃ b, m.ownBlock = some b ∧ H ≤ b)
theorem own_ge5 {w : World} {base : Nat} {e : TypeId} {v : Value} {n : Nat} {xs : List Value} (h : w.ownsRow base e 5 v n xs) : ∀ b, v.ownBlock = some b → base ≤ b ∧ b < w.heap.size := fun b hb => h.lt b hb
/-- one more -/
theorem grw_more {base H : Nat} {e : TypeId} {v m v' : Value} {n t : Nat} {w0 w w' : World} {xs r : List Value} (hx : xs.length = n * 5) (hv : w.ownsRow base e 5 v n xs) (hg : Grw H v m n t) (hH : H ≤ w.heap.size) (hvH : ∀ b, v.ownBlock = some b → b < H) (hK : w0.grownBy w v.ownBlock) (hw0 : w0.heap.size ≤ H)
    (hown : w'.ownsRow base e 5 v' (n + t + 1) (xs ++ r))
    (hk : (∃ g cap, m = .slice (some ⟨g, 0, none⟩) (n + t) cap ∧ v' = .slice (some ⟨g, 0, none⟩) (n + t + 1) cap ∧ w.grownBy w' (some g)) ∨ (v'.ownBlock = some w.heap.size ∧ w.grownBy w' none)) :
    w'.ownsRow base e 5 v n xs ∧ Grw H v v' n (t + 1) ∧ w0.grownBy w' v.ownBlock := by
  rcases hk with ⟨g, cap, rfl, rfl, hgr⟩ | ⟨hv', hgr⟩
  · have hcase : (v = .slice (some ⟨g, 0, none⟩) n cap) ∨ H ≤ g := by
      rcases hg with ⟨g', cap', h1, h2⟩ | ⟨rfl, h2⟩ | ⟨b, hb, hbH⟩
      · cases h2; exact Or.inl h1
      · exact Or.inl h2.symm
      · right; cases hb; exact hbH
    rcases hcase with rfl | hfar
    · refine ⟨own_prefix (k := t + 1) hown hx, Or.inl ⟨g, cap, rfl, rfl⟩, ?_⟩
      exact ⟨hgr.os.trans hK.os, hgr.tape.trans hK.tape, hgr.output.trans hK.output, Nat.le_trans hK.size hgr.size, fun k hk hne => (hgr.block k (Nat.lt_of_lt_of_le hk hK.size) hne).trans (hK.block k hk hne)⟩
    · refine ⟨hv.kept hgr ?_, Or.inr (Or.inr ⟨g, rfl, hfar⟩), ?_⟩
      · right
        intro he
        have := hvH g he
        omega
      · exact ⟨hgr.os.trans hK.os, hgr.tape.trans hK.tape, hgr.output.trans hK.output, Nat.le_trans hK.size hgr.size, fun k hk hne => (hgr.block k (Nat.lt_of_lt_of_le hk hK.size) (fun e => by cases e; omega)).trans (hK.block k hk hne)⟩
  · refine ⟨hv.kept hgr (by cases v.ownBlock <;> simp), Or.inr (Or.inr ⟨_, hv', hH⟩), ?_⟩
    exact ⟨hgr.os.trans hK.os, hgr.tape.trans hK.tape, hgr.output.trans hK.output, Nat.le_trans hK.size hgr.size, fun k hk hne => (hgr.block k (Nat.lt_of_lt_of_le hk hK.size) (fun e => by cases e)).trans (hK.block k hk hne)⟩

set_option maxRecDepth 100000 in
set_option maxHeartbeats 1600000 in
theorem longer_any (base : Nat) (v : Value) (L : List Mem) (N : ByteArray) (w : World) (hown : w.ownsRow base 37 5 v L.length (cms L)) (hn : L.length ≤ 32) (hb : base ≤ w.heap.size) :
    Calls Tryd.prog 10 #[v, .string N] w fun x w' => ∃ v', x = .returned v' ∧ w.grownBy w' v.ownBlock ∧ w'.ownsRow base 37 5 v L.length (cms L) ∧ w'.ownsRow base 37 5 v' (L.length + 64) (cms (L ++ List.replicate 64 (named N.data.toList))) ∧ Grw w.heap.size v v' L.length 64 := by
  obtain ⟨i0, hi, hz0, hz1, hz2⟩ := info_parts infoR
  have HO := hide hown
  have HB := hide hb
  have HVH := hide (fun b (h : v.ownBlock = some b) => (own_ge5 hown b h).2)
  clear hown hb
  obtain ⟨n, hnn⟩ : ∃ n, L.length = n := ⟨_, rfl⟩
  rw [hnn] at HO hn ⊢
  have HN := hide hnn
  obtain ⟨M, hM⟩ : ∃ M, named N.data.toList = M := ⟨_, rfl⟩
  have HM : Hid (cm M = [.string N, .int .i64 0, .string ⟨#[]⟩, .int .i64 0, .bool false]) := by show _ = _; rw [← hM]; rfl
  rw [hM]
  clear hnn hM
  go_enter Tryd.func10, Tryd.ntmps10
  go_wp2_with fail
  go_loopw [0, 5] (fun lv iv wr => ∃ t : Nat, t ≤ 64 ∧ iv = .int .i64 t ∧ Hid (wr.ownsRow base 37 5 lv (n + t) (cms (L ++ List.replicate t M))) ∧ Hid (Grw w.heap.size v lv n t) ∧ Hid (w.grownBy wr v.ownBlock) ∧ Hid (wr.ownsRow base 37 5 v n (cms L))) (fun _ iv _ => 64 - (intOf iv).toNat)
  case atStart => exact ⟨0, by omega, rfl, by show World.ownsRow _ _ _ _ _ _ _; rw [List.replicate_zero, List.append_nil]; exact HO.out, Or.inr (Or.inl ⟨rfl, rfl⟩), ⟨rfl, rfl, rfl, Nat.le_refl _, fun _ _ _ => rfl⟩, HO⟩
  case round =>
    obtain ⟨t, ht, rfl, hl, hg, hk, hv⟩ := hrel
    have hsz := hk.out.size
    have hbs := HB.out
    by_cases hlt : t < 64
    · have t1 : (t : Int) < 64 := by omega
      obtain ⟨X, hX⟩ : ∃ X, cms (L ++ List.replicate t M) = X := ⟨_, rfl⟩
      have HX := hide hX
      rw [hX] at hl
      clear hX
      go_wp2_with (at_builtin; refine ak.wpList_append_keep _ rfl _ _ 22 rfl base 37 i0 _ 5 56 Tryd.underlying22 hi hz0 hz1 hz2 rfl (by decide) _ _ _ rfl (hl.out.alloc _) ⟨wr.heap.size, 0, none⟩ 1 [.string N, .int .i64 0, .string ⟨#[]⟩, .int .i64 0, .bool false] rfl rfl (cells_new _ _ _) ?c2 ?c3 ?c4 ?c5 ?_)
      case c2 => first | rfl | (intro u hu; simp at hu; rcases hu with rfl | rfl | rfl | rfl | rfl <;> rfl)
      case c3 => unfold maxLen; omega
      case c4 => omega
      case c5 => first | omega | (simp; omega)
      intro v' w4 hown' hk4
      have hcm : cms (L ++ List.replicate (t + 1) M) = X ++ [.string N, .int .i64 0, .string ⟨#[]⟩, .int .i64 0, .bool false] := by
        rw [List.replicate_succ', ← List.append_assoc, cms_app, HX.out]
        show X ++ (cm M ++ []) = _
        rw [List.append_nil, HM.out]
      have hXL : X ++ [.string N, .int .i64 0, .string ⟨#[]⟩, .int .i64 0, .bool false] = cms L ++ (cms (List.replicate t M) ++ [.string N, .int .i64 0, .string ⟨#[]⟩, .int .i64 0, .bool false]) := by
        rw [← HX.out, cms_app, List.append_assoc]
      have HG4 := hide (grw_more (w0 := w) (by rw [cms_len, HN.out]) (hv.out.alloc _) hg.out (by simp; omega) HVH.out (hk.out.trans (World.grownBy_alloc wr _ _)) (Nat.le_refl _) (by rw [← hXL]; exact hown') (hk4.imp (fun ⟨g, cap, q1, q3, q4⟩ => ⟨g, cap, q1, q3, q4⟩) (fun ⟨q1, q2⟩ => ⟨by rw [q1]; simp, q2⟩)))
      have HO4 : Hid (w4.ownsRow base 37 5 v' (n + (t + 1)) (cms (L ++ List.replicate (t + 1) M))) := by
        show World.ownsRow _ _ _ _ _ _ _
        rw [hcm]; exact hown'
      clear hown' hk4 hcm hXL
      go_wp2
      go_roundw
      case rel => exact ⟨t + 1, by omega, by go_num, HO4, HG4.out.2.1, HG4.out.2.2, HG4.out.1⟩
      case measure => simp [intOf]; omega
    · obtain rfl : t = 64 := by omega
      have t1 : ¬ ((64 : Nat) : Int) < 64 := by omega
      go_wp2
      go_ret
      exact ⟨_, rfl, hk.out, hv.out, hl.out, hg.out⟩
theorem set_past (w : World) (g j i : Nat) (u : Value) (h : j ≠ i) : (w.setCell ⟨g, j, none⟩ u).cell? ⟨g, i, none⟩ = w.cell? ⟨g, i, none⟩ := by
  exact World.cell?_setCell_other _ _ _ _ (by intro e; cases e; exact h rfl)
/-- five cells of a row stored -/
theorem own_five {w : World} {base : Nat} {e : TypeId} {g n cap : Nat} {xs : List Value} (h : w.ownsRow base e 5 (.slice (some ⟨g, 0, none⟩) n cap) n xs) (o : Nat) (x0 x1 x2 x3 x4 : Value) :
    ∃ ys, (((((w.setCell ⟨g, o, none⟩ x0).setCell ⟨g, o + 1, none⟩ x1).setCell ⟨g, o + 2, none⟩ x2).setCell ⟨g, o + 3, none⟩ x3).setCell ⟨g, o + 4, none⟩ x4).ownsRow base e 5 (.slice (some ⟨g, 0, none⟩) n cap) n ys ∧
      w.grownBy (((((w.setCell ⟨g, o, none⟩ x0).setCell ⟨g, o + 1, none⟩ x1).setCell ⟨g, o + 2, none⟩ x2).setCell ⟨g, o + 3, none⟩ x3).setCell ⟨g, o + 4, none⟩ x4) (some g) := by
  have a0 := h.stored o x0
  have a1 := a0.1.stored (o + 1) x1
  have a2 := a1.1.stored (o + 2) x2
  have a3 := a2.1.stored (o + 3) x3
  have a4 := a3.1.stored (o + 4) x4
  exact ⟨_, a4.1, (((a0.2.trans a1.2).trans a2.2).trans a3.2).trans a4.2⟩

set_option maxRecDepth 100000 in
set_option maxHeartbeats 1600000 in
theorem marked_any (base : Nat) (v : Value) (n : Nat) (xs : List Value) (N : ByteArray) (w : World) (hown : w.ownsRow base 37 5 v n xs) (hn : n ≤ 32) :
    Calls Tryd.prog 11 #[v, .string N] w fun x w' => x = .returned (.tuple #[]) ∧ w.grownBy w' v.ownBlock ∧ ∀ g i, v.ownBlock = some g → n * 5 ≤ i → w'.cell? ⟨g, i, none⟩ = w.cell? ⟨g, i, none⟩ := by
  have HO := hide hown
  clear hown
  obtain ⟨oa, cap, hv⟩ := own_form HO.out
  have HV := hide hv
  clear hv
  have hvv : v = .slice oa n cap := HV.out
  rw [hvv]
  clear hvv
  go_enter Tryd.func11, Tryd.ntmps11
  go_wp2_with fail
  go_loopw [4] (fun iv wr => ∃ (k : Nat) (ys : List Value), k ≤ n ∧ iv = .int .i64 k ∧ ys.length = n * 5 ∧ Hid (wr.ownsRow base 37 5 v n ys) ∧ Hid (w.grownBy wr v.ownBlock) ∧ Hid (∀ g i, v.ownBlock = some g → n * 5 ≤ i → wr.cell? ⟨g, i, none⟩ = w.cell? ⟨g, i, none⟩)) (fun iv _ => n - (intOf iv).toNat)
  case atStart => exact ⟨0, xs, by omega, rfl, HO.out.1, HO, ⟨rfl, rfl, rfl, Nat.le_refl _, fun _ _ _ => rfl⟩, fun _ _ _ _ => rfl⟩
  case round =>
    obtain ⟨k, ys, hk, rfl, hys, hown, hg, hc⟩ := hrel
    by_cases hlt : k < n
    · have k1 : (k : Int) < (n : Int) := by omega
      have k0 : (0 : Int) ≤ (k : Int) := by omega
      obtain ⟨g, rfl⟩ : ∃ g, oa = some ⟨g, 0, none⟩ := by
        have h := hown.out
        rw [HV.out] at h
        rcases h.2 with ⟨h', h0⟩ | ⟨g, cap', cur, h', _⟩
        · omega
        · cases h'; exact ⟨g, rfl⟩
      have ho := hown.out
      rw [HV.out] at ho
      have ce : ∀ j, j < 5 → ∃ u, wr.cell? ⟨g, k * 5 + j, none⟩ = some u := fun j hj => by
        rw [ho.cellAt (k * 5 + j) (by omega)]
        exact ⟨_, List.getElem?_eq_getElem (by omega)⟩
      obtain ⟨u0, c0⟩ := ce 0 (by decide)
      obtain ⟨u1, c1⟩ := ce 1 (by decide)
      obtain ⟨u2, c2⟩ := ce 2 (by decide)
      obtain ⟨u3, c3⟩ := ce 3 (by decide)
      obtain ⟨u4, c4⟩ := ce 4 (by decide)
      rw [Nat.add_zero] at c0
      have f0 := fun j => ho.frozenAt j
      obtain ⟨zs, ho5, hg5⟩ := own_five ho (k * 5) (.string N) (.int .i64 7) (.string ⟨#[]⟩) (.int .i64 (k : Int)) (.bool false)
      have HO5 := hide ho5
      have HG5 := hide hg5
      have HZ := hide ho5.1
      clear ho ce ho5 hg5
      go_wp2_with fail
      go_roundw
      case rel => exact ⟨k + 1, zs, by omega, by go_num, HZ.out, by show World.ownsRow _ _ _ _ _ _ _; rw [HV.out]; exact HO5.out, by show World.grownBy _ _ _; rw [HV.out]; rw [HV.out] at hg; exact hg.out.trans HG5.out, fun g' i hg' hi' => by
        rw [HV.out] at hg'
        cases hg'
        rw [← hc.out g i (by rw [HV.out]; rfl) hi']
        rw [set_past _ _ _ _ _ (by omega), set_past _ _ _ _ _ (by omega), set_past _ _ _ _ _ (by omega), set_past _ _ _ _ _ (by omega), set_past _ _ _ _ _ (by omega)]⟩
      case measure => simp [intOf]; omega
    · have k1 : ¬ (k : Int) < (n : Int) := by omega
      go_wp2
      go_end0
      exact ⟨rfl, by rw [← HV.out]; exact hg.out, by rw [← HV.out]; exact hc.out⟩
end Go.Proofs.YtkkgngmhdlmgnaaDoor.jw
