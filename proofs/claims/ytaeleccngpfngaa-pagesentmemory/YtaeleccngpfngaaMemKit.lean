import Derived.Test.YtaeleccngpfngaaSentKit
import Derived.Maps.AppendAt
namespace Go.Proofs.Ytaeleccngpfngaa.sent
open Go.ChangeShapes Go.WideShapes Go.ChangeAt Go.RowKit Go.Proofs.Ytaeleccngpfngaa.common Go.Proofs.Ytaeleccngpfngaa.lst Go.Maps
attribute [local go_sem ↓] Go.wp_at_zero Go.wp_at_succ

/-- two slices in blocks apart -/
def Ap (v u : Value) : Prop := ∀ g, v.ownBlock = some g → u.ownBlock ≠ some g
theorem Ap.symm {v u : Value} (h : Ap v u) : Ap u v := fun g hg hv => h g hv hg
theorem Ap.row {v u : Value} (h : Ap v u) : v.ownBlock = none ∨ v.ownBlock ≠ u.ownBlock := by
  cases hv : v.ownBlock with
  | none => exact Or.inl rfl
  | some g => exact Or.inr fun e => h g hv e.symm
theorem own_lt {w : World} {base : Nat} {e : TypeId} {size : Nat} {v : Value} {n : Nat} {xs : List Value} (h : w.ownsRow base e size v n xs) : ∀ g, v.ownBlock = some g → g < w.heap.size := fun g hg => (h.lt g hg).2
theorem Ap.grow {w : World} {v v' u : Value} (h : Ap v u) (hv : v'.ownBlock = v.ownBlock ∨ v'.ownBlock = some w.heap.size) (hu : ∀ g, u.ownBlock = some g → g < w.heap.size) : Ap v' u := fun g hg hug => by
  rcases hv with e | e
  · rw [e] at hg; exact h g hg hug
  · rw [e] at hg; cases hg; exact absurd (hu _ hug) (Nat.lt_irrefl _)
/-- what is made later lies apart -/
theorem ap_new {v u : Value} {H : Nat} (hv : ∀ g, v.ownBlock = some g → H ≤ g) (hu : ∀ g, u.ownBlock = some g → g < H) : Ap v u := fun g hg hug => by
  have := hv g hg; have := hu g hug; omega

/-- 'append(nil, l...)' of inputs -/
theorem append_inputs (w : World) {ops : Array Oper} {rest : List Oper} {o : Oper} {a : Act} {Q : Exit → Act → World → Prop} (hgd : o.guard = none) (s x : Operand)
    (ho : o.op = .call { callee := .builtin .append, args := #[s, x], argTypes := #[22, 22] }) (base : Nat) (hs : a.eval s = .slice none 0 0) (v : Value) (l : List Inp) (hx : a.eval x = v) (hl : LiesI w v l)
    (hm : l.length ≤ maxLen) (hb : l.length * 56 ≤ 140737488355328) (hbase : base ≤ w.heap.size)
    (h : ∀ v' w', w'.ownsRow base 29 4 v' l.length (ic l) → w.grownBy w' none → wpList Try.prog ops Q rest (a.put o.dst v') w') : wpList Try.prog ops Q (o :: rest) a w := by
  obtain ⟨i0, hi, hz0, hz1, hz2⟩ := info_parts infoI
  have hl' := hl
  obtain ⟨oa, cap, rfl, hc⟩ := hl
  cases oa with
  | some ad =>
    exact wpList_append_own w hgd s x 22 ho base 29 i0 (.agg #[.int .i64 0, .string ⟨#[]⟩, .string ⟨#[]⟩, .string ⟨#[]⟩]) 4 56 Try.underlying22 hi hz0 hz1 hz2 rfl (by decide) _ 0 [] hs (World.ownsRow_nil _ _ _ _) ad l.length cap (ic l) hx (ic_len l) hl'.cells.2.2 (ic_one l) (by rw [Nat.zero_add]; exact hm) (by rw [Nat.zero_add]; exact hb) hbase (fun v' w' h1 h2 _ => h v' w' (by rw [Nat.zero_add, List.nil_append] at h1; exact h1) h2)
  | none =>
    have h0 : l = [] := by
      cases l with
      | nil => rfl
      | cons p r => obtain ⟨b, o, ho, _⟩ := hc 0 (by simp); cases ho
    subst h0
    refine wpList_plain hgd fun K' hK' => ?_
    unfold Oper.wp execOp
    simp only [ho, resolve, invoke, builtin, Sem.run_bind, Sem.run_pure, Result.andThen_ok, List.map_toArray, List.map_cons, List.map_nil, hs, hx]
    simp [Builtin.append_, run_underlying Try.underlying22, sizeOf, typeInfo, hi, Builtin.lenOf, Builtin.firstCells]
    exact hK' _ _ (h _ _ (World.ownsRow_nil _ _ _ _) ⟨rfl, rfl, rfl, Nat.le_refl _, fun _ _ _ => rfl⟩)

/-- the same of pairs, with what comes of no pair -/
theorem append_pairs2 (w : World) {ops : Array Oper} {rest : List Oper} {o : Oper} {a : Act} {Q : Exit → Act → World → Prop} (hgd : o.guard = none) (s x : Operand)
    (ho : o.op = .call { callee := .builtin .append, args := #[s, x], argTypes := #[25, 25] }) (base : Nat) (hs : a.eval s = .slice none 0 0) (v : Value) (l : List PB) (hx : a.eval x = v) (hl : Lies w v l)
    (hm : l.length ≤ maxLen) (hb : l.length * 32 ≤ 140737488355328) (hbase : base ≤ w.heap.size)
    (h : ∀ v' w', w'.ownsRow base 33 2 v' l.length (cl l) → w.grownBy w' none → (l = [] → v' = .slice none 0 0) → wpList Try.prog ops Q rest (a.put o.dst v') w') : wpList Try.prog ops Q (o :: rest) a w := by
  obtain ⟨i0, hi, hz0, hz1, hz2⟩ := info_parts infoP
  have hl' := hl
  obtain ⟨oa, cap, rfl, hc⟩ := hl
  cases oa with
  | some ad =>
    exact wpList_append_own w hgd s x 25 ho base 33 i0 (.agg #[.string ⟨#[]⟩, .string ⟨#[]⟩]) 2 32 Try.underlying25 hi hz0 hz1 hz2 rfl (by decide) _ 0 [] hs (World.ownsRow_nil _ _ _ _) ad l.length cap (cl l) hx (cl_len l) (lies_cells hl') (cl_one l) (by rw [Nat.zero_add]; exact hm) (by rw [Nat.zero_add]; exact hb) hbase (fun v' w' h1 h2 h3 => h v' w' (by rw [Nat.zero_add, List.nil_append] at h1; exact h1) h2 (fun e => h3.2 ⟨rfl, by rw [e]; rfl⟩))
  | none =>
    have h0 : l = [] := by
      cases l with
      | nil => rfl
      | cons p r => obtain ⟨b, o, ho, _⟩ := hc 0 (by simp); cases ho
    subst h0
    refine wpList_plain hgd fun K' hK' => ?_
    unfold Oper.wp execOp
    simp only [ho, resolve, invoke, builtin, Sem.run_bind, Sem.run_pure, Result.andThen_ok, List.map_toArray, List.map_cons, List.map_nil, hs, hx]
    simp [Builtin.append_, run_underlying Try.underlying25, sizeOf, typeInfo, hi, Builtin.lenOf, Builtin.firstCells]
    exact hK' _ _ (h _ _ (World.ownsRow_nil _ _ _ _) ⟨rfl, rfl, rfl, Nat.le_refl _, fun _ _ _ => rfl⟩ (fun _ => rfl))

/-- a list behind an empty literal -/
theorem wp_append_empty (w : World) {o : Oper} {a : Act} {K : Act → World → Prop} {Q : Exit → Act → World → Prop} (s x : Operand)
    (ho : o.op = .call { callee := .builtin .append, args := #[s, x], argTypes := #[25, 25] }) (g : Nat) (hs : a.eval s = .slice (some ⟨g, 0, none⟩) 0 0) (hg : w.heap[g]? = some (.cells #[] 33)) (v : Value) (l : List PB) (hx : a.eval x = v) (hl : Lies w v l) (h0 : l = [] → v = .slice none 0 0)
    (hm : l.length ≤ maxLen) (hb : l.length * 32 ≤ 140737488355328)
    (h : ∀ v' w', Lies w' v' l → Below w.heap.size w w' → K (a.put o.dst v') w') : o.wp Try.prog a w K Q := by
  obtain ⟨i0, hi, hz0, hz1, hz2⟩ := info_parts infoP
  have hown : w.ownsRow 0 33 2 (.slice (some ⟨g, 0, none⟩) 0 0) 0 [] := ⟨rfl, Or.inr ⟨g, 0, #[], rfl, Nat.zero_le _, hg, Nat.le_refl _, Nat.zero_le _, rfl, rfl⟩⟩
  have hl' := hl
  by_cases he : l = []
  · have hr := run_append_owned_none (P := Try.prog) w 0 25 o.type 33 i0 2 Try.underlying25 hi _ 0 [] hown
    rw [h0 he] at hx
    subst he
    unfold Oper.wp execOp
    simp only [ho, resolve, invoke, builtin, Sem.run_bind, Sem.run_pure, Result.andThen_ok, List.map_toArray, List.map_cons, List.map_nil, hs, hx, hr]
    exact h _ _ ⟨_, 0, rfl, fun i hi => absurd hi (Nat.not_lt_zero _)⟩ (Below.refl _ _)
  · have hpos : 0 < l.length := List.length_pos_iff.2 he
    obtain ⟨oa, cap, rfl, hc⟩ := hl
    obtain ⟨b, o', rfl, _⟩ := hc 0 hpos
    obtain ⟨v', w', hr, ho1, hg1, hn1, hat1⟩ := run_append_own_at (P := Try.prog) w 0 25 o.type 33 i0 (.agg #[.string ⟨#[]⟩, .string ⟨#[]⟩]) 2 32 Try.underlying25 hi hz0 hz1 hz2 rfl (by decide) _ 0 [] hown ⟨b, o', none⟩ l.length cap (cl l) (cl_len l) (lies_cells hl') (cl_one l) (by rw [Nat.zero_add]; exact hm) (by rw [Nat.zero_add]; exact hb) (Nat.zero_le _)
    have hbel : Below w.heap.size w w' := by
      have hr2 := run_append_grow (P := Try.prog) w 25 o.type 33 i0 (.agg #[.string ⟨#[]⟩, .string ⟨#[]⟩]) Try.underlying25 hi hz0 ⟨g, 0, none⟩ 0 0 [] (by rw [hz1]; rfl) (hown.cells (g := g) rfl) ⟨b, o', none⟩ l.length cap (cl l) (by rw [hz1]; exact cl_len l) (lies_cells hl') (by omega) (by unfold maxLen at hm; omega) (growslice_fits (by omega) (by rw [hz2, Nat.zero_add]; exact hb))
      rw [hr] at hr2
      injection hr2 with hr3 hr4
      subst hr3 hr4
      exact ⟨rfl, rfl, rfl, by simp, fun k hk => heap_alloc_old w.drew _ hk⟩
    unfold Oper.wp execOp
    simp only [ho, resolve, invoke, builtin, Sem.run_bind, Sem.run_pure, Result.andThen_ok, List.map_toArray, List.map_cons, List.map_nil, hs, hx, hr]
    refine h _ _ ?_ hbel
    have : w'.ownsRow 0 33 2 v' l.length (cl l) := by rw [Nat.zero_add, List.nil_append] at ho1; exact ho1
    exact lies_of_own this

theorem rep_set {α : Type} (l : List α) (c : α) (k : Nat) (h : k < l.length) : (List.replicate k c ++ l.drop k).set k c = List.replicate (k + 1) c ++ l.drop (k + 1) := by
  rw [List.drop_eq_getElem_cons h, List.replicate_succ', List.append_assoc, List.set_append_right _ _ (by simp), List.length_replicate, Nat.sub_self]
  rfl

set_option maxRecDepth 100000 in
set_option maxHeartbeats 1600000 in
/-- a list is written full -/
theorem markAll_any (base g cap : Nat) (c : ByteArray) (l : List PB) (w : World) (hown : w.ownsRow base 33 2 (.slice (some ⟨g, 0, none⟩) l.length cap) l.length (cl l)) (hs : l.length ≤ 4611686018427387904) :
    Calls Try.prog 6 #[.slice (some ⟨g, 0, none⟩) l.length cap, .string c] w fun e w' => e = .returned (.tuple #[]) ∧ w'.ownsRow base 33 2 (.slice (some ⟨g, 0, none⟩) l.length cap) l.length (cl (List.replicate l.length (c, c))) ∧ w.grownBy w' (some g) := by
  have HO := hide hown
  clear hown
  go_enter Try.func6, Try.ntmps6
  go_wp2_with fail
  go_loopw [4] (fun i wr => ∃ k : Nat, k ≤ l.length ∧ i = .int .i64 k ∧ wr.ownsRow base 33 2 (.slice (some ⟨g, 0, none⟩) l.length cap) l.length (cl (List.replicate k (c, c) ++ l.drop k)) ∧ w.grownBy wr (some g)) (fun i _ => l.length - (intOf i).toNat)
  case atStart => exact ⟨0, Nat.zero_le _, rfl, HO.out, ⟨rfl, rfl, rfl, Nat.le_refl _, fun _ _ _ => rfl⟩⟩
  case round =>
    obtain ⟨k, hk, rfl, ho, hg⟩ := hrel
    by_cases hlt : k < l.length
    · have hki : (k : Int) < (l.length : Int) := by omega
      have k0 : (0 : Int) ≤ (k : Int) := Int.natCast_nonneg _
      have hL : (List.replicate k (c, c) ++ l.drop k).length = l.length := by simp; omega
      have c0 : wr.cell? ⟨g, k * 2, none⟩ = some (.string ((List.replicate k (c, c) ++ l.drop k)[k]'(by omega)).1) := by rw [ho.cellAt (k * 2) (by omega)]; exact cl_get0 _ k (by omega)
      have c1 : wr.cell? ⟨g, k * 2 + 1, none⟩ = some (.string ((List.replicate k (c, c) ++ l.drop k)[k]'(by omega)).2) := by rw [ho.cellAt (k * 2 + 1) (by omega)]; exact cl_get1 _ k (by omega)
      have f0 : wr.frozen? ⟨g, k * 2, none⟩ = false := ho.frozenAt _
      have f1 : wr.frozen? ⟨g, k * 2 + 1, none⟩ = false := ho.frozenAt _
      have HN : Hid (((wr.setCell ⟨g, k * 2, none⟩ (.string c)).setCell ⟨g, k * 2 + 1, none⟩ (.string c)).ownsRow base 33 2 (.slice (some ⟨g, 0, none⟩) l.length cap) l.length (cl (List.replicate (k + 1) (c, c) ++ l.drop (k + 1)))) := by
        have := ((ho.stored (k * 2) (.string c)).1.stored (k * 2 + 1) (.string c)).1
        show World.ownsRow _ _ _ _ _ _ _
        rw [← rep_set l (c, c) k hlt, ← cl_set _ k (by omega) (c, c)]
        exact this
      have HG : Hid (w.grownBy ((wr.setCell ⟨g, k * 2, none⟩ (.string c)).setCell ⟨g, k * 2 + 1, none⟩ (.string c)) (some g)) := by
        refine ⟨hg.os, hg.tape, hg.output, ?_, fun q hq hne => ?_⟩
        · have := hg.size; simpa [World.setCell] using this
        · have hqg : q ≠ g := fun e => hne (by rw [e])
          rw [Below.heap_setCell _ _ _ _ hqg, Below.heap_setCell _ _ _ _ hqg]
          exact hg.block q hq hne
      generalize (List.replicate k (c, c) ++ l.drop k)[k]'(by omega) = pk at c0 c1
      clear ho hg hL
      go_wp2_with fail
      go_roundw
      case rel => exact ⟨k + 1, by omega, by go_num, HN.out, HG.out⟩
      case measure => simp [intOf]; omega
    · obtain rfl : k = l.length := by omega
      have HN := hide ho
      have HG := hide hg
      clear ho hg
      go_wp2_with fail
      have HE : Hid (wr.ownsRow base 33 2 (.slice (some ⟨g, 0, none⟩) l.length cap) l.length (cl (List.replicate l.length (c, c)))) := by
        have := HN.out
        rw [List.drop_length, List.append_nil] at this
        exact this
      first | go_end0 | refine bodyPost_ret (results_none rfl _ _ _) rfl ?_
      exact ⟨rfl, HE.out, HG.out⟩

set_option maxRecDepth 100000 in
set_option maxHeartbeats 1600000 in
theorem marked_any (va : Value) (c : ByteArray) (n : Nat) (w : World) (ha : Lies w va (List.replicate n (c, c))) (hs : n ≤ 4611686018427387904) :
    Calls Try.prog 7 #[va, .string c] w fun e w' => e = .returned (.bool true) ∧ Below w.heap.size w w' := by
  obtain ⟨oa, ca, rfl, hca⟩ := ha
  have hl : (List.replicate n (c, c)).length = n := by simp
  have HA := hide hca
  clear hca
  rw [hl]
  go_enter Try.func7, Try.ntmps7
  go_wp2_with fail
  go_loopw [5] (fun i wr => ∃ k : Nat, k ≤ n ∧ i = .int .i64 k ∧ Below w.heap.size w wr) (fun i _ => n - (intOf i).toNat)
  case atStart => exact ⟨0, Nat.zero_le _, rfl, Below.refl _ _⟩
  case round =>
    obtain ⟨k, hk, rfl, hnx⟩ := hrel
    by_cases hlt : k < n
    · have hki : (k : Int) < (n : Int) := by omega
      obtain ⟨b, o, rfl, hb, c0, c1⟩ := HA.out k (by rw [hl]; exact hlt)
      rw [List.getElem_replicate] at c0 c1
      have d0 := (hnx.cell (p := ⟨b, o + k * 2, none⟩) hb).trans c0
      have d1 := (hnx.cell (p := ⟨b, o + k * 2 + 1, none⟩) hb).trans c1
      have HX := hide hnx
      clear hnx c0 c1
      have k0 : (0 : Int) ≤ (k : Int) := Int.natCast_nonneg _
      go_wp2_with fail
      go_roundw
      case rel => exact ⟨k + 1, by omega, by go_num, ⟨HX.out.os, HX.out.tape, HX.out.output, HX.out.size, HX.out.block⟩⟩
      case measure => simp [intOf]; omega
    · obtain rfl : k = n := by omega
      have H2 := hide hnx
      clear hnx
      go_wp2_with fail
      go_ret
      exact ⟨rfl, H2.out⟩

end Go.Proofs.Ytaeleccngpfngaa.sent
