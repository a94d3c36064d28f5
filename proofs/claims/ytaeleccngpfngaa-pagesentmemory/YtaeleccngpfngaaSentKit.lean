import Derived.Test.YtaeleccngpfngaaInKit
import Derived.Test.YtaeleccngpfngaaSameWalks
namespace Go.Proofs.Ytaeleccngpfngaa.sent
open Go.ChangeShapes Go.WideShapes Go.ChangeAt Go.RowKit Go.Proofs.Ytaeleccngpfngaa.common Go.Proofs.Ytaeleccngpfngaa.lst Go.Maps

/-- two rows of elements of two types lie apart -/
theorem rows_ne {w : World} {base base' : Nat} {e e' : TypeId} {z z' : Nat} {v v' : Value} {n n' : Nat} {xs xs' : List Value} (he : e ≠ e') (h : w.ownsRow base e z v n xs) (h' : w.ownsRow base' e' z' v' n' xs') : v.ownBlock = none ∨ v.ownBlock ≠ v'.ownBlock := by
  rcases h.2 with ⟨rfl, _⟩ | ⟨g, cap, cur, rfl, _, hh, _⟩
  · exact Or.inl rfl
  · refine Or.inr ?_
    rcases h'.2 with ⟨rfl, _⟩ | ⟨g', cap', cur', rfl, _, hh', _⟩
    · intro h; cases h
    · intro h
      simp only [Value.ownBlock, Option.some.injEq] at h
      subst h
      rw [hh] at hh'
      cases hh'
      exact he rfl

theorem cl_one (l : List PB) : ∀ u ∈ cl l, u.oneCell' = true := by
  induction l with
  | nil => intro u hu; cases hu
  | cons p r ih =>
    intro u hu
    simp only [cl, List.mem_cons] at hu
    rcases hu with rfl | rfl | hu
    · rfl
    · rfl
    · exact ih u hu
theorem lies_cells {w : World} {ad : Addr} {n cap : Nat} {xs : List PB} (h : Lies w (.slice (some ad) n cap) xs) : ∀ j u, (cl xs)[j]? = some u → w.cell? (ad.add j) = some u := by
  obtain ⟨oa, ca, hv, hc⟩ := h
  cases hv
  intro j u hu
  have hj : j < xs.length * 2 := by have := (List.getElem?_eq_some_iff.1 hu).1; rw [cl_len] at this; exact this
  have hi : j / 2 < xs.length := by omega
  obtain ⟨b, o, ho, _, c0, c1⟩ := hc (j / 2) hi
  cases ho
  have g0 := cl_get0 xs (j / 2) hi
  have g1 := cl_get1 xs (j / 2) hi
  rw [Addr.add_mid]
  have hm : j % 2 = 0 ∨ j % 2 = 1 := by omega
  rcases hm with hm | hm
  · have he : j = j / 2 * 2 := by omega
    rw [← he] at c0 g0
    rw [g0] at hu; cases hu; exact c0
  · have he : j = j / 2 * 2 + 1 := by omega
    rw [Nat.add_assoc, ← he] at c1; rw [← he] at g1
    rw [g1] at hu; cases hu; exact c1

/-- 'append(nil, l...)': a whole list, a nil one too -/
theorem append_pairs (w : World) {ops : Array Oper} {rest : List Oper} {o : Oper} {a : Act} {Q : Exit → Act → World → Prop} (hgd : o.guard = none) (s x : Operand)
    (ho : o.op = .call { callee := .builtin .append, args := #[s, x], argTypes := #[25, 25] }) (base : Nat) (hs : a.eval s = .slice none 0 0) (v : Value) (l : List PB) (hx : a.eval x = v) (hl : Lies w v l)
    (hm : l.length ≤ maxLen) (hb : l.length * 32 ≤ 140737488355328) (hbase : base ≤ w.heap.size)
    (h : ∀ v' w', w'.ownsRow base 33 2 v' l.length (cl l) → w.grownBy w' none → wpList Try.prog ops Q rest (a.put o.dst v') w') : wpList Try.prog ops Q (o :: rest) a w := by
  obtain ⟨i0, hi, hz0, hz1, hz2⟩ := info_parts infoP
  have hl' := hl
  obtain ⟨oa, cap, rfl, hc⟩ := hl
  cases oa with
  | some ad =>
    exact wpList_append_own w hgd s x 25 ho base 33 i0 (.agg #[.string ⟨#[]⟩, .string ⟨#[]⟩]) 2 32 Try.underlying25 hi hz0 hz1 hz2 rfl (by decide) _ 0 [] hs (World.ownsRow_nil _ _ _ _) ad l.length cap (cl l) hx (cl_len l) (lies_cells hl') (cl_one l) (by rw [Nat.zero_add]; exact hm) (by rw [Nat.zero_add]; exact hb) hbase (fun v' w' h1 h2 _ => h v' w' (by rw [Nat.zero_add, List.nil_append] at h1; exact h1) h2)
  | none =>
    have h0 : l = [] := by
      cases l with
      | nil => rfl
      | cons p r => obtain ⟨b, o, ho, _⟩ := hc 0 (by simp); cases ho
    subst h0
    refine wpList_plain hgd fun K' hK' => ?_
    unfold Oper.wp execOp
    simp only [ho, resolve, invoke, builtin, Sem.run_bind, Sem.run_pure, Result.andThen_ok, List.map_toArray, List.map_cons, List.map_nil, hs, hx]
    simp [Builtin.append_, run_underlying Try.underlying25, sizeOf, typeInfo, hi, Builtin.lenOf, Builtin.firstCells]
    exact hK' _ _ (h _ _ (World.ownsRow_nil _ _ _ _) ⟨rfl, rfl, rfl, Nat.le_refl _, fun _ _ _ => rfl⟩)

/-- the marks that stand behind the lists -/
def mI : Inp := ⟨77, ⟨#[]⟩, ⟨#[]⟩, ⟨#[]⟩⟩
def mk : ByteArray := ⟨#[109, 97, 114, 107]⟩
def mP : PB := (mk, ⟨#[]⟩)
theorem rep_succ {α : Type} (l : List α) (m : α) (j : Nat) : l ++ List.replicate (j + 1) m = (l ++ List.replicate j m) ++ [m] := by
  rw [List.replicate_succ', List.append_assoc]

end Go.Proofs.Ytaeleccngpfngaa.sent
