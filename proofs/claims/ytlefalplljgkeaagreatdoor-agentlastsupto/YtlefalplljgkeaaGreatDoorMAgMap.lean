import Derived.Test.YtlefalplljgkeaaGreatDoorMAgMath
import Derived.Maps.RangeWalk
namespace Go.Proofs.YtlefalplljgkeaaGreatDoor.ag
open Go.ChangeShapes Go.WideShapes Go.ChangeAt Go.RowKit Go.Proofs.YtlefalplljgkeaaGreatDoor.common Go.Maps Go.WideElems

/-- an element of the map as it stands -/
def rdV (v : Value) : Option (DataW Value × List MemPlace) := some (.held v, [])
theorem keyed : Keyed Tryz.prog 9 := string_keyed Tryz.underlying9
def keyL (t : ByteArray) : Lit := .string t.data.toList
theorem keyL_of (t : ByteArray) (h : t.size ≤ maxLen) : keyOf Tryz.prog 9 (.string t) = some (keyL t) := WideMaps.keyOf_string_mk Tryz.underlying9 h
theorem keyL_is (t : ByteArray) : WideAt.IsKeyLit (keyL t) := trivial
theorem keyL_inj {a b : ByteArray} (h : keyL a = keyL b) : a = b := by
  unfold keyL at h
  injection h with h
  cases a; cases b; simp at h; rw [h]
theorem keyL_same (a b : ByteArray) : (keyL a).sameKey (keyL b) = decide (a = b) := by
  by_cases h : a = b
  · subst h; rw [WideAt.sameKey_self (keyL_is a)]; simp
  · rw [Maps.sameKey_ne (fun e => h (keyL_inj e))]; simp [h]
theorem keyOf_str_inv {key : Value} {kl : Lit} (h : keyOf Tryz.prog 9 key = some kl) : ∃ x : ByteArray, key = .string x ∧ kl = keyL x ∧ x.size ≤ maxLen := by
  cases key <;> simp [keyOf, Tryz.underlying9, mapKey] at h
  obtain ⟨hw, rfl⟩ := h
  exact ⟨_, rfl, rfl, hw⟩

theorem Ck.val_cells (r : Ck) : r.val = .agg r.cells.toArray := rfl
/-- the datum holds just these rows -/
structure Hs (D : DataW Value) (R : List Ck) : Prop where
  got : ∀ r ∈ R, ∀ z, D.atKey (keyL r.name) z = .held r.val
  all : ∀ kl, Maps.has D kl = true → ∃ r ∈ R, kl = keyL r.name
  len : Maps.size D = R.length
  nod : R.Pairwise fun a b => a.name ≠ b.name
theorem Hs.has {D : DataW Value} {R : List Ck} (h : Hs D R) {r : Ck} (hr : r ∈ R) : Maps.has D (keyL r.name) = true := Maps.has_true_of_atKey (h.got r hr)
theorem Hs.not {D : DataW Value} {R : List Ck} (h : Hs D R) {t : ByteArray} (ht : ∀ r ∈ R, r.name ≠ t) : Maps.has D (keyL t) = false := by
  cases hh : Maps.has D (keyL t) with
  | false => rfl
  | true =>
    obtain ⟨r, hr, e⟩ := h.all _ hh
    exact absurd (keyL_inj e).symm (ht r hr)
theorem nod_uniq {R : List Ck} (h : R.Pairwise fun a b => a.name ≠ b.name) {a b : Ck} (ha : a ∈ R) (hb : b ∈ R) (e : a.name = b.name) : a = b := by
  induction R with
  | nil => cases ha
  | cons x r ih =>
    obtain ⟨h1, h2⟩ := List.pairwise_cons.1 h
    rcases List.mem_cons.1 ha with ea | ha'
    · rcases List.mem_cons.1 hb with eb | hb'
      · rw [ea, eb]
      · exact absurd (ea ▸ e) (h1 b hb')
    · rcases List.mem_cons.1 hb with eb | hb'
      · exact absurd (eb ▸ e.symm) (h1 a ha')
      · exact ih h2 ha' hb'
theorem Hs.nil : Hs (.map []) [] where
  got := fun r hr => by cases hr
  all := fun kl h => by cases h
  len := rfl
  nod := List.Pairwise.nil
theorem filter_one {R : List Ck} (h : R.Pairwise fun a b => a.name ≠ b.name) (t : ByteArray) : (R.filter fun r => decide (r.name ≠ t)).length + (if R.any (fun r => decide (r.name = t)) then 1 else 0) = R.length := by
  induction R with
  | nil => rfl
  | cons x r ih =>
    obtain ⟨h1, h2⟩ := List.pairwise_cons.1 h
    have := ih h2
    by_cases e : x.name = t
    · have hr : r.any (fun r => decide (r.name = t)) = false := by
        rw [List.any_eq_false]; intro p hp; simp; intro e2; exact h1 p hp (e.trans e2.symm)
      rw [hr] at this
      simp [e] at this ⊢
      have h3 : (r.filter fun r => !decide (r.name = t)).length = r.length := by simpa using this
      first | exact h3 | omega | simpa using h3
    · simp [e] at this ⊢
      omega
theorem Hs.del {D : DataW Value} {R : List Ck} (h : Hs D R) (ht : Maps.Tidy D) (t : ByteArray) : Hs (D.del (keyL t)) (R.filter fun r => decide (r.name ≠ t)) := by
  refine ⟨fun r hr z => ?_, fun kl hk => ?_, ?_, h.nod.filter _⟩
  · obtain ⟨h1, h2⟩ := List.mem_filter.1 hr
    rw [Maps.atKey_del_other (fun e => (of_decide_eq_true h2) (keyL_inj e))]
    exact h.got r h1 z
  · by_cases e : kl = keyL t
    · subst e; rw [Maps.has_del_same] at hk; cases hk
    · rw [Maps.has_del_other e] at hk
      obtain ⟨r, hr, rfl⟩ := h.all kl hk
      exact ⟨r, List.mem_filter.2 ⟨hr, decide_eq_true (fun e2 => e (congrArg keyL e2))⟩, rfl⟩
  · have h1 := Maps.size_del (k := keyL t) ht
    have h2 := filter_one h.nod t
    rw [h.len] at h1
    have h3 : Maps.has D (keyL t) = R.any (fun r => decide (r.name = t)) := by
      cases hh : R.any (fun r => decide (r.name = t)) with
      | true =>
        obtain ⟨r, hr, e⟩ := List.any_eq_true.1 hh
        rw [← of_decide_eq_true e]; exact h.has hr
      | false => exact h.not fun r hr e => (List.any_eq_false.1 hh r hr) (decide_eq_true e)
    rw [h3] at h1
    omega
theorem Hs.put {D : DataW Value} {R : List Ck} (h : Hs D R) (ht : Maps.Tidy D) (r : Ck) (hn : ∀ x ∈ R, x.name ≠ r.name) : Hs (D.put (keyL r.name) (.held r.val)) (R ++ [r]) := by
  refine ⟨fun x hx z => ?_, fun kl hk => ?_, ?_, ?_⟩
  · rcases List.mem_append.1 hx with hx | hx
    · rw [Maps.atKey_put_other (fun e => hn x hx (keyL_inj e))]; exact h.got x hx z
    · obtain rfl : x = r := by simpa using hx
      exact Maps.atKey_put_same ht.isMap (keyL_is _) _ _
  · by_cases e : kl = keyL r.name
    · exact ⟨r, by simp, e⟩
    · rw [Maps.has_put_other e] at hk
      obtain ⟨x, hx, rfl⟩ := h.all kl hk
      exact ⟨x, List.mem_append_left _ hx, rfl⟩
  · rw [Maps.size_put ht, h.not hn, h.len]; simp
  · rw [List.pairwise_append]
    refine ⟨h.nod, by simp, fun a ha b hb => ?_⟩
    have : b = r := by simpa using hb
    rw [this]; exact hn a ha

abbrev Owns (w : World) (b n : Nat) (D : DataW Value) : Prop := w.ownsMap Tryz.prog 9 rdV b n D
abbrev Rng (w : World) (b r n : Nat) (D : DataW Value) (left : Lit → Bool) (cnt : Nat) : Prop := w.ranges Tryz.prog 9 rdV b r n D left cnt
theorem owns_tight {w : World} {b n : Nat} {D : DataW Value} (h : Owns w b n D) : Owns w b (Maps.size D) D := by
  obtain ⟨es, clock, hb, F, hs, hD⟩ := h
  refine ⟨es, clock, hb, F, ?_, hD⟩
  rw [hD]
  simp [Maps.size, length_sorted]
theorem zT_run (w : World) : (zeroValue 94).run Tryz.prog w = .ok zT w := by kernel_rfl

/-- 'm[k]' at the operation -/
theorem wpList_look {ops : Array Oper} {rest : List Oper} {o : Oper} {a : Act} {Q : Exit → Act → World → Prop} (w : World) (hg : o.guard = none) (m x : Operand) (hop : o.op = Op.lookup 53 m x false)
    (b n : Nat) (D : DataW Value) (hm : a.eval m = .map (some b)) (hown : Owns w b n D) (R : List Ck) (hR : Hs D R) (t : ByteArray) (hx : a.eval x = .string t) (ht : t.size ≤ maxLen)
    (hK : ∀ v, ((∃ r ∈ R, r.name = t ∧ v = r.val) ∨ ((∀ r ∈ R, r.name ≠ t) ∧ v = zT)) → wpList Tryz.prog ops Q rest (a.put o.dst v) w) :
    wpList Tryz.prog ops Q (o :: rest) a w := by
  refine wpList_plain hg fun K' hK' => ?_
  obtain ⟨v, ps, hrun, hv⟩ := hown.lookup keyed Tryz.underlying53 (zT_run w) (zd := .held zT) (zp := []) rfl (keyL_of t ht)
  unfold Oper.wp
  simp [execOp, hop, hm, hx, hrun, Result.andThen]
  refine hK' _ _ (hK v ?_)
  have h1 : DataW.held v = D.atKey (keyL t) (.held zT) := by
    have := Option.some.inj hv
    exact congrArg Prod.fst this
  by_cases hh : ∃ r ∈ R, r.name = t
  · obtain ⟨r, hr, e⟩ := hh
    refine Or.inl ⟨r, hr, e, ?_⟩
    have := h1.trans (e ▸ hR.got r hr (.held zT))
    injection this
  · have hn : ∀ r ∈ R, r.name ≠ t := fun r hr e => hh ⟨r, hr, e⟩
    refine Or.inr ⟨hn, ?_⟩
    have := h1.trans (Maps.atKey_of_not_has (hR.not hn) _)
    injection this

/-- the range's step -/
theorem wpList_step {ops : Array Oper} {rest : List Oper} {o : Oper} {a : Act} {Q : Exit → Act → World → Prop} (w : World) (hg : o.guard = none) (it : Operand) (hop : o.op = Op.next it false) (b r n : Nat) (D : DataW Value) (R : List Ck) (hR : Hs D R) (left : Lit → Bool) (cnt : Nat)
    (hit : a.eval it = .pointer (some ⟨r, 0, none⟩)) (h : Rng w b r n D left cnt)
    (hDone : (∀ kl, left kl = false) → wpList Tryz.prog ops Q rest (a.put o.dst (.tuple #[.bool false])) w)
    (hMore : ∀ (x : Ck) (w' : World) (cnt' : Nat), x ∈ R → left (keyL x.name) = true → x.name.size ≤ maxLen → Rng w' b r n D (fun z => left z && !z.sameKey (keyL x.name)) cnt' → cnt' < cnt → w.grownBy w' (some r) → w'.heap.size = w.heap.size →
      (Instr.entry (.pointer (some ⟨r, 0, none⟩))).run Tryz.prog w' = .ok (.tuple #[.string x.name, .agg #[.string x.value, .int .i64 x.age, .int .i64 x.since]]) w' →
      wpList Tryz.prog ops Q rest (a.put o.dst (.tuple #[.bool true, .string x.name, .agg #[.string x.value, .int .i64 x.age, .int .i64 x.since]])) w') :
    wpList Tryz.prog ops Q (o :: rest) a w := by
  refine wpList_next_ranges (α := ByteArray) (β := Value) w hg it hop 9 keyed rdV Value.string (fun v => v) (fun key kl hk => by obtain ⟨x, rfl, _⟩ := keyOf_str_inv hk; exact ⟨x, rfl⟩) (fun v y _ => ⟨v, rfl⟩) b r n D left cnt hit h (fun _ hl => hDone hl) ?_
  intro x c kl y w' cnt' hkey hlk hv hat hrg hlt hgr hsz hen
  obtain ⟨x', ex, hkl, hxs⟩ := keyOf_str_inv hkey
  cases ex
  obtain ⟨z, hz, e⟩ := hR.all kl (Maps.has_true_of_atKey hat)
  rw [hkl] at e
  have e2 := keyL_inj e
  subst e2
  subst hkl
  have h1 : DataW.held c = .held z.val := by
    have h2 := hR.got z hz (.held zT)
    rw [hat] at h2
    have h3 := Option.some.inj hv
    rw [← h2]; exact congrArg Prod.fst h3
  have h4 : c = z.val := by injection h1
  subst h4
  exact hMore z w' cnt' hz hlk hxs hrg hlt hgr hsz hen
end Go.Proofs.YtlefalplljgkeaaGreatDoor.ag
