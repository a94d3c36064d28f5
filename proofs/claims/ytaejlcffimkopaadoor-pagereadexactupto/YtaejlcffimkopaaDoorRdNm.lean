import Derived.Test.YtaejlcffimkopaaDoorRdUp
namespace Go.Proofs.YtaejlcffimkopaaDoor.pg
open Go.ChangeShapes Go.WideShapes Go.ChangeAt Go.RowKit Go.Proofs.YtaejlcffimkopaaDoor.common Go.Maps
attribute [local go_sem ↓] Go.wp_at_zero Go.wp_at_succ

theorem cell_of {w : World} {F : Nat} {a : Array Value} {t : TypeId} (h : w.heap[F]? = some (.cells a t)) (j : Nat) : w.cell? ⟨F, j, none⟩ = a[j]? := by simp [World.cell?, h]
theorem free_of {w : World} {F : Nat} {a : Array Value} {t : TypeId} (h : w.heap[F]? = some (.cells a t)) (j : Nat) : w.frozen? ⟨F, j, none⟩ = false := by simp [World.frozen?, h]
theorem set_of {w : World} {F : Nat} {a : Array Value} {t : TypeId} (h : w.heap[F]? = some (.cells a t)) (j : Nat) (v : Value) : (w.setCell ⟨F, j, none⟩ v).heap[F]? = some (.cells (a.setIfInBounds j v) t) := by
  simp [World.setCell, Array.getElem?_modify, h]
theorem range_of {w : World} {F : Nat} {l : List Value} {t : TypeId} (h : w.heap[F]? = some (.cells l.toArray t)) : w.rangeAt F 0 l := fun j v hv => by
  rw [Nat.zero_add]
  simp only [World.cell?, h]
  simpa using hv
theorem heap_new (w : World) (o : Obj) : (w.alloc o).heap[w.heap.size]? = some o := by show (w.heap.push _)[w.heap.size]? = _; simp
theorem heap_old (w : World) (o : Obj) {b : Nat} {p : Obj} (h : w.heap[b]? = some p) : (w.alloc o).heap[b]? = some p := by
  have := (Array.getElem?_eq_some_iff.1 h).1
  show (w.heap.push _)[b]? = _
  rw [Array.getElem?_push, if_neg (by omega), h]
theorem heap_set (w : World) (a : Addr) (u : Value) {b : Nat} {p : Obj} (h : w.heap[b]? = some p) (hn : b ≠ a.block) : (w.setCell a u).heap[b]? = some p := (Below.heap_setCell w a u b hn).trans h
theorem size_set (w : World) (a : Addr) (u : Value) : (w.setCell a u).heap.size = w.heap.size := by simp [World.setCell]
theorem Kr.keep {p : Nat} {w w' : World} (h : Kr p w w') {b : Nat} {o : Obj} (hb : w.heap[b]? = some o) (hn : b ≠ p) : w'.heap[b]? = some o := (h.block b (Array.getElem?_eq_some_iff.1 hb).1 hn).trans hb
theorem Kr.put {p : Nat} {w w' : World} (h : Kr p w w') (a : Addr) (u : Value) (ha : w.heap.size ≤ a.block) : Kr p w (w'.setCell a u) :=
  ⟨h.os, h.tape, h.output, by rw [size_set]; exact h.size, fun k hk hn => (Below.heap_setCell w' a u k (by omega)).trans (h.block k hk hn)⟩
theorem Kr.more {p : Nat} {w w' : World} (h : Kr p w w') (o : Obj) : Kr p w (w'.alloc o) := h.trans (Kr.of ((Below.refl _ _).alloc (Nat.le_refl _) _))
theorem Pl.put {w : World} {p : Nat} {s : ByteArray} {a : Nat} {l : Bool} (h : Pl w p s a l) (x : Addr) (u : Value) (hx : p ≠ x.block) : Pl (w.setCell x u) p s a l := heap_set w x u h hx
theorem Pl.more {w : World} {p : Nat} {s : ByteArray} {a : Nat} {l : Bool} (h : Pl w p s a l) (o : Obj) : Pl (w.alloc o) p s a l := heap_old w o h
theorem Pl.lt {w : World} {p : Nat} {s : ByteArray} {a : Nat} {l : Bool} (h : Pl w p s a l) : p < w.heap.size := (Array.getElem?_eq_some_iff.1 h).1
theorem put_four {w : World} {F : Nat} {t : TypeId} {x0 x1 x2 x3 : Value} (h : w.heap[F]? = some (.cells #[x0, x1, x2, x3] t)) (a0 a1 a2 a3 : Value) : ((((w.setCell ⟨F, 0, none⟩ a0).setCell ⟨F, 1, none⟩ a1).setCell ⟨F, 2, none⟩ a2).setCell ⟨F, 3, none⟩ a3).heap[F]? = some (.cells #[a0, a1, a2, a3] t) := by
  have h0 : (w.setCell ⟨F, 0, none⟩ a0).heap[F]? = some (.cells #[a0, x1, x2, x3] t) := set_of h 0 a0
  generalize w.setCell ⟨F, 0, none⟩ a0 = w0 at h0 ⊢
  have h1 : (w0.setCell ⟨F, 1, none⟩ a1).heap[F]? = some (.cells #[a0, a1, x2, x3] t) := set_of h0 1 a1
  generalize w0.setCell ⟨F, 1, none⟩ a1 = w1 at h1 ⊢
  have h2 : (w1.setCell ⟨F, 2, none⟩ a2).heap[F]? = some (.cells #[a0, a1, a2, x3] t) := set_of h1 2 a2
  generalize w1.setCell ⟨F, 2, none⟩ a2 = w2 at h2 ⊢
  have h3 : (w2.setCell ⟨F, 3, none⟩ a3).heap[F]? = some (.cells #[a0, a1, a2, a3] t) := set_of h2 3 a3
  exact h3
theorem pass_rel (p : Nat) (s m : ByteArray) (a : Nat) (l : Bool) (w : World) (h : Pl w p s a l) (ha : a ≤ s.size) (hs : s.size ≤ 1099511627776) (hm : m.size ≤ 1000) :
    Calls Tryd.prog 49 #[ptr p, .string m] w fun e w' => ∃ a' l', e = .returned (.tuple #[]) ∧ Kr p w w' ∧ Pl w' p s a' l' ∧ a ≤ a' ∧ a' ≤ s.size ∧ RelS m s a l a' l' := by
  refine (pass_any p s m a l w h ha hs hm).mono ?_
  rintro e w' ⟨rfl, hk, ⟨h1, h2, h3⟩ | ⟨h1, h2⟩⟩
  · exact ⟨_, _, rfl, hk, h3, by omega, h2, ⟨fun e => ⟨e, h1⟩, fun e => Or.inl e⟩⟩
  · exact ⟨_, _, rfl, hk, h2, Nat.le_refl _, ha, ⟨fun e => (by cases e), fun _ => Or.inr h1⟩⟩

set_option maxRecDepth 100000 in
set_option maxHeartbeats 1600000 in
theorem named_any (p : Nat) (s : ByteArray) (a : Nat) (l : Bool) (w : World) (h : Pl w p s a l) (ha : a ≤ s.size) (hs : s.size ≤ 1099511627776) :
    Calls Tryd.prog 68 #[ptr p] w fun e w' => ∃ v a' l', e = .returned (.string v) ∧ Kr p w w' ∧ Pl w' p s a' l' ∧ a ≤ a' ∧ a' ≤ s.size ∧ Rel nmD s a l v a' l' := by
  have HP := hide h
  clear h
  go_enter Tryd.func68, Tryd.ntmps68
  go_wp2_with fail
  refine (upTo_any p s 34 a l w HP.out ha hs).mono ?_
  rintro e w1 ⟨v, a1, l1, rfl, K1, P1, le1, ha1, R1⟩
  go_wp2_with fail
  refine (pass_rel p s mQuote a1 l1 w1 P1 ha1 hs (by decide)).mono ?_
  rintro e w2 ⟨a2, l2, rfl, K2, P2, le2, ha2, R2⟩
  go_wp2_with fail
  go_ret
  exact ⟨v, a2, l2, rfl, K1.trans K2, P2, by omega, ha2, R1.bind (g := fun v y => (skp mQuote.data.toList y).bind fun r => some (v, r)) (R2.bind (Rel.ret s a2 l2 v))⟩

set_option maxRecDepth 100000 in
set_option maxHeartbeats 1600000 in
theorem valued_any (p : Nat) (s : ByteArray) (a : Nat) (l : Bool) (w : World) (h : Pl w p s a l) (ha : a ≤ s.size) (hs : s.size ≤ 1099511627776) :
    Calls Tryd.prog 85 #[ptr p] w fun e w' => ∃ v a' l', e = .returned (.string v) ∧ Kr p w w' ∧ Pl w' p s a' l' ∧ a ≤ a' ∧ a' ≤ s.size ∧ Rel vlD s a l v a' l' := by
  have HP := hide h
  clear h
  go_enter Tryd.func85, Tryd.ntmps85
  go_wp2_with fail
  refine (pass_rel p s mValD a l w HP.out ha hs (by decide)).mono ?_
  rintro e w1 ⟨a1, l1, rfl, K1, P1, le1, ha1, R1⟩
  go_wp2_with fail
  refine (named_any p s a1 l1 w1 P1 ha1 hs).mono ?_
  rintro e w2 ⟨v, a2, l2, rfl, K2, P2, le2, ha2, R2⟩
  go_wp2_with fail
  go_ret
  exact ⟨v, a2, l2, rfl, K1.trans K2, P2, by omega, ha2, R1.bind R2⟩

theorem rest_back {s : ByteArray} {a1 a2 : Nat} {x : List UInt8} (h : rest s a1 = (x ++ [32]) ++ rest s a2) (h1 : a1 ≤ s.size) (h2 : a2 ≤ s.size) : rest s (a2 - 1) = 32 :: rest s a2 := by
  have hl := congrArg List.length h
  unfold rest at hl
  rw [List.length_append, List.length_append, List.length_drop, List.length_drop, len_list, List.length_singleton] at hl
  have e : rest s (a2 - 1) = (rest s a1).drop x.length := by unfold rest; rw [List.drop_drop]; congr 1; omega
  rw [e, h, List.append_assoc, List.drop_left]
  rfl
theorem last_split {v : ByteArray} (h : v.data.toList.getLast? = some 32) : v.data.toList = v.data.toList.dropLast ++ [32] := by
  have hne : v.data.toList ≠ [] := by intro e; rw [e] at h; cases h
  have := List.dropLast_concat_getLast hne
  rw [List.getLast?_eq_some_getLast hne] at h
  injection h with h
  rw [h] at this
  exact this.symm
theorem lb_no {s : ByteArray} {a a1 a2 : Nat} {l l1 l2 : Bool} {v : ByteArray} {x : Inp} (h1 : RelS mLabelHead s a l a1 l1) (h2 : Rel (txtL 60) s a1 l1 v a2 l2) (hv : v.data.toList.getLast? ≠ some 32) : Rel lbD s a l x a2 true := by
  refine ⟨fun e => (by cases e), fun _ => ?_⟩
  have key : ∀ y, skp mLabelHead.data.toList (rest s a) = some y → txtL 60 y = none → lbD (rest s a) = none := fun y e1 e2 => by unfold lbD; rw [e1, Option.bind_some, e2, Option.bind_none]
  cases hl : l1 with
  | true =>
    rcases h1.no hl with h | h
    · exact Or.inl h
    · exact Or.inr (by unfold lbD; rw [h, Option.bind_none])
  | false =>
    obtain ⟨e1, e2⟩ := h1.yes hl
    cases hl2 : l2 with
    | true =>
      rcases h2.no hl2 with h | h
      · rw [hl] at h; cases h
      · exact Or.inr (key _ e2 h)
    | false =>
      obtain ⟨_, e3⟩ := h2.yes hl2
      refine Or.inr ?_
      unfold lbD
      rw [e2, Option.bind_some, e3, Option.bind_some, if_neg hv]
theorem lb_yes {s : ByteArray} {a a1 a2 a3 : Nat} {l l1 l2 l3 : Bool} {v : ByteArray} {x : Inp} (h1 : RelS mLabelHead s a l a1 l1) (h2 : Rel (txtL 60) s a1 l1 v a2 l2) (hv : v.data.toList.getLast? = some 32) (ha1 : a1 ≤ s.size) (ha2 : a2 ≤ s.size) (h3 : Rel (lbT ⟨v.data.toList.dropLast.toArray⟩) s (a2 - 1) l2 x a3 l3) : Rel lbD s a l x a3 l3 := by
  have key : l1 = false → l2 = false → l = false ∧ lbD (rest s a) = lbT ⟨v.data.toList.dropLast.toArray⟩ (rest s (a2 - 1)) := by
    intro hl hl2
    obtain ⟨e1, e2⟩ := h1.yes hl
    obtain ⟨_, e3⟩ := h2.yes hl2
    refine ⟨e1, ?_⟩
    have ht := (txtL_is e3).1
    rw [last_split hv] at ht
    have he : Pg.esc (v.data.toList.dropLast ++ [32]) = Pg.esc v.data.toList.dropLast ++ [32] := (esc_blank ⟨v.data.toList.dropLast.toArray⟩).symm
    rw [he] at ht
    rw [rest_back ht ha1 ha2]
    unfold lbD
    rw [e2, Option.bind_some, e3, Option.bind_some, if_pos hv]
  refine ⟨fun e => ?_, fun e => ?_⟩
  · obtain ⟨e1, e2⟩ := h3.yes e
    have hl1 := (h2.yes e1).1
    obtain ⟨e3, e4⟩ := key hl1 e1
    exact ⟨e3, by rw [e4]; exact e2⟩
  · cases hl : l1 with
    | true =>
      rcases h1.no hl with h | h
      · exact Or.inl h
      · exact Or.inr (by unfold lbD; rw [h, Option.bind_none])
    | false =>
      obtain ⟨e1, e2⟩ := h1.yes hl
      cases hl2 : l2 with
      | true =>
        rcases h2.no hl2 with h | h
        · rw [hl] at h; cases h
        · exact Or.inr (by unfold lbD; rw [e2, Option.bind_some, h, Option.bind_none])
      | false =>
        obtain ⟨e3, e4⟩ := key hl hl2
        rcases h3.no e with h | h
        · rw [hl2] at h; cases h
        · exact Or.inr (by rw [e4]; exact h)
theorem lbT_text {s : ByteArray} {lb n v : ByteArray} {a a1 a2 a3 a4 : Nat} {l l1 l2 l3 l4 : Bool} {r : List UInt8} (hk : skp mTextName.data.toList (rest s a) = some r) (h1 : RelS mTextName s a l a1 l1) (h2 : Rel nmD s a1 l1 n a2 l2) (h3 : Rel vlD s a2 l2 v a3 l3) (h4 : RelS mEndD s a3 l3 a4 l4) : Rel (lbT lb) s a l ⟨2, n, v, lb⟩ a4 l4 := by
  have R := h1.bind (h2.bind (g := fun n y => (vlD y).bind fun v => (skp mEndD.data.toList v.2).bind fun r => some ((⟨2, n, v.1, lb⟩ : Inp), r)) (h3.bind (g := fun v y => (skp mEndD.data.toList y).bind fun r => some ((⟨2, n, v, lb⟩ : Inp), r)) (h4.bind (Rel.ret s a4 l4 _))))
  have e : lbT lb (rest s a) = (skp mTextName.data.toList (rest s a)).bind fun r => (nmD r).bind fun n => (vlD n.2).bind fun v => (skp mEndD.data.toList v.2).bind fun r => some (⟨2, n.1, v.1, lb⟩, r) := by
    unfold lbT
    rw [hk]
    rfl
  exact ⟨fun x => ⟨(R.yes x).1, e.trans (R.yes x).2⟩, fun x => (R.no x).imp (fun h => h) (fun h => e.trans h)⟩
theorem lbT_secret {s : ByteArray} {lb n : ByteArray} {a a1 a2 a3 : Nat} {l l1 l2 l3 : Bool} (hk : skp mTextName.data.toList (rest s a) = none) (h1 : RelS mSecretName s a l a1 l1) (h2 : Rel nmD s a1 l1 n a2 l2) (h3 : RelS mEndD s a2 l2 a3 l3) : Rel (lbT lb) s a l ⟨3, n, ⟨#[]⟩, lb⟩ a3 l3 := by
  have R := h1.bind (h2.bind (g := fun n y => (skp mEndD.data.toList y).bind fun r => some ((⟨3, n, ⟨#[]⟩, lb⟩ : Inp), r)) (h3.bind (Rel.ret s a3 l3 _)))
  have e : lbT lb (rest s a) = (skp mSecretName.data.toList (rest s a)).bind fun r => (nmD r).bind fun n => (skp mEndD.data.toList n.2).bind fun r => some (⟨3, n.1, ⟨#[]⟩, lb⟩, r) := by
    unfold lbT
    rw [hk]
  exact ⟨fun x => ⟨(R.yes x).1, e.trans (R.yes x).2⟩, fun x => (R.no x).imp (fun h => h) (fun h => e.trans h)⟩
end Go.Proofs.YtaejlcffimkopaaDoor.pg
