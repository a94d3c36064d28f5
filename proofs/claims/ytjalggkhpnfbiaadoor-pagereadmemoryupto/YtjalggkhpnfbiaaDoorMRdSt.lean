import Derived.Test.YtjalggkhpnfbiaaDoorMRdLab
namespace Go.Proofs.YtjalggkhpnfbiaaDoor.pg
open Go.ChangeShapes Go.WideShapes Go.ChangeAt Go.RowKit Go.Proofs.YtjalggkhpnfbiaaDoor.common Go.Maps

/-- the reader within a method that began at W -/
structure Sr (b : Nat) (ea : Addr) (W w : World) (s : ByteArray) : Prop where
  kr : Kr b W w
  rr : Rr w b s
  env : REnv w b ea
  sz : s.size < 140737488355328
  lt : b < W.heap.size
theorem Sr.start {b : Nat} {ea : Addr} {w : World} {s : ByteArray} (hs : s.size < 140737488355328) (h : Rr w b s) (he : REnv w b ea) : Sr b ea w w s := ⟨Kr.refl _ _, h, he, hs, h.lt⟩
theorem Sr.next {b : Nat} {ea : Addr} {W w w' : World} {s r : ByteArray} (H : Sr b ea W w s) (hk : Kr b w w') (hr : Rr w' b r) (hs : r.size ≤ s.size) : Sr b ea W w' r :=
  ⟨H.kr.trans hk, hr, H.env.next hk (Nat.le_of_lt H.rr.lt), Nat.lt_of_le_of_lt hs H.sz, H.lt⟩
theorem Sr.stay {b : Nat} {ea : Addr} {W w w' : World} {s : ByteArray} (H : Sr b ea W w s) (hk : Below w.heap.size w w') : Sr b ea W w' s := H.next (Kr.of hk) (H.rr.below hk) (Nat.le_refl _)
theorem Sr.alloc {b : Nat} {ea : Addr} {W w : World} {s : ByteArray} (H : Sr b ea W w s) (o : Obj) : Sr b ea W (w.alloc o) s := H.stay ((Below.refl _ _).alloc (Nat.le_refl _) _)
theorem Sr.cell {b : Nat} {ea : Addr} {W w : World} {s : ByteArray} (H : Sr b ea W w s) (a : Addr) (v : Value) (ha : W.heap.size ≤ a.block) : Sr b ea W (w.setCell a v) s := by
  have hb : a.block ≠ b := by have := H.lt; omega
  have hl := H.env.lt
  have hl2 := H.env.lt2
  have hB : Below (b + 1) w (w.setCell a v) := ⟨rfl, rfl, rfl, by simp [World.setCell], fun k hk => Below.heap_setCell w a v k (by have := H.lt; omega)⟩
  refine ⟨H.kr.above a v ha, ?_, ⟨H.env.esc.under hB (by omega), H.env.txt.under hB (by omega), hl, hl2⟩, H.sz, H.lt⟩
  unfold Rr
  rw [Below.heap_setCell w a v b (Ne.symm hb)]
  exact H.rr
/-- a method has been called -/
theorem Sr.of {α : Type} {b : Nat} {ea : Addr} {W w : World} {s : ByteArray} (H : Sr b ea W w s) {val : α → Value} {o : Option (α × List UInt8)} {e : Ending} {w' : World} (h : RPost b ea w val o e w') (hl : ∀ x r, o = some (x, r) → r.length ≤ s.data.toList.length) :
    Kr b w w' ∧ ((∃ x r, o = some (x, r.data.toList) ∧ e = .returned (val x) ∧ Sr b ea W w' r) ∨ (o = none ∧ e = PX ea ∧ Kr b W w')) := by
  obtain ⟨hk, ⟨x, r, h1, h2, h3⟩ | ⟨h1, h2⟩⟩ := h
  · refine ⟨hk, Or.inl ⟨x, r, h1, h2, H.next hk h3 ?_⟩⟩
    have := hl _ _ h1
    rwa [len_list, len_list] at this
  · exact ⟨hk, Or.inr ⟨h1, h2, H.kr.trans hk⟩⟩
theorem len_of {a s r : List UInt8} (h : s = a ++ r) : r.length ≤ s.length := by rw [h, List.length_append]; omega

theorem Sr.must {b : Nat} {ea : Addr} {W w : World} {s : ByteArray} (H : Sr b ea W w s) (m : ByteArray) :
    Calls Tryd.prog 38 #[ptr b, .string m] w fun e w' => Kr b w w' ∧ ((∃ r, skp m.data.toList s.data.toList = some r.data.toList ∧ e = .returned (.tuple #[]) ∧ Sr b ea W w' r) ∨ (skp m.data.toList s.data.toList = none ∧ e = PX ea ∧ Kr b W w')) := by
  refine (must_any b s m ea w H.rr H.env.txt H.env.lt2).mono ?_
  intro e w' h
  obtain ⟨hk, h | h⟩ := H.of h (fun x r hx => by
    cases hq : skp m.data.toList s.data.toList with
    | none => rw [hq] at hx; cases hx
    | some q => rw [hq] at hx; injection hx with hx; injection hx with _ hx; subst hx; exact len_of (skp_is hq))
  · obtain ⟨x, r, h1, h2, h3⟩ := h
    refine ⟨hk, Or.inl ⟨r, ?_, h2, h3⟩⟩
    cases hq : skp m.data.toList s.data.toList with
    | none => rw [hq] at h1; cases h1
    | some q => rw [hq] at h1; injection h1 with h1; injection h1 with _ h1; rw [h1]
  · obtain ⟨h1, h2, h3⟩ := h
    refine ⟨hk, Or.inr ⟨?_, h2, h3⟩⟩
    cases hq : skp m.data.toList s.data.toList with
    | none => rfl
    | some q => rw [hq] at h1; cases h1
theorem cut_false {s m : ByteArray} (h : (cutB s m).2 = false) : (cutB s m).1 = s := by
  revert h
  unfold cutB
  cases m.data.toList.isPrefixOf s.data.toList with
  | true => intro h; cases h
  | false => intro _; rfl
theorem Sr.skip {b : Nat} {ea : Addr} {W w : World} {s : ByteArray} (H : Sr b ea W w s) (m : ByteArray) :
    Calls Tryd.prog 40 #[ptr b, .string m] w fun e w' => Kr b w w' ∧ ((∃ r, skp m.data.toList s.data.toList = some r.data.toList ∧ e = .returned (.bool true) ∧ Sr b ea W w' r) ∨ (skp m.data.toList s.data.toList = none ∧ e = .returned (.bool false) ∧ Sr b ea W w' s)) := by
  refine (skip_any b s m w H.rr).mono ?_
  rintro e w' ⟨rfl, rfl⟩
  have hk := Kr.set b w 0 (.string (cutB s m).1)
  have hr := H.rr.set (cutB s m).1
  have hq := skp_cut s m
  refine ⟨hk, ?_⟩
  cases hc : (cutB s m).2 with
  | true =>
    rw [hc, if_pos rfl] at hq
    refine Or.inl ⟨_, hq, rfl, H.next hk hr ?_⟩
    have := len_of (skp_is hq)
    rwa [len_list, len_list] at this
  | false =>
    rw [hc] at hq
    refine Or.inr ⟨hq, rfl, ?_⟩
    have e := cut_false hc
    rw [e] at hk hr
    rw [e]
    exact H.next hk hr (Nat.le_refl _)
theorem Sr.text {b : Nat} {ea : Addr} {W w : World} {s : ByteArray} (H : Sr b ea W w s) (c : UInt8) :
    Calls Tryd.prog 39 #[ptr b, B c] w fun e w' => Kr b w w' ∧ ((∃ x r, txtL c s.data.toList = some (x, r.data.toList) ∧ e = .returned (.string x) ∧ Sr b ea W w' r) ∨ (txtL c s.data.toList = none ∧ e = PX ea ∧ Kr b W w')) :=
  (rdText_any b s c ea w H.sz H.rr H.env.esc H.env.txt).mono fun _ _ h => H.of h fun _ _ hx => len_of (txtL_is hx).1
theorem Sr.name {b : Nat} {ea : Addr} {W w : World} {s : ByteArray} (H : Sr b ea W w s) :
    Calls Tryd.prog 72 #[ptr b] w fun e w' => Kr b w w' ∧ ((∃ x r, namL s.data.toList = some (x, r.data.toList) ∧ e = .returned (.string x) ∧ Sr b ea W w' r) ∨ (namL s.data.toList = none ∧ e = PX ea ∧ Kr b W w')) :=
  (name_any b s ea w H.sz H.rr H.env).mono fun _ _ h => H.of h fun _ _ hx => len_of (namL_is hx).1
theorem Sr.label {b : Nat} {ea : Addr} {W w : World} {s : ByteArray} (H : Sr b ea W w s) :
    Calls Tryd.prog 73 #[ptr b] w fun e w' => Kr b w w' ∧ ((∃ x r, labL s.data.toList = some (x, r.data.toList) ∧ e = .returned (.string x) ∧ Sr b ea W w' r) ∨ (labL s.data.toList = none ∧ e = PX ea ∧ Kr b W w')) :=
  (labelAhead_any b s ea w H.sz H.rr H.env).mono fun _ _ h => H.of h fun _ _ hx => len_of (labL_is hx)
theorem Sr.val {b : Nat} {ea : Addr} {W w : World} {s : ByteArray} (H : Sr b ea W w s) (k : Int) :
    Calls Tryd.prog 64 #[ptr b, .int .i64 k] w fun e w' => Kr b w w' ∧ ((∃ x r, valL k s.data.toList = some (x, r.data.toList) ∧ e = .returned (inV x) ∧ Sr b ea W w' r) ∨ (valL k s.data.toList = none ∧ e = PX ea ∧ Kr b W w')) :=
  (nameAndValue_any b s k ea w H.sz H.rr H.env).mono fun _ _ h => H.of h fun x r hx => by
    have h1 := (valL_is hx).1
    rw [h1]; simp only [List.length_append]; omega

/-- an input's four cells in a block of one's own -/
abbrev c4 : Obj := .cells #[.int .i64 0, .string ⟨#[]⟩, .string ⟨#[]⟩, .string ⟨#[]⟩] 28
theorem at_new (w : World) (o : Obj) : (w.alloc o).heap[w.heap.size]? = some o := by show (w.heap.push _)[w.heap.size]? = _; simp
theorem four_cells {w : World} {F : Nat} {x y z u : Value} {t : TypeId} (h : w.heap[F]? = some (.cells #[x, y, z, u] t)) :
    w.cell? ⟨F, 0, none⟩ = some x ∧ w.cell? ⟨F, 0 + 1, none⟩ = some y ∧ w.cell? ⟨F, 0 + 2, none⟩ = some z ∧ w.cell? ⟨F, 0 + 3, none⟩ = some u ∧
    w.frozen? ⟨F, 0, none⟩ = false ∧ w.frozen? ⟨F, 0 + 1, none⟩ = false ∧ w.frozen? ⟨F, 0 + 2, none⟩ = false ∧ w.frozen? ⟨F, 0 + 3, none⟩ = false := by
  simp [World.cell?, World.frozen?, h]
theorem Kr.at {b : Nat} {w w' : World} (h : Kr b w w') {F : Nat} {o : Obj} (hF : w.heap[F]? = some o) (hn : F ≠ b) : w'.heap[F]? = some o := (h.block F (Array.getElem?_eq_some_iff.1 hF).1 hn).trans hF
theorem set_last {w : World} {F : Nat} {x y z u : Value} {t : TypeId} (h : w.heap[F]? = some (.cells #[x, y, z, u] t)) (v : Value) : (w.setCell ⟨F, 3, none⟩ v).heap[F]? = some (.cells #[x, y, z, v] t) := by
  simp [World.setCell, Array.getElem?_modify, h]
/-- the four cells are written -/
abbrev w4 (w : World) (F : Nat) (x : Inp) : World := (((w.setCell ⟨F, 0, none⟩ (.int .i64 x.kind)).setCell ⟨F, 1, none⟩ (.string x.name)).setCell ⟨F, 2, none⟩ (.string x.value)).setCell ⟨F, 3, none⟩ (.string x.label)
theorem Sr.four {b : Nat} {ea : Addr} {W w : World} {s : ByteArray} (H : Sr b ea W w s) (F : Nat) (hF : W.heap.size ≤ F) (x : Inp) : Sr b ea W (w4 w F x) s :=
  (((H.cell ⟨F, 0, none⟩ _ hF).cell ⟨F, 1, none⟩ _ hF).cell ⟨F, 2, none⟩ _ hF).cell ⟨F, 3, none⟩ _ hF
theorem off4 (w : World) (F : Nat) (x : Inp) (k : Nat) (hk : k ≠ F) : (w4 w F x).heap[k]? = w.heap[k]? := by
  rw [Below.heap_setCell _ _ _ _ hk, Below.heap_setCell _ _ _ _ hk, Below.heap_setCell _ _ _ _ hk, Below.heap_setCell _ _ _ _ hk]
end Go.Proofs.YtjalggkhpnfbiaaDoor.pg
