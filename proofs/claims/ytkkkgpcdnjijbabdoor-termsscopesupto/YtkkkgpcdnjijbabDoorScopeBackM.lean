import Derived.Test.YtkkkgpcdnjijbabDoorScopeOrdM
namespace Go.Proofs.YtkkkgpcdnjijbabDoor.tm
open Go.RowKit Go.Proofs.YtkkkgpcdnjijbabDoor.common Go.Proofs.YtkkkgpcdnjijbabDoor.bk
open Go.Proofs.YtkkkgpcdnjijbabDoor.ss (joinS tot)

/-- a word ahead of the first -/
def pre (w : List UInt8) : List (List UInt8) → List (List UInt8)
  | h :: t => (w ++ h) :: t
  | [] => [w]
theorem pre_nil (c : UInt8) (l : List UInt8) : pre [] (Tm.split c l) = Tm.split c l := by
  cases h : Tm.split c l with
  | nil => exact absurd h (Tm.split_ne c l)
  | cons u t => rfl
theorem pre_sep (c : UInt8) (w r : List UInt8) : pre w (Tm.split c (c :: r)) = w :: pre [] (Tm.split c r) := by
  rw [pre_nil, Tm.split_cons, if_pos rfl]
  show (w ++ []) :: _ = _
  rw [List.append_nil]
theorem pre_not (c x : UInt8) (h : x ≠ c) (w r : List UInt8) : pre w (Tm.split c (x :: r)) = pre (w ++ [x]) (Tm.split c r) := by
  rw [Tm.split_cons, if_neg h]
  cases hs : Tm.split c r with
  | nil => exact absurd hs (Tm.split_ne c r)
  | cons u t => show (w ++ x :: u) :: t = (w ++ [x] ++ u) :: t; simp
theorem pre_end (c : UInt8) (w : List UInt8) : pre w (Tm.split c []) = [w] := by
  show [w ++ []] = _; rw [List.append_nil]

theorem btw_32 : scB 32 = false := by decide
/-- a scope has no blank -/
theorem sc_parts {x : ByteArray} (h : isSc x = true) : tsq.parts 32 x = [x] := by
  apply tsq.parts_none
  intro b hb e
  unfold isSc Tm.word at h
  rw [Bool.and_eq_true] at h
  have := List.all_eq_true.1 h.2 b hb
  rw [e, btw_32] at this; cases this
theorem sc_size {x : ByteArray} (h : isSc x = true) : x.size ≤ 32 := by
  unfold isSc Tm.word at h
  rw [Bool.and_eq_true, Bool.and_eq_true] at h
  have := of_decide_eq_true h.1.2
  rwa [len_list] at this
theorem mem_riseB {zs : List ByteArray} {x : ByteArray} : x ∈ riseB zs ↔ x ∈ zs := by
  unfold riseB
  rw [List.mem_map]
  constructor
  · rintro ⟨y, hy, rfl⟩
    have := ((Tm.rise_spec (raw zs)).2 y).1 hy
    unfold raw at this
    obtain ⟨z, hz, rfl⟩ := List.mem_map.1 this
    exact hz
  · intro h
    refine ⟨x.data.toList, ((Tm.rise_spec (raw zs)).2 _).2 ?_, rfl⟩
    unfold raw
    exact List.mem_map.2 ⟨x, h, rfl⟩
theorem riseB_lt (zs : List ByteArray) : (riseB zs).Pairwise fun a b => a.data.toList < b.data.toList := by
  unfold riseB
  rw [List.pairwise_map]
  exact (Tm.rise_spec (raw zs)).1
theorem riseB_again (l : List ByteArray) (h : l.Pairwise fun a b => a.data.toList < b.data.toList) : riseB l = l := by
  have e : rise (raw l) = raw l := by
    apply Tm.rising_one _ _ (Tm.rise_spec (raw l)).1
    · unfold raw; rw [List.pairwise_map]; exact h
    · exact (Tm.rise_spec (raw l)).2
  unfold riseB
  rw [e]
  unfold raw
  rw [List.map_map]
  exact (List.map_congr_left (fun _ _ => rfl)).trans (List.map_id l)

/-- what is known of scopes that were read -/
structure Good (s : ByteArray) (l : List ByteArray) : Prop where
  pos : 1 ≤ l.length
  most : l.length ≤ 16
  lt : l.Pairwise fun a b => a.data.toList < b.data.toList
  sc : ∀ x ∈ l, isSc x = true
  mem : ∀ x, x ∈ l ↔ x ∈ tsq.parts 32 s
theorem good_of {s : ByteArray} (ha : areSc s = true) (hm : many s = false) : Good s (scL s) := by
  have e : scL s = riseB (tsq.parts 32 s) := by unfold scL; rw [ha, hm]; rfl
  have hp : tsq.parts 32 s ≠ [] := by
    unfold tsq.parts
    intro h
    exact Tm.split_ne 32 s.data.toList (List.map_eq_nil_iff.1 h)
  rw [e]
  refine ⟨?_, ?_, riseB_lt _, fun x hx => List.all_eq_true.1 ha x (mem_riseB.1 hx), fun x => mem_riseB⟩
  · cases hq : tsq.parts 32 s with
    | nil => exact absurd hq hp
    | cons y t =>
      have : y ∈ riseB (y :: t) := mem_riseB.2 (List.mem_cons_self ..)
      exact List.length_pos_of_mem this
  · unfold many at hm
    have := of_decide_eq_false hm
    omega
/-- one scope alone is read as itself -/
theorem sc_alone {x : ByteArray} (h : isSc x = true) (eT eM : Value) : scE eT eM x = .nilIface ∧ scL x = [x] := by
  have ep := sc_parts h
  have ea : areSc x = true := by unfold areSc; rw [ep]; simp [h]
  have er : riseB (tsq.parts 32 x) = [x] := by rw [ep]; exact riseB_again [x] (List.pairwise_singleton _ _)
  constructor
  · unfold scE many; rw [ea, er]; rfl
  · unfold scL many; rw [ea, er]; rfl
/-- written, they are read again as they were -/
theorem good_back {s : ByteArray} {l : List ByteArray} (h : Good s l) (eT eM : Value) : scE eT eM (⟨(joinS l).toArray⟩ : ByteArray) = .nilIface ∧ scL (⟨(joinS l).toArray⟩ : ByteArray) = l := by
  have hne : l ≠ [] := fun e => by have := h.pos; rw [e] at this; exact absurd this (by decide)
  have ew : ∀ m : List ByteArray, (∀ x ∈ m, isSc x = true) → (wordsOf m).map (fun w => (⟨w.toArray⟩ : ByteArray)) = m := by
    intro m
    induction m with
    | nil => intro _; rfl
    | cons x r ih =>
      intro hm
      have e1 := sc_parts (hm x (List.mem_cons_self ..))
      have e2 := ih fun y hy => hm y (List.mem_cons_of_mem _ hy)
      unfold wordsOf at e2 ⊢
      unfold tsq.parts at e1
      rw [List.flatMap_cons, List.map_append, e1, e2]; rfl
  have ep : tsq.parts 32 (⟨(joinS l).toArray⟩ : ByteArray) = l := by rw [parts_join l hne, ew l h.sc]
  have ea : areSc (⟨(joinS l).toArray⟩ : ByteArray) = true := by unfold areSc; rw [ep]; exact List.all_eq_true.2 h.sc
  have er : riseB (tsq.parts 32 (⟨(joinS l).toArray⟩ : ByteArray)) = l := by rw [ep]; exact riseB_again l h.lt
  have hm : many (⟨(joinS l).toArray⟩ : ByteArray) = false := by unfold many; rw [er]; exact decide_eq_false (by have := h.most; omega)
  constructor
  · unfold scE; rw [ea, hm]; rfl
  · unfold scL; rw [ea, hm, er]; rfl
theorem good_bab (eT eM : Value) : scE eT eM ⟨#[98, 32, 97, 32, 98]⟩ = .nilIface ∧ scL ⟨#[98, 32, 97, 32, 98]⟩ = [⟨#[97]⟩, ⟨#[98]⟩] := by
  have ep : tsq.parts 32 ⟨#[98, 32, 97, 32, 98]⟩ = [⟨#[98]⟩, ⟨#[97]⟩, ⟨#[98]⟩] := rfl
  have ea : areSc ⟨#[98, 32, 97, 32, 98]⟩ = true := rfl
  have hr : rise [[98], [97], [98]] = [[97], [98]] := by
    apply Tm.rising_one _ _ (Tm.rise_spec _).1 (by decide)
    intro x
    rw [(Tm.rise_spec _).2 x]
    simp only [List.mem_cons, List.not_mem_nil, or_false]
    constructor
    · rintro (h | h | h) <;> simp [h]
    · rintro (h | h) <;> simp [h]
  have er : riseB (tsq.parts 32 ⟨#[98, 32, 97, 32, 98]⟩) = [⟨#[97]⟩, ⟨#[98]⟩] := by
    rw [ep]
    unfold riseB
    rw [show raw [(⟨#[98]⟩ : ByteArray), ⟨#[97]⟩, ⟨#[98]⟩] = [[98], [97], [98]] from rfl, hr]; rfl
  constructor
  · unfold scE many; rw [ea, er]; rfl
  · unfold scL many; rw [ea, er]; rfl

end Go.Proofs.YtkkkgpcdnjijbabDoor.tm
