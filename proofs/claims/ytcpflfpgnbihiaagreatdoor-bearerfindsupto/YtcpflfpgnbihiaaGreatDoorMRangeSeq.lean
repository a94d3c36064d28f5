import Derived.RangeFuncNested
import Derived.RangeFuncBound
import Derived.RangeFuncCalls
import Derived.RangeFuncLeaves
import Derived.RangeFuncBox
import Derived.Below
namespace Go.Proofs.YtcpflfpgnbihiaaGreatDoor.rng
open Go.RowKit

variable {F : Fence} {n : Nat} {P : Program}

theorem set_heap_other (W : World) (b k : Nat) (v : Value) (h : k ≠ b) : (W.setCell ⟨b, 0, none⟩ v).heap[k]? = W.heap[k]? := by
  by_cases hk : k < W.heap.size
  · exact (grownBy_setCell' W b v).block k hk (fun e => h (by cases e; rfl))
  · have hs := (grownBy_setCell' W b v).size
    have hs2 : (W.setCell ⟨b, 0, none⟩ v).heap.size = W.heap.size := by
      unfold World.setCell; simp
    rw [Array.getElem?_eq_none (by omega), Array.getElem?_eq_none (by omega)]

/-- how a round may be left: off its end, with the boxes of the iterator kept; or by a break -/
def post {α : Type} (Kp : World → World → Prop) (I : List α → World → Prop) (Ix : Nat → List α → World → Prop) (xs : List α) (W : World) : Exit → Act → World → Prop
  | .normal, _, W' => KeepsOthers W W' ∧ Kp W W' ∧ I xs W'
  | .exit id, _, W' => KeepsOthers W W' ∧ Ix id xs W'
  | _, _, _ => False

/-- an iterator that keeps what is left in a box of its own (block b) and hands it on round by round -/
def Seq {α : Type} (F : Fence) (n : Nat) (P : Program) (gf : Nat) (lb : Array Value) (enc : α → Array Value) (b : Nat) (Kp : World → World → Prop) (S Sp : List α → Prop) (W : World) : Prop :=
  ∀ (l : Nat) (J Jx : List α → World → Prop) (W1 : World), Kp W W1 →
    (∀ pre A v, J pre A → J pre (A.setCell ⟨b, 0, none⟩ v)) → (∀ pre A, J pre A → J pre A.drew) → (∀ pre A v, Jx pre A → Jx pre (A.setCell ⟨b, 0, none⟩ v)) → (∀ pre A, Jx pre A → Jx pre A.drew) →
    (∀ pre x A, J pre A → YieldAt F (n - 1) P l (enc x) A fun e A' => (e = .returned (.bool true) ∧ J (pre ++ [x]) A' ∧ Kp A A') ∨ (e = .returned (.bool false) ∧ Jx (pre ++ [x]) A')) →
    J [] W1 →
    CallsIn F n P gf (#[.func (.yield l) #[] #[]] ++ lb) W1 fun e W' => (∃ v, e = .returned v) ∧ ((∃ xs, S xs ∧ J xs W') ∨ (∃ pre, Sp pre ∧ Jx pre W'))

/-- what a statement about the caller's own cells must abide: new blocks and turns of the loop's own records, a store into the iterator's box, a draw -/
structure Abides {α : Type} (N b : Nat) (I : List α → World → Prop) : Prop where
  put : ∀ pre A l o o', I pre A → N ≤ l → A.heap[l]? = some o → o.isCells = false → I pre (A.putObj l o')
  alloc : ∀ pre A o, I pre A → I pre (A.alloc o)
  set : ∀ pre A v, I pre A → I pre (A.setCell ⟨b, 0, none⟩ v)
  drew : ∀ pre A, I pre A → I pre A.drew

/-- A RANGE OVER AN ITERATOR WITH A BOX OF ITS OWN -/
theorem range_law {α : Type} {g : Operand} {ps : Array Tmp} {assign body : Code} {Q : Exit → Act → World → Prop} {a : Act} {w : World}
    (hro : F.round = none) (h1 : 1 ≤ n) {gf : Nat} {lb : Array Value} (hg : a.eval g = .func (.func gf) #[] lb) (hFg : F.fn gf) (eg : ∀ args w, (callFunc gf args).run P w = .ok (.enter gf args) w)
    {enc : α → Array Value} (hps : ∀ x, (enc x).size = ps.size) {b : Nat} (hb : b < w.heap.size) {Kp : World → World → Prop} {S Sp : List α → Prop} (hseq : Seq F (n - 1) P gf lb enc b Kp S Sp w)
    (hKt : ∀ {A B C : World}, Kp A B → Kp B C → Kp A C) (hKput : ∀ (A : World) l o, w.heap.size ≤ l → Kp A (A.putObj l o)) (hKnew : ∀ o o', Kp w ((w.alloc o).alloc o'))
    (I : List α → World → Prop) (Ix : Nat → List α → World → Prop) (hI : Abides w.heap.size b I) (hIx : ∀ id, Abides w.heap.size b (Ix id)) (h0 : I [] w) (a₁ : α → Act)
    (hassign : ∀ (l : Nat) (x : α) (W : World) (K : Act → World → Prop), K (a₁ x) W →
      assign.wpIn (F.inRound l) (n - 1 - 1) P (Exit.then K (fun _ _ _ => False)) { tmps := (ps.zip (enc x)).foldl (fun t (p, v) => t.setIfInBounds p v) a.tmps, defers := [] } W)
    (hbody : ∀ (l : Nat) (pre : List α) (x : α) (W : World), I pre W → body.wpIn (F.inRound l) (n - 1 - 1) P (post Kp I Ix (pre ++ [x]) W) (a₁ x) W)
    (hdone : ∀ (D : Nat) (xs : List α) (W : World), w.heap.size ≤ D → S xs → I xs W → W.heap[D]? = some (.deferred (some [])) → Q .normal { a with defers := { target := .collected D, args := #[] } :: a.defers } W)
    (hstop : ∀ (D id : Nat) (pre : List α) (W : World), w.heap.size ≤ D → Sp pre → Ix id pre W → W.heap[D]? = some (.deferred (some [])) → (Code.exit id).wpIn F n P Q { a with defers := { target := .collected D, args := #[] } :: a.defers } W) :
    (Code.rangeFunc g ps assign body).wpIn F n P Q a w := by
  refine wpIn_rangeFunc fun fn hfn => ?_
  rw [hro]
  -- the record, as it lies between two rounds and when a round has broken off
  let rec' : LoopState → Option Code → Loop := fun st pe => { state := st, pending := pe, fn := fn, tmps := a.tmps, params := ps, assign := assign, body := body, defers := w.heap.size }
  let N := w.heap.size
  let W1 := (w.alloc (.deferred (some []))).alloc (.loop (rec' .ready none))
  have hL1 : W1.heap[N + 1]? = some (.loop (rec' .ready none)) := by
    have := World.alloc_heap_new (w.alloc (.deferred (some []))) (.loop (rec' .ready none))
    rwa [World.size_alloc] at this
  have hD1 : W1.heap[N]? = some (.deferred (some [])) := (Below.heap_alloc _ _ _ (by simp [N])).trans (World.alloc_heap_new w _)
  refine ⟨N + 1, [{ target := .collected N, args := #[] }], W1, { target := .fn (.func gf) lb, args := #[.func (.yield (N + 1)) #[] #[]] }, W1, gf, #[.func (.yield (N + 1)) #[] #[]] ++ lb, W1,
    run_enterLoop_outer _ _ _ _ _, by simp only [resolve, hg]; simp [go_sem], fun f' hf' => by simp [Target.leads] at hf'; subst hf'; exact hFg, by simp [invoke, go_sem, eg], fun _ => h1, ?_⟩
  have neb : N ≠ b ∧ N + 1 ≠ b := ⟨by show w.heap.size ≠ b; omega, by show w.heap.size + 1 ≠ b; omega⟩
  let J : List α → World → Prop := fun pre A => I pre A ∧ A.heap[N + 1]? = some (.loop (rec' .ready none)) ∧ A.heap[N]? = some (.deferred (some []))
  let Jx : List α → World → Prop := fun pre A => ∃ id, Ix id pre A ∧ A.heap[N + 1]? = some (.loop (rec' .done (some (.exit id)))) ∧ A.heap[N]? = some (.deferred (some []))
  refine (hseq (N + 1) J Jx W1 (hKnew _ _)
    (fun pre A v h => ⟨hI.set pre A v h.1, (set_heap_other A b _ v neb.2).trans h.2.1, (set_heap_other A b _ v neb.1).trans h.2.2⟩)
    (fun pre A h => ⟨hI.drew pre A h.1, h.2.1, h.2.2⟩)
    (fun pre A v h => by obtain ⟨id, h1, h2, h3⟩ := h; exact ⟨id, (hIx id).set pre A v h1, (set_heap_other A b _ v neb.2).trans h2, (set_heap_other A b _ v neb.1).trans h3⟩)
    (fun pre A h => by obtain ⟨id, h1, h2, h3⟩ := h; exact ⟨id, (hIx id).drew pre A h1, h2, h3⟩) ?_ ⟨hI.alloc _ _ _ (hI.alloc _ _ _ h0), hL1, hD1⟩).mono ?_
  · -- one round
    rintro pre x A ⟨hi, hl, hd⟩
    have hlt : N + 1 < A.heap.size := (Array.getElem?_eq_some_iff.1 hl).1
    refine ⟨fn, _, assign, body, run_yield (P := P) (args := enc x) hl (hps x), roundIn_of_wpIn hfn (hassign _ x A _ ⟨_, run_beginRound hl rfl, ?_⟩)⟩
    have hl2 : (A.putObj (N + 1) (.loop { rec' .ready none with state := .busy })).heap[N + 1]? = some (.loop { rec' .ready none with state := .busy }) := World.putObj_heap_same hlt
    have hd2 : (A.putObj (N + 1) (.loop { rec' .ready none with state := .busy })).heap[N]? = some (.deferred (some [])) := (World.putObj_heap_other (by omega)).trans hd
    refine wpIn_mono (hbody _ pre x _ (hI.put _ _ _ _ _ hi (by omega) hl rfl)) ?_
    rintro e a3 A3 hp
    cases e with
    | normal =>
      obtain ⟨hk, hkp, hi3⟩ := hp
      have hl3 := hk.same _ _ hl2 rfl
      have hd3 := hk.same _ _ hd2 rfl
      exact ⟨_, _, run_endRound none hl3, .inl ⟨rfl, ⟨hI.put _ _ _ _ _ hi3 (by omega) hl3 rfl, World.putObj_heap_same (Array.getElem?_eq_some_iff.1 hl3).1, (World.putObj_heap_other (by omega)).trans hd3⟩, hKt (hKt (hKput _ _ _ (by omega)) hkp) (hKput _ _ _ (by omega))⟩⟩
    | exit id =>
      obtain ⟨hk, hi3⟩ := hp
      have hl3 := hk.same _ _ hl2 rfl
      have hd3 := hk.same _ _ hd2 rfl
      exact ⟨_, _, run_endRound (some (.exit id)) hl3, .inr ⟨rfl, id, (hIx id).put _ _ _ _ _ hi3 (by omega) hl3 rfl, World.putObj_heap_same (Array.getElem?_eq_some_iff.1 hl3).1, (World.putObj_heap_other (by omega)).trans hd3⟩⟩
    | ret => exact hp.elim
    | goto t => exact hp.elim
    | panic ch => exact hp.elim
    | outgrown => exact hp.elim
  · -- behind the iterator
    rintro e W2 ⟨⟨v, rfl⟩, (⟨xs, hS, hi, hl, hd⟩ | ⟨pre, hSp, id, hi, hl, hd⟩)⟩
    · exact ⟨none, _, run_endLoop hl (by simp [rec']), hdone N xs _ (Nat.le_refl _) hS (hI.put _ _ _ _ _ hi (by omega) hl rfl) ((World.putObj_heap_other (by omega)).trans hd)⟩
    · exact ⟨some (.exit id), _, run_endLoop hl (by simp [rec']), hstop N id pre _ (Nat.le_refl _) hSp ((hIx id).put _ _ _ _ _ hi (by omega) hl rfl) ((World.putObj_heap_other (by omega)).trans hd)⟩

end Go.Proofs.YtcpflfpgnbihiaaGreatDoor.rng
