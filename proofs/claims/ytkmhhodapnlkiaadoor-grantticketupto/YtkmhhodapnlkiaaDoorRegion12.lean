import Derived.Test.YtkmhhodapnlkiaaDoorTakeKey
import Derived.Orders
namespace Go.Proofs.YtkmhhodapnlkiaaDoor.shaw
open Go.ChangeShapes Go.WideShapes Go.ChangeAt Go.RowKit Go.Proofs.YtkmhhodapnlkiaaDoor.common

theorem range_block {W : World} {g : Nat} {C : Array Value} {t : TypeId} (h : W.heap[g]? = some (.cells C t (0, 0))) : W.rangeAt g 0 C.toList := fun j v hv => by
  rw [Nat.zero_add]
  simp only [World.cell?, h]
  simpa using hv
theorem there_block {W : World} {g : Nat} {C : Array Value} {t : TypeId} (h : W.heap[g]? = some (.cells C t (0, 0))) : W.there g 0 C.size := fun j hj => by
  rw [Nat.zero_add]
  refine ⟨?_, ?_⟩
  · simp [World.cell?, h, hj]
  · simp [World.frozen?, h]
theorem heap_old {W : World} {o v : Obj} {g : Nat} (h : W.heap[g]? = some v) : (W.alloc o).heap[g]? = some v := by
  have hl := (Array.getElem?_eq_some_iff.1 h).1
  show (W.heap.push o)[g]? = some v
  rw [Array.getElem?_push, if_neg (by omega)]
  exact h

/-- A REGION IN WHATEVER ORDER, by what holds behind each of its operations. -/
theorem wpAny_inv {P : Program} {md : Region.Mode} {ops : Array Oper} {Q : Exit → Act → World → Prop} (I : Array Bool → Act → World → Prop) (cnt : Array Bool → Nat)
    (hstep : ∀ listed a w, I listed a w → ∀ i ∈ Region.ready md ops listed, cnt (listed.setIfInBounds i true) < cnt listed ∧ wpOp P ops Q i (fun a' w' => I (listed.setIfInBounds i true) a' w') a w)
    (hdone : ∀ listed a w, I listed a w → Region.ready md ops listed = [] → Q .normal a w)
    (h0 : ∀ listed a w, I listed a w → cnt listed = 0 → Region.ready md ops listed = []) :
    ∀ fuel listed a w, cnt listed ≤ fuel → I listed a w → wpAny P md ops Q fuel listed a w := by
  intro fuel
  induction fuel with
  | zero => intro listed a w hc h; exact ⟨h0 _ _ _ h (by omega), hdone _ _ _ h (h0 _ _ _ h (by omega))⟩
  | succ fuel ih =>
    intro listed a w hc h
    refine ⟨hdone _ _ _ h, fun i hi => ?_⟩
    obtain ⟨h1, h2⟩ := hstep _ _ _ h i hi
    exact wpOp_mono (fun a' w' h' => ih _ _ _ (by omega) h') h2

def cntF (l : Array Bool) : Nat := (l.toList.filter fun b => !b).length

theorem wpOp_of {P : Program} {ops : Array Oper} {Q : Exit → Act → World → Prop} {i : Nat} {o : Oper} (ho : ops[i]? = some o) (hg : o.guard = none) {K : Act → World → Prop} {a : Act} {w : World} (h : o.wp P a w K Q) : wpOp P ops Q i K a w := by
  unfold wpOp
  rw [ho]
  have hw : Region.wanted o (yielded ops a.tmps) = true := by simp [Region.wanted, hg]
  simp only [hw, if_true]
  exact Or.inl h

theorem wp_K {P : Program} {o : Oper} {a : Act} {w : World} {K : Act → World → Prop} {Q : Exit → Act → World → Prop} (h : ∀ K' : Act → World → Prop, (∀ a w, K a w → K' a w) → o.wp P a w K' Q) : o.wp P a w K Q := h K fun _ _ x => x
theorem wp_build_to {P : Program} {op : Oper} {a : Act} {w : World} {K : Act → World → Prop} {Q : Exit → Act → World → Prop} (t : TypeId) (parts : Array (Nat × Operand)) (ho : op.op = .build t parts)
    (vals : List (Nat × Value)) (hv : (parts.map fun (i, x) => (i, a.eval x)).toList = vals) (cells : Array Value) (hb : P.built t vals = some cells) (h : K (a.put op.dst (.agg cells)) w) : op.wp P a w K Q := by
  subst hv
  exact wp_build t parts ho (by rw [hb]; rfl) (by rw [hb]; exact h)
theorem size146 : (hash0 ++ hash0).size = 146 := by kernel_rfl
theorem sizeZ : zeroKey.size = 146 := by kernel_rfl

/-- each behind those that it needs -/
def ordB (b0 b1 b2 b3 b4 b5 b6 b7 b8 : Bool) : Bool := (!b1 || b0) && (!b2 || b1) && (!b4 || b3) && (!b5 || b4) && (!b6 || (b2 && b5)) && (!b8 || (b6 && b7))

def lists : Nat → List (List Bool)
  | 0 => [[]]
  | n + 1 => (lists n).flatMap fun l => [false :: l, true :: l]
theorem mem_lists : ∀ (n : Nat) (l : List Bool), l.length = n → l ∈ lists n
  | 0, l, h => by
    obtain rfl := List.eq_nil_of_length_eq_zero h
    simp [lists]
  | n + 1, [], h => by simp at h
  | n + 1, b :: l, h => by
    have := mem_lists n l (by simpa using h)
    simp only [lists, List.mem_flatMap]
    exact ⟨l, this, by cases b <;> simp⟩
def depB (i : Nat) (l : List Bool) : Bool := match l with
  | [b0, b1, b2, b3, b4, b5, b6, b7, b8] => decide ((i = 0 ∧ b0 = false) ∨ (i = 1 ∧ b1 = false ∧ b0 = true) ∨ (i = 2 ∧ b2 = false ∧ b1 = true) ∨ (i = 3 ∧ b3 = false) ∨ (i = 4 ∧ b4 = false ∧ b3 = true) ∨ (i = 5 ∧ b5 = false ∧ b4 = true) ∨ (i = 6 ∧ b6 = false ∧ b2 = true ∧ b5 = true) ∨ (i = 7 ∧ b7 = false) ∨ (i = 8 ∧ b8 = false ∧ b6 = true ∧ b7 = true))
  | _ => true
def readyB (ops : Array Oper) : Bool := (lists 9).all fun l => (Region.ready .any ops l.toArray).all fun i => depB i l
def doneB (ops : Array Oper) : Bool := (lists 9).all fun l => !(Region.ready .any ops l.toArray).isEmpty || l.all id
theorem readyB_spec {ops : Array Oper} (h : readyB ops = true) (b0 b1 b2 b3 b4 b5 b6 b7 b8 : Bool) (i : Nat) (hi : i ∈ Region.ready .any ops #[b0, b1, b2, b3, b4, b5, b6, b7, b8]) : (i = 0 ∧ b0 = false) ∨ (i = 1 ∧ b1 = false ∧ b0 = true) ∨ (i = 2 ∧ b2 = false ∧ b1 = true) ∨ (i = 3 ∧ b3 = false) ∨ (i = 4 ∧ b4 = false ∧ b3 = true) ∨ (i = 5 ∧ b5 = false ∧ b4 = true) ∨ (i = 6 ∧ b6 = false ∧ b2 = true ∧ b5 = true) ∨ (i = 7 ∧ b7 = false) ∨ (i = 8 ∧ b8 = false ∧ b6 = true ∧ b7 = true) := by
  have h1 := List.all_eq_true.1 h [b0, b1, b2, b3, b4, b5, b6, b7, b8] (mem_lists 9 _ rfl)
  exact of_decide_eq_true (List.all_eq_true.1 h1 i hi)
theorem doneB_spec {ops : Array Oper} (h : doneB ops = true) (b0 b1 b2 b3 b4 b5 b6 b7 b8 : Bool) (hr : Region.ready .any ops #[b0, b1, b2, b3, b4, b5, b6, b7, b8] = []) : b0 = true ∧ b1 = true ∧ b2 = true ∧ b3 = true ∧ b4 = true ∧ b5 = true ∧ b6 = true ∧ b7 = true ∧ b8 = true := by
  have h1 := List.all_eq_true.1 h [b0, b1, b2, b3, b4, b5, b6, b7, b8] (mem_lists 9 _ rfl)
  have h2 : (Region.ready .any ops [b0, b1, b2, b3, b4, b5, b6, b7, b8].toArray) = [] := hr
  rw [h2] at h1
  simpa using h1

/-- what holds within the region -/
structure In12 (wo : World) (b0 b1 b2 b3 b4 b5 b6 b7 b8 : Bool) (v6 v32 v33 v34 v35 v36 v37 v38 : Value) (w : World) : Prop where
  below : Below wo.heap.size wo w
  ord : ordB b0 b1 b2 b3 b4 b5 b6 b7 b8 = true
  h0 : b0 = true → b8 = false → ∃ g : Nat, v32 = .pointer (some ⟨g, 0, none⟩) ∧ wo.heap.size ≤ g ∧ w.heap[g]? = some (.cells hash0 41 (0, 0))
  h1 : b1 = true → b8 = false → ∃ g : Nat, v33 = .pointer (some ⟨g, 0, none⟩) ∧ wo.heap.size ≤ g ∧ w.heap[g]? = some (.cells hash0 41 (0, 0))
  h2 : b2 = true → v34 = .agg hash0
  h3 : b3 = true → b8 = false → ∃ g : Nat, v35 = .pointer (some ⟨g, 0, none⟩) ∧ wo.heap.size ≤ g ∧ w.heap[g]? = some (.cells hash0 41 (0, 0))
  h4 : b4 = true → b8 = false → ∃ g : Nat, v36 = .pointer (some ⟨g, 0, none⟩) ∧ wo.heap.size ≤ g ∧ w.heap[g]? = some (.cells hash0 41 (0, 0))
  h5 : b5 = true → v37 = .agg hash0
  h6 : b6 = true → v38 = .agg (hash0 ++ hash0)
  h7 : b7 = true → ∃ g : Nat, v6 = .pointer (some ⟨g, 0, none⟩) ∧ wo.heap.size ≤ g ∧ (b8 = false → w.heap[g]? = some (.cells zeroKey 43 (0, 0))) ∧ (b8 = true → w.rangeAt g 0 (hash0 ++ hash0).toList ∧ w.there g 0 146)

theorem In12.grow {wo : World} {b0 b1 b2 b3 b4 b5 b6 b7 b8 : Bool} {v6 v32 v33 v34 v35 v36 v37 v38 : Value} {w : World} (h : In12 wo b0 b1 b2 b3 b4 b5 b6 b7 b8 v6 v32 v33 v34 v35 v36 v37 v38 w) (hb8 : b8 = false) (o : Obj) : In12 wo b0 b1 b2 b3 b4 b5 b6 b7 b8 v6 v32 v33 v34 v35 v36 v37 v38 (w.alloc o) := by
  refine ⟨h.below.alloc h.below.size _, h.ord, fun a b => ?_, fun a b => ?_, h.h2, fun a b => ?_, fun a b => ?_, h.h5, h.h6, fun a => ?_⟩
  · obtain ⟨g, x, y, z⟩ := h.h0 a b; exact ⟨g, x, y, heap_old z⟩
  · obtain ⟨g, x, y, z⟩ := h.h1 a b; exact ⟨g, x, y, heap_old z⟩
  · obtain ⟨g, x, y, z⟩ := h.h3 a b; exact ⟨g, x, y, heap_old z⟩
  · obtain ⟨g, x, y, z⟩ := h.h4 a b; exact ⟨g, x, y, heap_old z⟩
  · obtain ⟨g, x, y, z, _⟩ := h.h7 a; exact ⟨g, x, y, fun c => heap_old (z c), fun c => by rw [hb8] at c; cases c⟩

set_option maxRecDepth 100000 in
set_option maxHeartbeats 1600000 in
theorem region12 {id : Nat} {ops : Array Oper} {Q : Exit → Act → World → Prop} {ds : List Deferred} (x0 x1 x2 x3 x4 x5 x6 x7 x8 x9 x10 x11 x12 x13 x14 x15 x16 x17 x18 x19 x20 x21 x22 x23 x24 x25 x26 x27 x28 x29 x30 x31 x32 x33 x34 x35 x36 x37 x38 x39 x40 x41 x42 x43 x44 x45 x46 x47 : Value) (wo : World) (hf : FW wo) {t0 : TypeId} {s0 : String} {a0 : Array Edge} {t1 : TypeId} {s1 : String} {a1 : Array Edge} {t2 : TypeId} {s2 : String} {a2 : Array Edge} {t3 : TypeId} {s3 : String} {a3 : Array Edge} {t4 : TypeId} {s4 : String} {a4 : Array Edge} {t5 : TypeId} {s5 : String} {a5 : Array Edge} {t6 : TypeId} {s6 : String} {a6 : Array Edge} {t7 : TypeId} {s7 : String} {a7 : Array Edge} {t8 : TypeId} {s8 : String} {a8 : Array Edge}
    (e0 : ops[0]? = some { dst := some 32, op := .call { callee := .value (.func 25), args := #[], argTypes := #[] }, type := t0, pos := s0, after := a0, guard := none }) (e1 : ops[1]? = some { dst := some 33, op := .nilCheck (.tmp 32), type := t1, pos := s1, after := a1, guard := none }) (e2 : ops[2]? = some { dst := some 34, op := .load 41 (.tmp 33), type := t2, pos := s2, after := a2, guard := none }) (e3 : ops[3]? = some { dst := some 35, op := .call { callee := .value (.func 25), args := #[], argTypes := #[] }, type := t3, pos := s3, after := a3, guard := none }) (e4 : ops[4]? = some { dst := some 36, op := .nilCheck (.tmp 35), type := t4, pos := s4, after := a4, guard := none }) (e5 : ops[5]? = some { dst := some 37, op := .load 41 (.tmp 36), type := t5, pos := s5, after := a5, guard := none }) (e6 : ops[6]? = some { dst := some 38, op := .build 43 #[(0, .tmp 34), (1, .tmp 37)], type := t6, pos := s6, after := a6, guard := none }) (e7 : ops[7]? = some { dst := some 6, op := .alloc 43, type := t7, pos := s7, after := a7, guard := none }) (e8 : ops[8]? = some { dst := none, op := .store 43 (.tmp 6) (.tmp 38), type := t8, pos := s8, after := a8, guard := none })
    (hsz : ops.size = 9)
    (hready : readyB ops = true) (hdone : doneB ops = true)
    (hfull : Region.ready .any ops #[true, true, true, true, true, true, true, true, true] = [])
    (hQ : ∀ (g : Nat) (v32 v33 v34 v35 v36 v37 v38 : Value) (w : World), wo.heap.size ≤ g → w.rangeAt g 0 (hash0 ++ hash0).toList → w.there g 0 146 → Below wo.heap.size wo w → Q .normal { tmps := #[x0, x1, x2, x3, x4, x5, .pointer (some ⟨g, 0, none⟩), x7, x8, x9, x10, x11, x12, x13, x14, x15, x16, x17, x18, x19, x20, x21, x22, x23, x24, x25, x26, x27, x28, x29, x30, x31, v32, v33, v34, v35, v36, v37, v38, x39, x40, x41, x42, x43, x44, x45, x46, x47], defers := ds } w) :
    (Code.region id ops true).wp Tryd.prog Q { tmps := #[x0, x1, x2, x3, x4, x5, x6, x7, x8, x9, x10, x11, x12, x13, x14, x15, x16, x17, x18, x19, x20, x21, x22, x23, x24, x25, x26, x27, x28, x29, x30, x31, x32, x33, x34, x35, x36, x37, x38, x39, x40, x41, x42, x43, x44, x45, x46, x47], defers := ds } wo := by
  have hm : Tryd.prog.follows .mixedOrders = true := by kernel_rfl
  refine wp_region_any hm ?_
  rw [hsz]
  refine wpAny_inv (fun listed a w => ∃ (b0 b1 b2 b3 b4 b5 b6 b7 b8 : Bool) (v6 v32 v33 v34 v35 v36 v37 v38 : Value), listed = #[b0, b1, b2, b3, b4, b5, b6, b7, b8] ∧ a = { tmps := #[x0, x1, x2, x3, x4, x5, v6, x7, x8, x9, x10, x11, x12, x13, x14, x15, x16, x17, x18, x19, x20, x21, x22, x23, x24, x25, x26, x27, x28, x29, x30, x31, v32, v33, v34, v35, v36, v37, v38, x39, x40, x41, x42, x43, x44, x45, x46, x47], defers := ds } ∧ In12 wo b0 b1 b2 b3 b4 b5 b6 b7 b8 v6 v32 v33 v34 v35 v36 v37 v38 w) cntF ?step ?done ?full 9 _ _ _ (by decide) ?start
  case start =>
    exact ⟨false, false, false, false, false, false, false, false, false, _, _, _, _, _, _, _, _, rfl, rfl, ⟨(Below.refl _ _).drew, rfl, by simp, by simp, by simp, by simp, by simp, by simp, by simp, by simp⟩⟩
  case done =>
    rintro listed a w ⟨b0, b1, b2, b3, b4, b5, b6, b7, b8, v6, v32, v33, v34, v35, v36, v37, v38, rfl, rfl, h⟩ hr
    obtain ⟨rfl, rfl, rfl, rfl, rfl, rfl, rfl, rfl, rfl⟩ := doneB_spec hdone b0 b1 b2 b3 b4 b5 b6 b7 b8 hr
    obtain ⟨g, rfl, hg, _, h8⟩ := h.h7 rfl
    exact hQ g _ _ _ _ _ _ _ w hg (h8 rfl).1 (h8 rfl).2 h.below
  case full =>
    rintro listed a w ⟨b0, b1, b2, b3, b4, b5, b6, b7, b8, v6, v32, v33, v34, v35, v36, v37, v38, rfl, ha, h⟩ hc
    have : b0 = true ∧ b1 = true ∧ b2 = true ∧ b3 = true ∧ b4 = true ∧ b5 = true ∧ b6 = true ∧ b7 = true ∧ b8 = true := by
      have hn := List.length_eq_zero_iff.1 hc
      simpa [List.filter_eq_nil_iff] using hn
    obtain ⟨rfl, rfl, rfl, rfl, rfl, rfl, rfl, rfl, rfl⟩ := this
    exact hfull
  case step =>
    rintro listed a w ⟨b0, b1, b2, b3, b4, b5, b6, b7, b8, v6, v32, v33, v34, v35, v36, v37, v38, rfl, rfl, h⟩ i hi
    rcases readyB_spec hready b0 b1 b2 b3 b4 b5 b6 b7 b8 i hi with ⟨hi0, hb⟩ | ⟨hi0, hb, q0⟩ | ⟨hi0, hb, q1⟩ | ⟨hi0, hb⟩ | ⟨hi0, hb, q3⟩ | ⟨hi0, hb, q4⟩ | ⟨hi0, hb, q2, q5⟩ | ⟨hi0, hb⟩ | ⟨hi0, hb, q6, q7⟩
    · subst hi0 hb
      have hord : ordB true b1 b2 b3 b4 b5 b6 b7 b8 = true := by have o := h.ord; clear h hready hdone hfull hQ hi; revert o; revert b1 b2 b3 b4 b5 b6 b7 b8; decide
      have hb8 : b8 = false := by have o := h.ord; clear h hready hdone hfull hQ hi; revert o; revert b1 b2 b3 b4 b5 b6 b7 b8; decide
      refine ⟨by clear h hready hdone hfull hQ hi hord hb8; skip; revert b1 b2 b3 b4 b5 b6 b7 b8; decide, wpOp_of e0 rfl ?_⟩
      subst hb8
      have HN := hide (newHash_exact w (hf.below h.below hf.lt))
      have H := hide h
      have HO := hide hord
      clear h hi hord hready hdone hfull hQ e0 e1 e2 e3 e4 e5 e6 e7 e8
      refine wp_K fun K' hK => ?_
      have HK := hide hK
      clear hK
      go_simp
      refine HN.out.mono ?_
      rintro e w' ⟨rfl, rfl⟩
      refine HK.out _ _ ?_
      refine ⟨true, b1, b2, b3, b4, b5, b6, b7, false, v6, .pointer (some ⟨w.heap.size, 0, none⟩), v33, v34, v35, v36, v37, v38, rfl, rfl, ?_⟩
      exact { H.out.grow rfl (.cells hash0 41) with ord := HO.out, h0 := fun _ _ => ⟨w.heap.size, rfl, H.out.below.size, heap_alloc_new w _⟩ }
    · subst hi0 hb
      have hord : ordB b0 true b2 b3 b4 b5 b6 b7 b8 = true := by have o := h.ord; clear h hready hdone hfull hQ hi; revert o q0; revert b0 b2 b3 b4 b5 b6 b7 b8; decide
      have hb8 : b8 = false := by have o := h.ord; clear h hready hdone hfull hQ hi; revert o q0; revert b0 b2 b3 b4 b5 b6 b7 b8; decide
      refine ⟨by clear h hready hdone hfull hQ hi hord hb8; clear q0; revert b0 b2 b3 b4 b5 b6 b7 b8; decide, wpOp_of e1 rfl ?_⟩
      subst hb8
      obtain ⟨g, rfl, hg, hh⟩ := h.h0 q0 rfl
      have H := hide h
      have HO := hide hord
      have HH := hide hh
      clear h hi hord hh hready hdone hfull hQ e0 e1 e2 e3 e4 e5 e6 e7 e8
      refine wp_K fun K' hK => ?_
      have HK := hide hK
      clear hK
      go_simp
      refine HK.out _ _ ?_
      refine ⟨b0, true, b2, b3, b4, b5, b6, b7, false, v6, .pointer (some ⟨g, 0, none⟩), .pointer (some ⟨g, 0, none⟩), v34, v35, v36, v37, v38, rfl, rfl, ?_⟩
      exact { H.out with ord := HO.out, h1 := fun _ _ => ⟨g, rfl, hg, HH.out⟩ }
    · subst hi0 hb
      have hord : ordB b0 b1 true b3 b4 b5 b6 b7 b8 = true := by have o := h.ord; clear h hready hdone hfull hQ hi; revert o q1; revert b0 b1 b3 b4 b5 b6 b7 b8; decide
      have hb8 : b8 = false := by have o := h.ord; clear h hready hdone hfull hQ hi; revert o q1; revert b0 b1 b3 b4 b5 b6 b7 b8; decide
      refine ⟨by clear h hready hdone hfull hQ hi hord hb8; clear q1; revert b0 b1 b3 b4 b5 b6 b7 b8; decide, wpOp_of e2 rfl ?_⟩
      subst hb8
      obtain ⟨g, rfl, hg, hh⟩ := h.h1 q1 rfl
      refine wp_load_mid 41 (.tmp 33) rfl g 0 rfl hash0.toList _ (range_block hh) Tryd.underlying41 rfl size0 ?_
      refine ⟨b0, b1, true, b3, b4, b5, b6, b7, false, v6, v32, .pointer (some ⟨g, 0, none⟩), .agg hash0, v35, v36, v37, v38, rfl, rfl, ?_⟩
      exact { h with ord := hord, h2 := fun _ => rfl }
    · subst hi0 hb
      have hord : ordB b0 b1 b2 true b4 b5 b6 b7 b8 = true := by have o := h.ord; clear h hready hdone hfull hQ hi; revert o; revert b0 b1 b2 b4 b5 b6 b7 b8; decide
      have hb8 : b8 = false := by have o := h.ord; clear h hready hdone hfull hQ hi; revert o; revert b0 b1 b2 b4 b5 b6 b7 b8; decide
      refine ⟨by clear h hready hdone hfull hQ hi hord hb8; skip; revert b0 b1 b2 b4 b5 b6 b7 b8; decide, wpOp_of e3 rfl ?_⟩
      subst hb8
      have HN := hide (newHash_exact w (hf.below h.below hf.lt))
      have H := hide h
      have HO := hide hord
      clear h hi hord hready hdone hfull hQ e0 e1 e2 e3 e4 e5 e6 e7 e8
      refine wp_K fun K' hK => ?_
      have HK := hide hK
      clear hK
      go_simp
      refine HN.out.mono ?_
      rintro e w' ⟨rfl, rfl⟩
      refine HK.out _ _ ?_
      refine ⟨b0, b1, b2, true, b4, b5, b6, b7, false, v6, v32, v33, v34, .pointer (some ⟨w.heap.size, 0, none⟩), v36, v37, v38, rfl, rfl, ?_⟩
      exact { H.out.grow rfl (.cells hash0 41) with ord := HO.out, h3 := fun _ _ => ⟨w.heap.size, rfl, H.out.below.size, heap_alloc_new w _⟩ }
    · subst hi0 hb
      have hord : ordB b0 b1 b2 b3 true b5 b6 b7 b8 = true := by have o := h.ord; clear h hready hdone hfull hQ hi; revert o q3; revert b0 b1 b2 b3 b5 b6 b7 b8; decide
      have hb8 : b8 = false := by have o := h.ord; clear h hready hdone hfull hQ hi; revert o q3; revert b0 b1 b2 b3 b5 b6 b7 b8; decide
      refine ⟨by clear h hready hdone hfull hQ hi hord hb8; clear q3; revert b0 b1 b2 b3 b5 b6 b7 b8; decide, wpOp_of e4 rfl ?_⟩
      subst hb8
      obtain ⟨g, rfl, hg, hh⟩ := h.h3 q3 rfl
      have H := hide h
      have HO := hide hord
      have HH := hide hh
      clear h hi hord hh hready hdone hfull hQ e0 e1 e2 e3 e4 e5 e6 e7 e8
      refine wp_K fun K' hK => ?_
      have HK := hide hK
      clear hK
      go_simp
      refine HK.out _ _ ?_
      refine ⟨b0, b1, b2, b3, true, b5, b6, b7, false, v6, v32, v33, v34, .pointer (some ⟨g, 0, none⟩), .pointer (some ⟨g, 0, none⟩), v37, v38, rfl, rfl, ?_⟩
      exact { H.out with ord := HO.out, h4 := fun _ _ => ⟨g, rfl, hg, HH.out⟩ }
    · subst hi0 hb
      have hord : ordB b0 b1 b2 b3 b4 true b6 b7 b8 = true := by have o := h.ord; clear h hready hdone hfull hQ hi; revert o q4; revert b0 b1 b2 b3 b4 b6 b7 b8; decide
      have hb8 : b8 = false := by have o := h.ord; clear h hready hdone hfull hQ hi; revert o q4; revert b0 b1 b2 b3 b4 b6 b7 b8; decide
      refine ⟨by clear h hready hdone hfull hQ hi hord hb8; clear q4; revert b0 b1 b2 b3 b4 b6 b7 b8; decide, wpOp_of e5 rfl ?_⟩
      subst hb8
      obtain ⟨g, rfl, hg, hh⟩ := h.h4 q4 rfl
      refine wp_load_mid 41 (.tmp 36) rfl g 0 rfl hash0.toList _ (range_block hh) Tryd.underlying41 rfl size0 ?_
      refine ⟨b0, b1, b2, b3, b4, true, b6, b7, false, v6, v32, v33, v34, v35, .pointer (some ⟨g, 0, none⟩), .agg hash0, v38, rfl, rfl, ?_⟩
      exact { h with ord := hord, h5 := fun _ => rfl }
    · subst hi0 hb
      have hord : ordB b0 b1 b2 b3 b4 b5 true b7 b8 = true := by have o := h.ord; clear h hready hdone hfull hQ hi; revert o q2 q5; revert b0 b1 b2 b3 b4 b5 b7 b8; decide
      have hb8 : b8 = false := by have o := h.ord; clear h hready hdone hfull hQ hi; revert o q2 q5; revert b0 b1 b2 b3 b4 b5 b7 b8; decide
      refine ⟨by clear h hready hdone hfull hQ hi hord hb8; clear q2 q5; revert b0 b1 b2 b3 b4 b5 b7 b8; decide, wpOp_of e6 rfl ?_⟩
      subst hb8
      obtain rfl := h.h2 q2
      obtain rfl := h.h5 q5
      refine wp_build_to 43 _ rfl [(0, .agg hash0), (1, .agg hash0)] (by simp [Act.eval]) _ builtKeyed ?_
      refine ⟨b0, b1, b2, b3, b4, b5, true, b7, false, v6, v32, v33, .agg hash0, v35, v36, .agg hash0, .agg (hash0 ++ hash0), rfl, rfl, ?_⟩
      exact { h with ord := hord, h6 := fun _ => rfl }
    · subst hi0 hb
      have hord : ordB b0 b1 b2 b3 b4 b5 b6 true b8 = true := by have o := h.ord; clear h hready hdone hfull hQ hi; revert o; revert b0 b1 b2 b3 b4 b5 b6 b8; decide
      have hb8 : b8 = false := by have o := h.ord; clear h hready hdone hfull hQ hi; revert o; revert b0 b1 b2 b3 b4 b5 b6 b8; decide
      refine ⟨by clear h hready hdone hfull hQ hi hord hb8; skip; revert b0 b1 b2 b3 b4 b5 b6 b8; decide, wpOp_of e7 rfl ?_⟩
      subst hb8
      have hz2 := zeroKeyed
      have H := hide h
      have HO := hide hord
      clear h hi hord hready hdone hfull hQ e0 e1 e2 e3 e4 e5 e6 e7 e8
      refine wp_K fun K' hK => ?_
      have HK := hide hK
      clear hK
      go_simp
      refine HK.out _ _ ?_
      refine ⟨b0, b1, b2, b3, b4, b5, b6, true, false, .pointer (some ⟨w.heap.size, 0, none⟩), v32, v33, v34, v35, v36, v37, v38, rfl, rfl, ?_⟩
      exact { H.out.grow rfl (.cells zeroKey 43) with ord := HO.out, h7 := fun _ => ⟨w.heap.size, rfl, H.out.below.size, fun _ => heap_alloc_new w _, fun c => (by cases c)⟩ }
    · subst hi0 hb
      have hord : ordB b0 b1 b2 b3 b4 b5 b6 b7 true = true := by have o := h.ord; clear h hready hdone hfull hQ hi; revert o q6 q7; revert b0 b1 b2 b3 b4 b5 b6 b7; decide
      refine ⟨by clear h hready hdone hfull hQ hi hord; clear q6 q7; revert b0 b1 b2 b3 b4 b5 b6 b7; decide, wpOp_of e8 rfl ?_⟩
      obtain ⟨g, rfl, hg, h8, _⟩ := h.h7 q7
      obtain rfl := h.h6 q6
      have hh := h8 rfl
      have ht1 := there_block hh
      rw [sizeZ] at ht1
      have ht : w.there g 0 (hash0 ++ hash0).size := by rw [size146]; exact ht1
      refine wp_store_mid 43 (.tmp 6) (.tmp 38) rfl g 0 (hash0 ++ hash0) rfl rfl ht sizeK oneK ?_
      refine ⟨b0, b1, b2, b3, b4, b5, b6, b7, true, .pointer (some ⟨g, 0, none⟩), v32, v33, v34, v35, v36, v37, .agg (hash0 ++ hash0), rfl, rfl, ?_⟩
      exact { below := common.below_setCells h.below hg _ _, ord := hord, h0 := fun _ c => (by cases c), h1 := fun _ c => (by cases c), h2 := h.h2, h3 := fun _ c => (by cases c), h4 := fun _ c => (by cases c), h5 := h.h5, h6 := h.h6, h7 := fun _ => ⟨g, rfl, hg, fun c => (by cases c), fun _ => ⟨World.rangeAt_setCells_same _ _ _ _ ht, World.there_setCells ht1 _ _ _⟩⟩ }

end Go.Proofs.YtkmhhodapnlkiaaDoor.shaw
