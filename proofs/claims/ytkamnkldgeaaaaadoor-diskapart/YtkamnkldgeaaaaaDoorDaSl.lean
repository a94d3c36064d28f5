import Derived.Test.YtkamnkldgeaaaaaDoorDaKept
import Derived.Test.YtkamnkldgeaaaaaDoorDkPair
namespace Go.Proofs.YtkamnkldgeaaaaaDoor.da
open Go.ChangeShapes Go.WideShapes Go.ChangeAt Go.RowKit Go.Proofs.YtkamnkldgeaaaaaDoor.common Go.Proofs.YtkamnkldgeaaaaaDoor.dk Go.Proofs.YtkamnkldgeaaaaaDoor.dr

/-- lists in blocks of their own, in a row of lists; apart from the blocks F -/
structure Sl (base : Nat) (w : World) (F : List Nat) (vl : Value) (us : List Value) (L : Nat → List UInt8) : Prop where
  row : w.ownsRow base 25 1 vl us.length us
  each : ∀ i u, us[i]? = some u → w.ownsRow base 5 1 u (L i).length ((L i).map B)
  ap : ∀ (i j : Nat) (u v : Value), us[i]? = some u → us[j]? = some v → i ≠ j → ∀ k, u.ownBlock = some k → v.ownBlock ≠ some k
  dis : ∀ b ∈ F, vl.ownBlock ≠ some b ∧ ∀ u ∈ us, u.ownBlock ≠ some b
theorem Sl.start (base : Nat) (w : World) (F : List Nat) (L : Nat → List UInt8) : Sl base w F (.slice none 0 0) [] L :=
  ⟨World.ownsRow_nil _ _ _ _, fun i u h => (by simp at h), fun i j u v h => (by simp at h), fun b _ => ⟨fun h => (by cases h), fun u hu => (by cases hu)⟩⟩
theorem Sl.mem {base : Nat} {w : World} {F : List Nat} {vl : Value} {us : List Value} {L : Nat → List UInt8} (h : Sl base w F vl us L) {u : Value} (hu : u ∈ us) : ∃ i, us[i]? = some u ∧ w.ownsRow base 5 1 u (L i).length ((L i).map B) := by
  obtain ⟨i, hi, rfl⟩ := List.getElem_of_mem hu
  exact ⟨i, List.getElem?_eq_getElem hi, h.each i _ (List.getElem?_eq_getElem hi)⟩
theorem Sl.lt {base : Nat} {w : World} {F : List Nat} {vl : Value} {us : List Value} {L : Nat → List UInt8} (h : Sl base w F vl us L) : (∀ b, vl.ownBlock = some b → base ≤ b ∧ b < w.heap.size) ∧ ∀ u ∈ us, ∀ b, u.ownBlock = some b → base ≤ b ∧ b < w.heap.size := by
  refine ⟨fun b hb => h.row.lt b hb, fun u hu b hb => ?_⟩
  obtain ⟨i, _, ho⟩ := h.mem hu
  exact ho.lt b hb
/-- a row's block is no list's -/
theorem Sl.rowNe {base : Nat} {w : World} {F : List Nat} {vl : Value} {us : List Value} {L : Nat → List UInt8} (h : Sl base w F vl us L) : ∀ u ∈ us, ∀ b, vl.ownBlock = some b → u.ownBlock ≠ some b := fun u hu b hb => by
  obtain ⟨i, _, ho⟩ := h.mem hu
  exact rows_apart (by decide) h.row ho b hb
theorem Sl.other {base : Nat} {w w' : World} {F F' G : List Nat} {vl : Value} {us : List Value} {L : Nat → List UInt8} (h : Sl base w F vl us L) (hf : Fr G w w') (h1 : ∀ b ∈ G, vl.ownBlock ≠ some b ∧ ∀ u ∈ us, u.ownBlock ≠ some b) (h2 : ∀ b ∈ F', b ∈ F ∨ w.heap.size ≤ b) : Sl base w' F' vl us L := by
  refine ⟨own_fr h.row hf (fun g hg hm => (h1 g hm).1 hg), fun i u hu => own_fr (h.each i u hu) hf (fun g hg hm => (h1 g hm).2 u (List.mem_of_getElem? hu) hg), h.ap, fun b hb => ?_⟩
  rcases h2 b hb with k | k
  · exact h.dis b k
  · exact ⟨fun e => by have := (h.lt.1 b e).2; omega, fun u hu e => by have := (h.lt.2 u hu b e).2; omega⟩
theorem Sl.below {base : Nat} {w w' : World} {F : List Nat} {vl : Value} {us : List Value} {L : Nat → List UInt8} (h : Sl base w F vl us L) (hb : Below w.heap.size w w') : Sl base w' F vl us L :=
  h.other (Fr.of (F := []) hb) (fun _ hm => by cases hm) (fun _ hb => Or.inl hb)
/-- one list more -/
theorem Sl.push {base : Nat} {w w1 : World} {F : List Nat} {vl vl' u : Value} {us : List Value} {L : Nat → List UInt8} {l : List UInt8} (h : Sl base w F vl us L) (hu : w.ownsRow base 5 1 u l.length (l.map B)) (hn : ∀ k, u.ownBlock = some k → k ∉ F ∧ ∀ v ∈ us, v.ownBlock ≠ some k)
    (hr : w1.ownsRow base 25 1 vl' (us.length + 1) (us ++ [u])) (hf : Fr vl.ownBlock.toList w w1) (hv : ∀ b, vl'.ownBlock = some b → vl.ownBlock = some b ∨ w.heap.size ≤ b) (hF : ∀ b ∈ F, b < w.heap.size) : Sl base w1 F vl' (us ++ [u]) (fun i => if i = us.length then l else L i) := by
  have hue : ∀ g, u.ownBlock = some g → g ∉ vl.ownBlock.toList := fun g hg hm => rows_apart (by decide) hu h.row g hg (Option.mem_toList.1 hm)
  have cas : ∀ i x, (us ++ [u])[i]? = some x → (i < us.length ∧ us[i]? = some x) ∨ (i = us.length ∧ x = u) := fun i x hx => by
    by_cases hi : i < us.length
    · rw [List.getElem?_append_left hi] at hx; exact Or.inl ⟨hi, hx⟩
    · rw [List.getElem?_append_right (by omega)] at hx
      by_cases h0 : i - us.length = 0
      · rw [h0] at hx; simp at hx; exact Or.inr ⟨by omega, hx.symm⟩
      · rw [List.getElem?_eq_none (by simp; omega)] at hx; cases hx
  refine ⟨by rw [List.length_append]; exact hr, fun i x hx => ?_, fun i j x y hx hy hij k hk => ?_, fun b hb => ?_⟩
  · rcases cas i x hx with ⟨hi, hx⟩ | ⟨rfl, rfl⟩
    · rw [if_neg (by omega)]
      exact own_fr (h.each i x hx) hf (fun g hg hm => h.rowNe x (List.mem_of_getElem? hx) g (Option.mem_toList.1 hm) hg)
    · rw [if_pos rfl]
      exact own_fr hu hf hue
  · rcases cas i x hx with ⟨hi, hx1⟩ | ⟨hi, hxu⟩
    · rcases cas j y hy with ⟨hj, hy1⟩ | ⟨hj, hyu⟩
      · exact h.ap i j x y hx1 hy1 hij k hk
      · exact fun e => (hn k (by rw [← hyu]; exact e)).2 x (List.mem_of_getElem? hx1) hk
    · rcases cas j y hy with ⟨hj, hy1⟩ | ⟨hj, hyu⟩
      · exact (hn k (by rw [← hxu]; exact hk)).2 y (List.mem_of_getElem? hy1)
      · exact absurd (hi.trans hj.symm) hij
  · obtain ⟨d1, d2⟩ := h.dis b hb
    refine ⟨fun e => ?_, fun x hx => ?_⟩
    · rcases hv b e with k | k
      · exact d1 k
      · have := hF b hb; omega
    · rcases List.mem_append.1 hx with k | k
      · exact d2 x k
      · rw [List.mem_singleton.1 k]; exact fun e => (hn b e).1 hb
theorem Sl.congr {base : Nat} {w : World} {F : List Nat} {vl : Value} {us : List Value} {L L' : Nat → List UInt8} (h : Sl base w F vl us L) (e : ∀ i, i < us.length → L i = L' i) : Sl base w F vl us L' :=
  ⟨h.row, fun i u hu => by rw [← e i (List.getElem?_eq_some_iff.1 hu).1]; exact h.each i u hu, h.ap, h.dis⟩
/-- one list's row changes, in its own block or elsewhere -/
theorem Sl.one {base : Nat} {w w' : World} {F : List Nat} {vl : Value} {us : List Value} {L : Nat → List UInt8} {i : Nat} {u : Value} {l : List UInt8} (h : Sl base w F vl us L) (hi : us[i]? = some u) (hf : Fr u.ownBlock.toList w w') (hu : w'.ownsRow base 5 1 u l.length (l.map B)) : Sl base w' F vl us (fun j => if j = i then l else L j) := by
  refine ⟨own_fr h.row hf (fun g hg hm => h.rowNe u (List.mem_of_getElem? hi) g hg (Option.mem_toList.1 hm)), fun j x hx => ?_, h.ap, h.dis⟩
  by_cases hj : j = i
  · subst hj
    rw [if_pos rfl]
    rw [hi] at hx
    cases hx
    exact hu
  · rw [if_neg hj]
    exact own_fr (h.each j x hx) hf (fun g hg hm => h.ap i j u x hi hx (fun e => hj e.symm) g (Option.mem_toList.1 hm) hg)
def blks (us : List Value) : List Nat := us.filterMap Value.ownBlock
theorem mem_blks {us : List Value} {b : Nat} : b ∈ blks us ↔ ∃ u ∈ us, u.ownBlock = some b := by unfold blks; exact List.mem_filterMap
/-- an answer is a list of one's own -/
theorem ans_own {w w' : World} {F' : List Nat} {v : Value} {l : List UInt8} {base : Nat} (h : Ans w F' v l w') (hb : base ≤ w.heap.size) (hl : l.length ≤ 140737488355328) : w'.ownsRow base 5 1 v l.length (l.map B) ∧ ∀ k, v.ownBlock = some k → w.heap.size ≤ k ∧ k ∉ F' ∧ k < w'.heap.size := by
  rcases h with ⟨rfl, rfl⟩ | ⟨g, rfl, h1, h2, h3⟩
  · exact ⟨World.ownsRow_nil _ _ _ _, fun k hk => (by cases hk)⟩
  · refine ⟨h3.own base (by omega) (by unfold maxLen; omega), fun k hk => ?_⟩
    cases hk
    exact ⟨h1, h2, (Array.getElem?_eq_some_iff.1 h3).1⟩
theorem step_len (x : St) (s : Sp) (h : Fine x) : (x.step s).2.l.length ≤ 140737488355328 := by
  have h1 := h.ok.most
  unfold St.step
  repeat' split
  all_goals first | exact Nat.zero_le _ | skip
  · show x.readL.length ≤ _
    unfold St.readL
    split
    · omega
    · exact Nat.zero_le _
  · show x.b.length ≤ _; omega
/-- the mark of the i-th list, what the lists hold while they are marked -/
def byt (i : Nat) : UInt8 := UInt8.ofNat (i % 251)
theorem byt_val (i : Nat) : ((byt i).toNat : Int) = ((i % 251 : Nat) : Int) := by
  unfold byt
  have : i % 251 < 256 := by omega
  simp [UInt8.toNat_ofNat']
  omega
def mkL (L : Nat → List UInt8) (i k : Nat) : Nat → List UInt8 := fun j => if j < i then List.replicate (L j).length (byt j) else if j = i then hlf (L i) k (byt i) else L j
theorem mkL_zero (L : Nat → List UInt8) (i : Nat) : mkL L i 0 i = L i := by unfold mkL; rw [if_neg (by omega), if_pos rfl, hlf_zero]
theorem mkL_len (L : Nat → List UInt8) (i k j : Nat) (hk : k ≤ (L i).length) : (mkL L i k j).length = (L j).length := by
  unfold mkL
  split
  · simp
  · split
    · rename_i h; subst h; exact hlf_len _ _ _ hk
    · rfl
theorem mkL_start (L : Nat → List UInt8) : mkL L 0 0 = L := by
  funext j
  unfold mkL
  rw [if_neg (by omega)]
  split
  · rename_i h; subst h; exact hlf_zero _ _
  · rfl
theorem mkL_turn (L : Nat → List UInt8) (i : Nat) : mkL L i (L i).length = mkL L (i + 1) 0 := by
  funext j
  unfold mkL
  by_cases h1 : j < i
  · rw [if_pos h1, if_pos (by omega)]
  · by_cases h2 : j = i
    · subst h2
      rw [if_neg h1, if_pos rfl, if_pos (by omega), hlf_full]
    · rw [if_neg h1, if_neg h2, if_neg (by omega)]
      by_cases h3 : j = i + 1
      · subst h3; rw [if_pos rfl, hlf_zero]
      · rw [if_neg h3]
theorem mkL_next (L : Nat → List UInt8) (i k : Nat) : (fun j => if j = i then hlf (L i) (k + 1) (byt i) else mkL L i k j) = mkL L i (k + 1) := by
  funext j
  unfold mkL
  by_cases h1 : j = i
  · subst h1; rw [if_pos rfl, if_neg (by omega), if_pos rfl]
  · rw [if_neg h1]
    by_cases h2 : j < i
    · rw [if_pos h2, if_pos h2]
    · rw [if_neg h2, if_neg h1, if_neg h2, if_neg h1]
end Go.Proofs.YtkamnkldgeaaaaaDoor.da
