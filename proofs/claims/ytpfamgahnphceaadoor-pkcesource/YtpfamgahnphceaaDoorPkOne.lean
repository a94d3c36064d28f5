import Derived.Test.YtpfamgahnphceaaDoorPkFresh
import Derived.Test.YtpfamgahnphceaaDoorStrBase
namespace Go.Proofs.YtpfamgahnphceaaDoor.pk
open Go.ChangeShapes Go.WideShapes Go.ChangeAt Go.RowKit Go.Proofs.YtpfamgahnphceaaDoor.common
open Go.Proofs.YtpfamgahnphceaaDoor.radw (B Lay)

theorem own_keep {w w' : World} {base : Nat} {e : TypeId} {size : Nat} {v : Value} {n : Nat} {xs : List Value} (h : w.ownsRow base e size v n xs) (hb : ∀ g, v.ownBlock = some g → w'.heap[g]? = w.heap[g]?) : w'.ownsRow base e size v n xs := by
  refine ⟨h.1, ?_⟩
  rcases h.2 with h1 | ⟨g, cap, cur, rfl, h2, h3, h4⟩
  · exact Or.inl h1
  · exact Or.inr ⟨g, cap, cur, rfl, h2, (hb g rfl).trans h3, h4⟩
theorem own_type {w : World} {base : Nat} {e : TypeId} {size : Nat} {v : Value} {n : Nat} {xs : List Value} (h : w.ownsRow base e size v n xs) : ∀ g, v.ownBlock = some g → base ≤ g ∧ g < w.heap.size ∧ ∃ cur, w.heap[g]? = some (.cells cur e (0, 0)) := by
  intro g hg
  rcases h.2 with ⟨rfl, _⟩ | ⟨g', cap, cur, rfl, h2, h3, h4⟩
  · simp [Value.ownBlock] at hg
  · simp [Value.ownBlock] at hg
    subst hg
    exact ⟨h2, (Array.getElem?_eq_some_iff.1 h3).1, cur, h3⟩

/-- what lies in memory while a line is drawn: the argument's box, the source, the variable that points to it, the texts that are wanted -/
structure O1 (w wr : World) (n : Nat) (vd vy v : Value) (gb : Option Nat) (L : List (List UInt8)) (Q : List ByteArray) : Prop where
  src : Src wr (n + 1) gb L
  gge : ∀ g, gb = some g → n + 3 ≤ g
  row : wr.ownsRow (n + 3) 9 1 v Q.length (ss.sc Q)
  box : wr.heap[n]? = some (.cells #[vd, vy] 25 (0, 0))
  var : wr.heap[n + 2]? = some (.cells #[ptr (n + 1)] 26 (0, 0))
  low : Below n w wr
  big : n + 3 ≤ wr.heap.size

theorem O1.keep {w wr w2 : World} {n : Nat} {vd vy v : Value} {gb : Option Nat} {L : List (List UInt8)} {Q : List ByteArray} (h : O1 w wr n vd vy v gb L Q)
    (h1 : ∀ k, k < n + 3 → w2.heap[k]? = wr.heap[k]?) (h2 : ∀ k, gb = some k → w2.heap[k]? = wr.heap[k]?) (h3 : ∀ k, v.ownBlock = some k → w2.heap[k]? = wr.heap[k]?) (ho : w2.os = wr.os) (ht : w2.tape = wr.tape) (hp : w2.output = wr.output) (hs : wr.heap.size ≤ w2.heap.size) : O1 w w2 n vd vy v gb L Q :=
  ⟨h.src.keep (h1 _ (by omega)) h2, h.gge, own_keep h.row h3, (h1 n (by omega)).trans h.box, (h1 _ (by omega)).trans h.var,
    ⟨ho.trans h.low.os, ht.trans h.low.tape, hp.trans h.low.output, Nat.le_trans h.low.size hs, fun k hk => (h1 k (by omega)).trans (h.low.block k hk)⟩, Nat.le_trans h.big hs⟩
theorem O1.below {w wr w2 : World} {n : Nat} {vd vy v : Value} {gb : Option Nat} {L : List (List UInt8)} {Q : List ByteArray} (h : O1 w wr n vd vy v gb L Q) (hb : Below wr.heap.size wr w2) : O1 w w2 n vd vy v gb L Q :=
  h.keep (fun k hk => hb.block k (by have := h.big; omega)) (fun k hk => hb.block k (h.src.blt k hk)) (fun k hk => hb.block k (own_type h.row k hk).2.1) hb.os hb.tape hb.output hb.size
theorem O1.drew {w wr : World} {n : Nat} {vd vy v : Value} {gb : Option Nat} {L : List (List UInt8)} {Q : List ByteArray} (h : O1 w wr n vd vy v gb L Q) : O1 w wr.drew n vd vy v gb L Q :=
  h.keep (fun _ _ => rfl) (fun _ _ => rfl) (fun _ _ => rfl) rfl rfl rfl (Nat.le_refl _)
/-- one of the source's two blocks is no other's -/
theorem O1.apart {w wr : World} {n : Nat} {vd vy v : Value} {gb : Option Nat} {L : List (List UInt8)} {Q : List ByteArray} (h : O1 w wr n vd vy v gb L Q) : ∀ k, v.ownBlock = some k → k ≠ n + 1 ∧ gb ≠ some k := by
  intro k hk
  obtain ⟨h1, _, cur, h2⟩ := own_type h.row k hk
  refine ⟨by omega, fun e => ?_⟩
  obtain ⟨v, _, hl⟩ := h.src.lie
  obtain ⟨_, cur', hc⟩ := hl.lt k e
  rw [h2] at hc
  simp at hc

theorem O1.push {w wr w2 : World} {n : Nat} {vd vy v : Value} {gb : Option Nat} {L L' : List (List UInt8)} {Q : List ByteArray} (h : O1 w wr n vd vy v gb L Q) (hp : PsOut (n + 1) gb L' wr w2) : ∃ gb', O1 w w2 n vd vy v gb' L' Q := by
  obtain ⟨gb', h1, h2, h3⟩ := hp
  have hb : ∀ k, k < n + 3 → gb ≠ some k := fun k hk e => by have := h.gge k e; omega
  have hbig := h.big
  refine ⟨gb', h2, fun g hg => ?_, own_keep h.row fun k hk => h3.block k (own_type h.row k hk).2.1 (h.apart k hk).1 (h.apart k hk).2, (h3.block n (by omega) (by omega) (hb _ (by omega))).trans h.box, (h3.block (n + 2) (by omega) (by omega) (hb _ (by omega))).trans h.var, ?_, Nat.le_trans h.big h3.size⟩
  · rcases h1 with h1 | ⟨g', h1, h4⟩
    · exact h.gge g (h1 ▸ hg)
    · rw [h1] at hg
      cases hg
      omega
  · exact ⟨h3.os.trans h.low.os, h3.tape.trans h.low.tape, h3.output.trans h.low.output, Nat.le_trans h.low.size h3.size, fun k hk => (h3.block k (by omega) (by omega) (hb _ (by omega))).trans (h.low.block k hk)⟩
theorem O1.take {w wr w2 : World} {n : Nat} {vd vy v : Value} {gb : Option Nat} {L L' : List (List UInt8)} {Q : List ByteArray} (h : O1 w wr n vd vy v gb L Q) (hp : TkOut (n + 1) gb L' wr w2) : ∃ gb', (gb' = gb ∨ gb' = none) ∧ O1 w w2 n vd vy v gb' L' Q := by
  obtain ⟨gb', h1, h2, h3⟩ := hp
  have hbig := h.big
  refine ⟨gb', h1, h2, fun g hg => ?_, own_keep h.row fun k hk => h3.block k (own_type h.row k hk).2.1 (h.apart k hk).1 (by simp), (h3.block n (by omega) (by omega) (by simp)).trans h.box, (h3.block (n + 2) (by omega) (by omega) (by simp)).trans h.var, ?_, Nat.le_trans h.big h3.size⟩
  · rcases h1 with h1 | h1
    · exact h.gge g (h1 ▸ hg)
    · rw [h1] at hg; cases hg
  · exact ⟨h3.os.trans h.low.os, h3.tape.trans h.low.tape, h3.output.trans h.low.output, Nat.le_trans h.low.size h3.size, fun k hk => (h3.block k (by omega) (by omega) (by simp)).trans (h.low.block k hk)⟩
/-- one more text is wanted -/
theorem O1.grown {w wr w2 : World} {n : Nat} {vd vy v v' : Value} {gb : Option Nat} {L : List (List UInt8)} {Q Q' : List ByteArray} (h : O1 w wr n vd vy v gb L Q) (hr : w2.ownsRow (n + 3) 9 1 v' Q'.length (ss.sc Q')) (hg : wr.grownBy w2 v.ownBlock) : O1 w w2 n vd vy v' gb L Q' := by
  have hbig := h.big
  have hlow : ∀ k, k < n + 3 → some k ≠ v.ownBlock := fun k hk e => by have := (own_type h.row k e.symm).1; omega
  refine ⟨h.src.keep (hg.block _ (by omega) (hlow _ (by omega))) fun g hgg => hg.block g (h.src.blt g hgg) (fun e => (h.apart g e.symm).2 hgg), h.gge, hr, (hg.block n (by omega) (hlow _ (by omega))).trans h.box, (hg.block _ (by omega) (hlow _ (by omega))).trans h.var, ?_, Nat.le_trans h.big hg.size⟩
  exact ⟨hg.os.trans h.low.os, hg.tape.trans h.low.tape, hg.output.trans h.low.output, Nat.le_trans h.low.size hg.size, fun k hk => (hg.block k (by omega) (hlow _ (by omega))).trans (h.low.block k hk)⟩

/-- the draws that are kept -/
def kp (l : List ByteArray) (d : ByteArray) : List ByteArray := if d.size = 32 ∧ l.length < 1024 then l ++ [d] else l
def kept (ds : List ByteArray) (k : Nat) : List ByteArray := (ds.take k).foldl kp []
theorem kept_zero (ds : List ByteArray) : kept ds 0 = [] := rfl
theorem kept_succ (ds : List ByteArray) (k : Nat) (h : k < ds.length) : kept ds (k + 1) = kp (kept ds k) ds[k] := by
  unfold kept
  rw [List.take_succ_eq_append_getElem h, List.foldl_append]; rfl
theorem kept_len (ds : List ByteArray) : ∀ k, (kept ds k).length ≤ 1024 := by
  intro k
  unfold kept
  have : ∀ (l r : List ByteArray), r.length ≤ 1024 → (l.foldl kp r).length ≤ 1024 := by
    intro l
    induction l with
    | nil => intro r h; exact h
    | cons d l ih =>
      intro r h
      refine ih (kp r d) ?_
      unfold kp
      split
      · rw [List.length_append]; simp; omega
      · exact h
  exact this _ [] (by simp)

end Go.Proofs.YtpfamgahnphceaaDoor.pk
