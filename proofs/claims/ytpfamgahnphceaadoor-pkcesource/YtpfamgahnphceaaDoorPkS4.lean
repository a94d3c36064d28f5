import Derived.Test.YtpfamgahnphceaaDoorPkSeen
namespace Go.Proofs.YtpfamgahnphceaaDoor.pk
open Go.ChangeShapes Go.WideShapes Go.ChangeAt Go.RowKit Go.Proofs.YtpfamgahnphceaaDoor.common

def upd {α : Type} (f : Nat → α) (k : Nat) (x : α) : Nat → α := fun j => if j = k then x else f j
theorem upd_same {α : Type} (f : Nat → α) (k : Nat) (x : α) : upd f k x k = x := if_pos rfl
theorem upd_other {α : Type} (f : Nat → α) (k : Nat) (x : α) (j : Nat) (h : j ≠ k) : upd f k x j = f j := if_neg h
theorem upd_self {α : Type} (f : Nat → α) (k : Nat) : upd f k (f k) = f := by
  funext j
  unfold upd
  split
  · rename_i h; rw [h]
  · rfl

/-- two sources, the document's two, the texts that were seen, a kind -/
structure S4 (w wr : World) (n : Nat) (kb : Option Nat) (kind : Int) (G H : Nat → Option Nat) (L M : Nat → List ByteArray) (sv : Value) (sn : List ByteArray) : Prop where
  src : ∀ i, i < 2 → Src wr (n + i) (G i) (rawL (L i))
  dsr : ∀ i, i < 2 → DSrc wr (n + 3 + i) (H i) (M i)
  arS : wr.heap[n + 2]? = some (.cells #[ptr n, ptr (n + 1)] 39 (0, 0))
  arD : wr.heap[n + 5]? = some (.cells #[ptr (n + 3), ptr (n + 4)] 42 (0, 0))
  sen : wr.heap[n + 6]? = some (.cells #[sv] 22 (0, 0))
  row : wr.ownsRow (n + 7) 9 1 sv sn.length (ss.sc sn)
  gge : ∀ i g, i < 2 → G i = some g → n + 7 ≤ g
  hge : ∀ i g, i < 2 → H i = some g → n + 7 ≤ g
  gne : ∀ i j g, i < 2 → j < 2 → i ≠ j → G i = some g → G j ≠ some g
  hne : ∀ i j g, i < 2 → j < 2 → i ≠ j → H i = some g → H j ≠ some g
  hse : ∀ i g, i < 2 → H i = some g → sv.ownBlock ≠ some g
  low : Below n w wr
  big : n + 7 ≤ wr.heap.size
  kc : ∀ b, kb = some b → n + 7 ≤ b ∧ wr.heap[b]? = some (.cells #[.int .i64 kind] 3 (0, 0))

section
variable {w wr w2 : World} {n : Nat} {kb : Option Nat} {kind : Int} {G H : Nat → Option Nat} {L M : Nat → List ByteArray} {sv : Value} {sn : List ByteArray}

theorem S4.glt (h : S4 w wr n kb kind G H L M sv sn) (i g : Nat) (hi : i < 2) (hg : G i = some g) : g < wr.heap.size ∧ ∃ cur, wr.heap[g]? = some (.cells cur 55 (0, 0)) := by
  obtain ⟨v, _, hl⟩ := (h.src i hi).lie
  exact hl.lt g hg
theorem S4.hlt (h : S4 w wr n kb kind G H L M sv sn) (i g : Nat) (hi : i < 2) (hg : H i = some g) : g < wr.heap.size ∧ ∃ cur, wr.heap[g]? = some (.cells cur 9 (0, 0)) := (h.dsr i hi).blt g hg
theorem S4.klt (h : S4 w wr n kb kind G H L M sv sn) (b : Nat) (hb : kb = some b) : b < wr.heap.size := (Array.getElem?_eq_some_iff.1 (h.kc b hb).2).1
theorem S4.gh (h : S4 w wr n kb kind G H L M sv sn) (i j g : Nat) (hi : i < 2) (hj : j < 2) (hg : G i = some g) : H j ≠ some g := fun e => by
  obtain ⟨_, c1, h1⟩ := h.glt i g hi hg
  obtain ⟨_, c2, h2⟩ := h.hlt j g hj e
  rw [h1] at h2
  simp at h2
theorem S4.gs (h : S4 w wr n kb kind G H L M sv sn) (i g : Nat) (hi : i < 2) (hg : G i = some g) : sv.ownBlock ≠ some g := fun e => by
  obtain ⟨_, c1, h1⟩ := h.glt i g hi hg
  obtain ⟨_, _, c2, h2⟩ := own_type h.row g e
  rw [h1] at h2
  simp at h2
theorem S4.gk (h : S4 w wr n kb kind G H L M sv sn) (i : Nat) (hi : i < 2) (b : Nat) (hb : kb = some b) : G i ≠ some b := fun e => by
  obtain ⟨_, c1, h1⟩ := h.glt i b hi e
  rw [(h.kc b hb).2] at h1
  simp at h1
theorem S4.hk (h : S4 w wr n kb kind G H L M sv sn) (i : Nat) (hi : i < 2) (b : Nat) (hb : kb = some b) : H i ≠ some b := fun e => by
  obtain ⟨_, c1, h1⟩ := h.hlt i b hi e
  rw [(h.kc b hb).2] at h1
  simp at h1
theorem S4.sk (h : S4 w wr n kb kind G H L M sv sn) (b : Nat) (hb : kb = some b) : sv.ownBlock ≠ some b := fun e => by
  obtain ⟨_, _, c2, h2⟩ := own_type h.row b e
  rw [(h.kc b hb).2] at h2
  simp at h2

theorem S4.below (h : S4 w wr n kb kind G H L M sv sn) (hb : Below wr.heap.size wr w2) : S4 w w2 n kb kind G H L M sv sn := by
  have hbig := h.big
  exact ⟨fun i hi => (h.src i hi).below hb, fun i hi => (h.dsr i hi).keep (hb.block _ (by omega)) fun g hg => hb.block g (h.hlt i g hi hg).1, (hb.block _ (by omega)).trans h.arS, (hb.block _ (by omega)).trans h.arD, (hb.block _ (by omega)).trans h.sen,
    own_keep h.row fun g hg => hb.block g (own_type h.row g hg).2.1, h.gge, h.hge, h.gne, h.hne, h.hse, h.low.trans (hb.mono (by omega)), Nat.le_trans hbig hb.size, fun b e => ⟨(h.kc b e).1, (hb.block _ (h.klt b e)).trans (h.kc b e).2⟩⟩
theorem S4.drew (h : S4 w wr n kb kind G H L M sv sn) : S4 w wr.drew n kb kind G H L M sv sn := h.below (Below.refl _ _).drew

/-- one of the sources has changed -/
theorem S4.srcOp (h : S4 w wr n kb kind G H L M sv sn) (k : Nat) (hk : k < 2) (gb : Option Nat) (l : List ByteArray) (hs : Src w2 (n + k) gb (rawL l)) (hg : ∀ g, gb = some g → G k = some g ∨ wr.heap.size ≤ g) (hf : Fr (n + k) (G k) wr w2) :
    S4 w w2 n kb kind (upd G k gb) H (upd L k l) M sv sn := by
  have hbig := h.big
  have hlow : ∀ j, j < n + 7 → G k ≠ some j := fun j hj e => by have := h.gge k j hk e; omega
  have hfix : ∀ j, j < n + 7 → j ≠ n + k → w2.heap[j]? = wr.heap[j]? := fun j hj hne => hf.block j (by omega) hne (hlow j hj)
  refine ⟨fun i hi => ?_, fun i hi => ?_, (hfix _ (by omega) (by omega)).trans h.arS, (hfix _ (by omega) (by omega)).trans h.arD, (hfix _ (by omega) (by omega)).trans h.sen, ?_, fun i g hi hgi => ?_, h.hge, ?_, h.hne, h.hse, ?_, Nat.le_trans hbig hf.size, ?_⟩
  · by_cases e : i = k
    · subst e; rw [upd_same, upd_same]; exact hs
    · rw [upd_other _ _ _ _ e, upd_other _ _ _ _ e]
      exact (h.src i hi).keep (hfix _ (by omega) (by omega)) fun g hgi => hf.block g (h.glt i g hi hgi).1 (by have := h.gge i g hi hgi; omega) (fun e2 => h.gne i k g hi hk e hgi e2)
  · exact (h.dsr i hi).keep (hfix _ (by omega) (by omega)) fun g hgi => hf.block g (h.hlt i g hi hgi).1 (by have := h.hge i g hi hgi; omega) (fun e2 => h.gh k i g hk hi e2 hgi)
  · exact own_keep h.row fun g hgi => hf.block g (own_type h.row g hgi).2.1 (by have := (own_type h.row g hgi).1; omega) (fun e2 => h.gs k g hk e2 hgi)
  · by_cases e : i = k
    · subst e
      rw [upd_same] at hgi
      rcases hg g hgi with e2 | e2
      · exact h.gge i g hk e2
      · omega
    · rw [upd_other _ _ _ _ e] at hgi
      exact h.gge i g hi hgi
  · intro i j g hi hj hij hgi hgj
    by_cases e : i = k
    · subst e
      rw [upd_same] at hgi
      rw [upd_other _ _ _ _ (Ne.symm hij)] at hgj
      rcases hg g hgi with e2 | e2
      · exact h.gne i j g hi hj hij e2 hgj
      · have := (h.glt j g hj hgj).1; omega
    · rw [upd_other _ _ _ _ e] at hgi
      by_cases e3 : j = k
      · subst e3
        rw [upd_same] at hgj
        rcases hg g hgj with e2 | e2
        · exact h.gne i j g hi hj hij hgi e2
        · have := (h.glt i g hi hgi).1; omega
      · rw [upd_other _ _ _ _ e3] at hgj
        exact h.gne i j g hi hj hij hgi hgj
  · exact ⟨hf.os.trans h.low.os, hf.tape.trans h.low.tape, hf.output.trans h.low.output, Nat.le_trans h.low.size hf.size, fun j hj => (hfix j (by omega) (by omega)).trans (h.low.block j hj)⟩
  · exact fun b e => ⟨(h.kc b e).1, (hf.block b (h.klt b e) (by have := (h.kc b e).1; omega) (h.gk k hk b e)).trans (h.kc b e).2⟩

/-- one of the document's sources has changed -/
theorem S4.docOp (h : S4 w wr n kb kind G H L M sv sn) (k : Nat) (hk : k < 2) (gb : Option Nat) (l : List ByteArray) (hs : DSrc w2 (n + 3 + k) gb l) (hg : ∀ g, gb = some g → H k = some g ∨ wr.heap.size ≤ g) (hf : Fr (n + 3 + k) (H k) wr w2) :
    S4 w w2 n kb kind G (upd H k gb) L (upd M k l) sv sn := by
  have hbig := h.big
  have hlow : ∀ j, j < n + 7 → H k ≠ some j := fun j hj e => by have := h.hge k j hk e; omega
  have hfix : ∀ j, j < n + 7 → j ≠ n + 3 + k → w2.heap[j]? = wr.heap[j]? := fun j hj hne => hf.block j (by omega) hne (hlow j hj)
  refine ⟨fun i hi => ?_, fun i hi => ?_, (hfix _ (by omega) (by omega)).trans h.arS, (hfix _ (by omega) (by omega)).trans h.arD, (hfix _ (by omega) (by omega)).trans h.sen, ?_, h.gge, fun i g hi hgi => ?_, h.gne, ?_, ?_, ?_, Nat.le_trans hbig hf.size, ?_⟩
  · exact (h.src i hi).keep (hfix _ (by omega) (by omega)) fun g hgi => hf.block g (h.glt i g hi hgi).1 (by have := h.gge i g hi hgi; omega) (fun e2 => h.gh i k g hi hk hgi e2)
  · by_cases e : i = k
    · subst e; rw [upd_same, upd_same]; exact hs
    · rw [upd_other _ _ _ _ e, upd_other _ _ _ _ e]
      exact (h.dsr i hi).keep (hfix _ (by omega) (by omega)) fun g hgi => hf.block g (h.hlt i g hi hgi).1 (by have := h.hge i g hi hgi; omega) (fun e2 => h.hne i k g hi hk e hgi e2)
  · exact own_keep h.row fun g hgi => hf.block g (own_type h.row g hgi).2.1 (by have := (own_type h.row g hgi).1; omega) (fun e2 => h.hse k g hk e2 hgi)
  · by_cases e : i = k
    · subst e
      rw [upd_same] at hgi
      rcases hg g hgi with e2 | e2
      · exact h.hge i g hk e2
      · omega
    · rw [upd_other _ _ _ _ e] at hgi
      exact h.hge i g hi hgi
  · intro i j g hi hj hij hgi hgj
    by_cases e : i = k
    · subst e
      rw [upd_same] at hgi
      rw [upd_other _ _ _ _ (Ne.symm hij)] at hgj
      rcases hg g hgi with e2 | e2
      · exact h.hne i j g hi hj hij e2 hgj
      · have := (h.hlt j g hj hgj).1; omega
    · rw [upd_other _ _ _ _ e] at hgi
      by_cases e3 : j = k
      · subst e3
        rw [upd_same] at hgj
        rcases hg g hgj with e2 | e2
        · exact h.hne i j g hi hj hij hgi e2
        · have := (h.hlt i g hi hgi).1; omega
      · rw [upd_other _ _ _ _ e3] at hgj
        exact h.hne i j g hi hj hij hgi hgj
  · intro i g hi hgi hsv
    by_cases e : i = k
    · subst e
      rw [upd_same] at hgi
      rcases hg g hgi with e2 | e2
      · exact h.hse i g hi e2 hsv
      · have := (own_type h.row g hsv).2.1; omega
    · rw [upd_other _ _ _ _ e] at hgi
      exact h.hse i g hi hgi hsv
  · exact ⟨hf.os.trans h.low.os, hf.tape.trans h.low.tape, hf.output.trans h.low.output, Nat.le_trans h.low.size hf.size, fun j hj => (hfix j (by omega) (by omega)).trans (h.low.block j hj)⟩
  · exact fun b e => ⟨(h.kc b e).1, (hf.block b (h.klt b e) (by have := (h.kc b e).1; omega) (h.hk k hk b e)).trans (h.kc b e).2⟩

/-- another kind -/
theorem S4.other (h : S4 w wr n kb kind G H L M sv sn) (j : Int) : S4 w (wr.alloc (.cells #[.int .i64 j] 3)) n (some wr.heap.size) j G H L M sv sn := by
  have h2 := h.below ((Below.refl wr.heap.size wr).alloc (Nat.le_refl _) (.cells #[.int .i64 j] 3))
  exact ⟨h2.src, h2.dsr, h2.arS, h2.arD, h2.sen, h2.row, h2.gge, h2.hge, h2.gne, h2.hne, h2.hse, h2.low, h2.big, fun b e => by cases e; exact ⟨h.big, heap_alloc_new wr _⟩⟩

theorem Fr.weak {p : Nat} {gb : Option Nat} (h : Fr p none wr w2) : Fr p gb wr w2 := ⟨h.os, h.tape, h.output, h.size, fun k hk h1 _ => h.block k hk h1 (by simp)⟩
theorem S4.push (h : S4 w wr n kb kind G H L M sv sn) (k : Nat) (hk : k < 2) (l : List ByteArray) (hp : PsOut (n + k) (G k) (rawL l) wr w2) : ∃ G', S4 w w2 n kb kind G' H (upd L k l) M sv sn := by
  obtain ⟨gb', h1, h2, h3⟩ := hp
  exact ⟨_, h.srcOp k hk gb' l h2 (fun g hg => by rcases h1 with e | ⟨g', e, h4⟩; exact Or.inl (e ▸ hg); rw [e] at hg; cases hg; exact Or.inr h4) h3⟩
theorem S4.take (h : S4 w wr n kb kind G H L M sv sn) (k : Nat) (hk : k < 2) (l : List ByteArray) (hp : TkOut (n + k) (G k) (rawL l) wr w2) : ∃ G', S4 w w2 n kb kind G' H (upd L k l) M sv sn := by
  obtain ⟨gb', h1, h2, h3⟩ := hp
  exact ⟨_, h.srcOp k hk gb' l h2 (fun g hg => by rcases h1 with e | e; exact Or.inl (e ▸ hg); rw [e] at hg; cases hg) h3.weak⟩
theorem S4.dpush (h : S4 w wr n kb kind G H L M sv sn) (k : Nat) (hk : k < 2) (l : List ByteArray) (hp : DpOut (n + 3 + k) (H k) l wr w2) : ∃ H', S4 w w2 n kb kind G H' L (upd M k l) sv sn := by
  obtain ⟨gb', h1, h2, h3⟩ := hp
  exact ⟨_, h.docOp k hk gb' l h2 (fun g hg => by rcases h1 with e | ⟨g', e, h4⟩; exact Or.inl (e ▸ hg); rw [e] at hg; cases hg; exact Or.inr h4) h3⟩
theorem S4.dtake (h : S4 w wr n kb kind G H L M sv sn) (k : Nat) (hk : k < 2) (l : List ByteArray) (hp : DtOut (n + 3 + k) (H k) l wr w2) : ∃ H', S4 w w2 n kb kind G H' L (upd M k l) sv sn := by
  obtain ⟨gb', h1, h2, h3⟩ := hp
  exact ⟨_, h.docOp k hk gb' l h2 (fun g hg => by rcases h1 with e | e; exact Or.inl (e ▸ hg); rw [e] at hg; cases hg) h3.weak⟩

/-- one more text was seen -/
theorem S4.seen (h : S4 w wr n kb kind G H L M sv sn) (sv' : Value) (sn' : List ByteArray) (hr : w2.ownsRow (n + 7) 9 1 sv' sn'.length (ss.sc sn')) (hg : wr.grownBy w2 sv.ownBlock) (hnew : ∀ g, sv'.ownBlock = some g → sv.ownBlock = some g ∨ wr.heap.size ≤ g) :
    S4 w (w2.setCell ⟨n + 6, 0, none⟩ sv') n kb kind G H L M sv' sn' := by
  have hbig := h.big
  have hlow : ∀ j, j < n + 7 → some j ≠ sv.ownBlock := fun j hj e => by have := (own_type h.row j e.symm).1; omega
  have hfix : ∀ j, j < n + 7 → j ≠ n + 6 → (w2.setCell ⟨n + 6, 0, none⟩ sv').heap[j]? = wr.heap[j]? := fun j hj hne => (set_other _ _ _ _ hne).trans (hg.block j (by omega) (hlow j hj))
  have hfar : ∀ j, j < wr.heap.size → n + 7 ≤ j → sv.ownBlock ≠ some j → (w2.setCell ⟨n + 6, 0, none⟩ sv').heap[j]? = wr.heap[j]? := fun j hj h1 h2 => (set_other _ _ _ _ (by show j ≠ n + 6; omega)).trans (hg.block j hj (Ne.symm h2))
  refine ⟨fun i hi => (h.src i hi).keep (hfix _ (by omega) (by omega)) fun g hgi => hfar g (h.glt i g hi hgi).1 (h.gge i g hi hgi) (h.gs i g hi hgi), fun i hi => (h.dsr i hi).keep (hfix _ (by omega) (by omega)) fun g hgi => hfar g (h.hlt i g hi hgi).1 (h.hge i g hi hgi) (h.hse i g hi hgi), (hfix _ (by omega) (by omega)).trans h.arS, (hfix _ (by omega) (by omega)).trans h.arD, ?_, ?_, h.gge, h.hge, h.gne, h.hne, fun i g hi hgi e => ?_, ?_, ?_, fun b e => ⟨(h.kc b e).1, (hfar b (h.klt b e) (h.kc b e).1 (h.sk b e)).trans (h.kc b e).2⟩⟩
  · exact set_here ((hg.block _ (by omega) (hlow _ (by omega))).trans h.sen)
  · exact own_keep hr fun g hgi => set_other _ _ _ _ (by show g ≠ n + 6; have := (own_type hr g hgi).1; omega)
  · rcases hnew g e with e2 | e2
    · exact h.hse i g hi hgi e2
    · have := (h.hlt i g hi hgi).1; omega
  · exact ⟨hg.os.trans h.low.os, hg.tape.trans h.low.tape, hg.output.trans h.low.output, by rw [size_set]; exact Nat.le_trans h.low.size hg.size, fun j hj => (hfix j (by omega) (by omega)).trans (h.low.block j hj)⟩
  · rw [size_set]; exact Nat.le_trans hbig hg.size
end

end Go.Proofs.YtpfamgahnphceaaDoor.pk
