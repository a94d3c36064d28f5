import Derived.Test.YtgmgffcfmopgmaaDoorDkMore
import Derived.Test.YtgmgffcfmopgmaaDoorRdCopy
import Derived.Deep.DeepAppendWide
import Derived.Deep.AppendLies
import Derived.Deep.RegionLawGrows
namespace Go.Proofs.YtgmgffcfmopgmaaDoor.dr
open Go.ChangeShapes Go.WideShapes Go.ChangeAt Go.RowKit Go.Proofs.YtgmgffcfmopgmaaDoor.common Go.Proofs.YtgmgffcfmopgmaaDoor.dk

set_option maxRecDepth 100000 in
/-- whatever is put behind a row of one's own -/
theorem append_src (w : World) (base : Nat) (t tx e : TypeId) (i : TypeInfo) (z : Value) (size : Nat) (hu : Tryd.prog.underlying t = some (.slice e)) (hi : Tryd.prog.info? e = some i) (hz : i.zero = some z) (hsz : i.size = size) (hzs : z.cells.size = size) (v : Value) (n : Nat) (xs : List Value) (h : w.ownsRow base e size v n xs)
    (x : Value) (m : Nat) (news : List Value) (hs : Src Tryd.prog i.size tx x m news w) (hm : news.length = m * size) (hfit : (n + m + (n + m) / 4 + 192) * i.bytes ≤ 281474976710656) (hmax : n + m ≤ maxLen) (hbase : base ≤ w.heap.size) :
    ∃ v' W', (Builtin.append_ #[t, tx] t #[v, x]).run Tryd.prog w = .ok v' W' ∧ W'.ownsRow base e size v' (n + m) (xs ++ news) ∧ Fr v.ownBlock.toList w W' ∧ (v'.ownBlock = v.ownBlock ∨ ∃ g, v'.ownBlock = some g ∧ w.heap.size ≤ g) := by
  subst hsz
  have hl := h.1
  have hmax' : n + m ≤ 9223372036854775807 := by unfold maxLen at hmax; omega
  have grow : ∀ (ao : Option Addr) (cap : Nat), v = .slice ao n cap → cap < n + m → (Builtin.firstCells i.size n (.slice ao n cap)).run Tryd.prog w.drew = .ok xs.toArray w.drew → ∃ v' W', (Builtin.append_ #[t, tx] t #[v, x]).run Tryd.prog w = .ok v' W' ∧ W'.ownsRow base e i.size v' (n + m) (xs ++ news) ∧ Fr v.ownBlock.toList w W' ∧ (v'.ownBlock = v.ownBlock ∨ ∃ g, v'.ownBlock = some g ∧ w.heap.size ≤ g) := fun ao cap hv hc hold => by
    subst hv
    have hrun := run_append_grow_src (P := Tryd.prog) w t tx t e i z hu hi hz ao n cap xs hold x m news hs hc (by omega) (growslice_fits_wide (by omega) hfit)
    have hge := grownCap_ge w (n + m) cap e
    have hle := grownCap_le_maxLen w (n + m) cap e hmax
    refine ⟨_, _, hrun, ⟨by rw [List.length_append, hl, hm, Nat.add_mul], Or.inr ⟨w.heap.size, _, _, rfl, hbase, heap_alloc_new _ _, hge, hle, ?_, ?_⟩⟩, (((Fr.refl _ w).drew).alloc _), Or.inr ⟨w.heap.size, rfl, Nat.le_refl _⟩⟩
    · rw [Array.size_append, size_zeroCells, List.size_toArray, List.length_append, hl, hm, hzs, ← Nat.add_mul, ← Nat.add_mul]
      congr 1
      omega
    · rw [Array.toList_append, List.toList_toArray]
      exact List.take_left' (by rw [List.length_append, hl, hm, Nat.add_mul])
  rcases h.2 with ⟨rfl, rfl⟩ | ⟨g, cap, cur, rfl, h1, h2, h3, h4, h5, h6⟩
  · obtain rfl : xs = [] := List.eq_nil_of_length_eq_zero (by rw [hl, Nat.zero_mul])
    by_cases h0 : m = 0
    · subst h0
      obtain rfl : news = [] := List.eq_nil_of_length_eq_zero (by rw [hm, Nat.zero_mul])
      refine ⟨.slice none 0 0, w, ?_, h, Fr.refl _ _, Or.inl rfl⟩
      have hc := hs.cells
      rcases hs.kind with ⟨e', hk⟩ | hk <;> simp [Builtin.append_, run_underlying (P := Tryd.prog) hu, run_underlying (P := Tryd.prog) hk, sizeOf, typeInfo, hi, hs.len, hc]
    · exact grow none 0 rfl (by omega) (run_firstCells_none w.drew i.size 0 0 0)
  · by_cases hroom : n + m ≤ cap
    · have hin : ∀ j, j < news.length → 0 + n * i.size + j < cur.size := fun j hj => by
        rw [hm] at hj
        rw [h5, Nat.zero_add]
        have : (n + m) * i.size ≤ cap * i.size := Nat.mul_le_mul_right _ hroom
        rw [Nat.add_mul] at this
        omega
      have hrun := run_append_room_src (P := Tryd.prog) w t tx t e i hu hi g 0 n cap x m news hs hroom (fun j hj => by rw [cell_of h2, Array.getElem?_eq_getElem (hin j hj)]; rfl) (fun j hj => free_of h2 _)
      rw [Nat.zero_add] at hrun
      have hc2 : w.heap[g]? = some (.cells cur.toList.toArray e (0, 0)) := by rw [Array.toArray_toList]; exact h2
      have hcl : cur.toList.length = cap * i.size := (Array.length_toList (xs := cur)).trans h5
      have hlt : n * i.size + news.length ≤ cur.toList.length := by
        rw [hcl, hm, ← Nat.add_mul]
        exact Nat.mul_le_mul_right _ hroom
      have hst := sets_here hc2 news (n * i.size) hlt
      refine ⟨_, _, hrun, ⟨by rw [List.length_append, hl, hm, Nat.add_mul], Or.inr ⟨g, cap, _, rfl, h1, hst, hroom, h4, ?_, ?_⟩⟩, (Fr.refl _ w).sets g _ _ (Or.inl (by simp [Value.ownBlock])), Or.inl rfl⟩
      · rw [List.size_toArray, List.length_append, List.length_append, List.length_take, List.length_drop, ← hcl]
        omega
      · rw [List.toList_toArray, h6, ← List.append_assoc]
        exact List.take_left' (by rw [List.length_append, hl, hm, Nat.add_mul])
    · refine grow (some ⟨g, 0, none⟩) cap rfl (by omega) ?_
      exact run_firstCells_some w.drew i.size n _ n cap xs hl (by
        intro j u hu'
        have := h.cells (g := g) rfl j u hu'
        exact this)
/-- bytes that can be read as what is appended -/
theorem src_rd {w : World} {oa : Option Addr} {c : Nat} {l : List UInt8} (h : Rd w (.slice oa l.length c) l) : Src Tryd.prog 1 22 (.slice oa l.length c) l.length (l.map B) w := by
  obtain ⟨oa', c', e, hr⟩ := h
  cases e
  by_cases h0 : 0 < l.length
  · obtain ⟨g, o, rfl, _, hr⟩ := hr h0
    exact Src.ofSlice _ Tryd.underlying22 _ _ _ _ (by rw [List.length_map, Nat.mul_one]) (fun j u hu => by rw [Addr.add_mid]; exact hr j u hu) (fun u hu => by obtain ⟨_, _, rfl⟩ := List.mem_map.1 hu; rfl)
  · obtain rfl : l = [] := List.eq_nil_of_length_eq_zero (by omega)
    cases oa with
    | none => exact Src.ofNil _ Tryd.underlying22 _
    | some a => exact Src.ofSlice _ Tryd.underlying22 _ _ _ _ rfl (fun j u hu => by simp at hu) (fun u hu => by cases hu)
set_option maxRecDepth 100000 in
theorem append_rd (w : World) (base : Nat) (v : Value) (l : List UInt8) (h : w.ownsRow base 5 1 v l.length (l.map B)) (oa : Option Addr) (c : Nat) (m : List UInt8) (hr : Rd w (.slice oa m.length c) m) (hb : l.length + m.length ≤ 140738562097152) (hbase : base ≤ w.heap.size) :
    ∃ v' W', (Builtin.append_ #[22, 22] 22 #[v, .slice oa m.length c]).run Tryd.prog w = .ok v' W' ∧ W'.ownsRow base 5 1 v' (l ++ m).length ((l ++ m).map B) ∧ Fr v.ownBlock.toList w W' ∧ (v'.ownBlock = v.ownBlock ∨ ∃ g, v'.ownBlock = some g ∧ w.heap.size ≤ g) := by
  obtain ⟨i0, hi, hz0, hz1, hz2⟩ := info_parts info8
  have hs := src_rd hr
  rw [← hz1] at hs
  rw [List.length_append, List.map_append]
  exact append_src w base 22 22 5 i0 (.int .u8 0) 1 Tryd.underlying22 hi hz0 hz1 rfl v l.length (l.map B) h _ m.length (m.map B) hs (by rw [List.length_map, Nat.mul_one]) (by rw [hz2]; omega) (by unfold maxLen; omega) hbase

/-- the document's disk: what lasts, what does not yet, the room, the arms, dead? -/
structure Sq where
  A : List UInt8
  T : List UInt8
  r : Nat
  a : List (Nat × Int)
  d : Bool
/-- the document's disk in memory -/
abbrev dqc (vs vt : Value) (r : Nat) (d : Bool) (va : Value) : Array Value := #[vs, vt, .int .i64 (r : Int), .bool d, va]
structure Lq (w : World) (p : Nat) (vs vt va : Value) (x : Sq) : Prop where
  cell : w.heap[p]? = some (.cells (dqc vs vt x.r x.d va) 90)
  safe : w.ownsRow 0 5 1 vs x.A.length (x.A.map B)
  tail : w.ownsRow 0 5 1 vt x.T.length (x.T.map B)
  arms : w.ownsRow 0 108 2 va x.a.length (acs x.a)
  sep : ∀ b, vs.ownBlock = some b → vt.ownBlock ≠ some b
def fq (p : Nat) (vs vt va : Value) : List Nat := p :: (vs.ownBlock.toList ++ (vt.ownBlock.toList ++ va.ownBlock.toList))
theorem fq_p (p : Nat) (vs vt va : Value) : p ∈ fq p vs vt va := List.mem_cons_self ..
theorem fq_cases {p k : Nat} {vs vt va : Value} (h : k ∈ fq p vs vt va) : k = p ∨ vs.ownBlock = some k ∨ vt.ownBlock = some k ∨ va.ownBlock = some k := by
  rcases List.mem_cons.1 h with h | h
  · exact Or.inl h
  · rcases List.mem_append.1 h with h | h
    · exact Or.inr (Or.inl (by simpa using h))
    · rcases List.mem_append.1 h with h | h
      · exact Or.inr (Or.inr (Or.inl (by simpa using h)))
      · exact Or.inr (Or.inr (Or.inr (by simpa using h)))
theorem fq_s {p k : Nat} {vs vt va : Value} (h : vs.ownBlock = some k) : k ∈ fq p vs vt va := by simp [fq, h]
theorem fq_t {p k : Nat} {vs vt va : Value} (h : vt.ownBlock = some k) : k ∈ fq p vs vt va := by simp [fq, h]
theorem fq_a {p k : Nat} {vs vt va : Value} (h : va.ownBlock = some k) : k ∈ fq p vs vt va := by simp [fq, h]
def Dq (w : World) (p : Nat) (F : List Nat) (x : Sq) : Prop := ∃ vs vt va, F = fq p vs vt va ∧ Lq w p vs vt va x
theorem own_keepK {w w' : World} {base : Nat} {e : TypeId} {size : Nat} {v : Value} {n : Nat} {xs : List Value} (h : w.ownsRow base e size v n xs) (hk : ∀ g, v.ownBlock = some g → w'.heap[g]? = w.heap[g]?) : w'.ownsRow base e size v n xs := by
  refine ⟨h.1, ?_⟩
  rcases h.2 with h1 | ⟨g, cap, cur, rfl, h1, h2, h3⟩
  · exact Or.inl h1
  · exact Or.inr ⟨g, cap, cur, rfl, h1, (hk g rfl).trans h2, h3⟩
theorem own_at {w : World} {base : Nat} {e : TypeId} {size : Nat} {v : Value} {n : Nat} {xs : List Value} (h : w.ownsRow base e size v n xs) : ∀ g, v.ownBlock = some g → g < w.heap.size ∧ ∃ cur, w.heap[g]? = some (.cells cur e (0, 0)) := fun g hg => by
  rcases h.2 with ⟨rfl, _⟩ | ⟨g', cap, cur, rfl, h1, h2, _⟩
  · cases hg
  · cases hg; exact ⟨(Array.getElem?_eq_some_iff.1 h2).1, cur, h2⟩
theorem own_slice {w : World} {base : Nat} {e : TypeId} {size : Nat} {v : Value} {n : Nat} {xs : List Value} (h : w.ownsRow base e size v n xs) : ∃ o c, v = .slice o n c ∧ n ≤ c := by
  rcases h.2 with ⟨rfl, rfl⟩ | ⟨g, cap, cur, rfl, _, _, h1, _⟩
  · exact ⟨none, 0, rfl, Nat.le_refl _⟩
  · exact ⟨_, cap, rfl, h1⟩
theorem Lq.keep {w w' : World} {p : Nat} {vs vt va : Value} {x : Sq} (h : Lq w p vs vt va x) (hk : ∀ k ∈ fq p vs vt va, w'.heap[k]? = w.heap[k]?) : Lq w' p vs vt va x :=
  ⟨(hk p (fq_p _ _ _ _)).trans h.cell, own_keepK h.safe fun g hg => hk g (fq_s hg), own_keepK h.tail fun g hg => hk g (fq_t hg), own_keepK h.arms fun g hg => hk g (fq_a hg), h.sep⟩
theorem Lq.lt {w : World} {p : Nat} {vs vt va : Value} {x : Sq} (h : Lq w p vs vt va x) : ∀ k ∈ fq p vs vt va, k < w.heap.size := fun k hk => by
  rcases fq_cases hk with rfl | hb | hb | hb
  · exact (Array.getElem?_eq_some_iff.1 h.cell).1
  · exact (own_at h.safe k hb).1
  · exact (own_at h.tail k hb).1
  · exact (own_at h.arms k hb).1
theorem Dq.keep {w w' : World} {p : Nat} {F : List Nat} {x : Sq} (h : Dq w p F x) (hk : ∀ k ∈ F, w'.heap[k]? = w.heap[k]?) : Dq w' p F x := by
  obtain ⟨vs, vt, va, rfl, h⟩ := h
  exact ⟨vs, vt, va, rfl, h.keep hk⟩
theorem Dq.lt {w : World} {p : Nat} {F : List Nat} {x : Sq} (h : Dq w p F x) : ∀ k ∈ F, k < w.heap.size := by
  obtain ⟨vs, vt, va, rfl, h⟩ := h
  exact h.lt
theorem Dq.below {w w' : World} {p : Nat} {F : List Nat} {x : Sq} (h : Dq w p F x) (hb : Below w.heap.size w w') : Dq w' p F x := h.keep fun k hk => hb.block k (h.lt k hk)
theorem Dq.other {w w' : World} {p : Nat} {F G : List Nat} {x : Sq} (h : Dq w p F x) (hf : Fr G w w') (hn : ∀ k ∈ F, k ∉ G) : Dq w' p F x := h.keep fun k hk => hf.block k (h.lt k hk) (hn k hk)
/-- the document's disk behind a call on it -/
def Mq (w : World) (p : Nat) (F : List Nat) (x : Sq) (w' : World) : Prop := ∃ F', Dq w' p F' x ∧ Fr F w w' ∧ ∀ k ∈ F', k ∈ F ∨ w.heap.size ≤ k
theorem Mq.trans {w w1 w2 : World} {p : Nat} {F F1 : List Nat} {x : Sq} (hf : Fr F w w1) (hs : ∀ k ∈ F1, k ∈ F ∨ w.heap.size ≤ k) (h : Mq w1 p F1 x w2) : Mq w p F x w2 := by
  obtain ⟨F2, h1, h2, h3⟩ := h
  refine ⟨F2, h1, hf.trans h2 hs, fun k hk => ?_⟩
  rcases h3 k hk with h4 | h4
  · exact hs k h4
  · exact Or.inr (Nat.le_trans hf.size h4)
/-- the blocks of a disk are no other's -/
structure Apt (p : Nat) (vs vt va : Value) : Prop where
  ps : ∀ b, vs.ownBlock = some b → b ≠ p
  pt : ∀ b, vt.ownBlock = some b → b ≠ p
  pa : ∀ b, va.ownBlock = some b → b ≠ p
  sa : ∀ b, vs.ownBlock = some b → va.ownBlock ≠ some b
  ta : ∀ b, vt.ownBlock = some b → va.ownBlock ≠ some b
set_option maxRecDepth 100000 in
theorem Lq.apt {w : World} {p : Nat} {vs vt va : Value} {x : Sq} (h : Lq w p vs vt va x) : Apt p vs vt va := by
  have ne : ∀ {b c : Nat} {e1 e2 : TypeId} {c1 c2 : Array Value}, w.heap[b]? = some (.cells c1 e1 (0, 0)) → w.heap[c]? = some (.cells c2 e2 (0, 0)) → e1 ≠ e2 → b ≠ c := fun h1 h2 hne e0 => by
    rw [e0, h2] at h1
    obtain ⟨_, h7, _⟩ := Obj.cells.inj (Option.some.inj h1)
    exact hne h7.symm
  refine ⟨fun b hb => ?_, fun b hb => ?_, fun b hb => ?_, fun b hb hc => ?_, fun b hb hc => ?_⟩
  · obtain ⟨_, _, h1⟩ := own_at h.safe b hb
    exact ne h1 h.cell (by decide)
  · obtain ⟨_, _, h1⟩ := own_at h.tail b hb
    exact ne h1 h.cell (by decide)
  · obtain ⟨_, _, h1⟩ := own_at h.arms b hb
    exact ne h1 h.cell (by decide)
  · obtain ⟨_, _, h1⟩ := own_at h.safe b hb
    obtain ⟨_, _, h2⟩ := own_at h.arms b hc
    exact ne h1 h2 (by decide) rfl
  · obtain ⟨_, _, h1⟩ := own_at h.tail b hb
    obtain ⟨_, _, h2⟩ := own_at h.arms b hc
    exact ne h1 h2 (by decide) rfl
end Go.Proofs.YtgmgffcfmopgmaaDoor.dr
