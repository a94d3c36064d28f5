import Derived.Test.YtkkkgpcdnjijbabDoorStrSame
import Derived.Laws.OwnMore
namespace Go.Proofs.YtkkkgpcdnjijbabDoor.aps
open Go.ChangeShapes Go.WideShapes Go.ChangeAt Go.RowKit Go.Proofs.YtkkkgpcdnjijbabDoor.common
open Go.Proofs.YtkkkgpcdnjijbabDoor.ss (sc)

theorem sc_len (l : List ByteArray) : (sc l).length = l.length := by simp
theorem sc_set (l : List ByteArray) (k : Nat) (p : ByteArray) : (sc l).set k (.string p) = sc (l.set k p) := by simp [sc, List.map_set]

section
variable {P : Program} (w : World)

/-- one element behind a row: in its room, or in a new block, the old row as it was -/
theorem run_append_keep (base : Nat) (t ty e : TypeId) (i : TypeInfo) (z : Value) (size bytes : Nat) (ht : P.underlying t = some (.slice e)) (hi : P.info? e = some i) (hz : i.zero = some z)
    (hsize : i.size = size) (hby : i.bytes = bytes) (hzs : z.cells.size = size) (hsz : 0 < size)
    (v : Value) (n : Nat) (xs : List Value) (hown : w.ownsRow base e size v n xs)
    (a : Addr) (c : Nat) (news : List Value) (hl : news.length = 1 * size) (hnews : ∀ j u, news[j]? = some u → w.cell? (a.add j) = some u) (h1 : ∀ u ∈ news, u.oneCell' = true)
    (h63 : n + 1 ≤ maxLen) (hbytes : (n + 1) * bytes ≤ 140737488355328) (hbase : base ≤ w.heap.size) :
    ∃ v' w', (Builtin.append_ #[t, t] ty #[v, .slice (some a) 1 c]).run P w = .ok v' w' ∧ w'.ownsRow base e size v' (n + 1) (xs ++ news) ∧
      ((∃ g cap, v = .slice (some ⟨g, 0, none⟩) n cap ∧ v' = .slice (some ⟨g, 0, none⟩) (n + 1) cap ∧ w.grownBy w' (some g)) ∨ (v'.ownBlock = some w.heap.size ∧ w.grownBy w' none)) := by
  obtain ⟨v', w', hr, ho, hg, hn, hat⟩ := run_append_own_at (P := P) w base t ty e i z size bytes ht hi hz hsize hby hzs hsz v n xs hown a 1 c news hl hnews h1 h63 hbytes hbase
  refine ⟨v', w', hr, ho, ?_⟩
  have hmx : n + 1 ≤ 9223372036854775807 := by unfold maxLen at h63; omega
  rcases hown.2 with ⟨rfl, rfl⟩ | ⟨g, cap, cur, rfl, hbg, hcur, hnc, hcm, hcs, htk⟩
  · right
    refine ⟨?_, hg⟩
    rcases hat with h | h
    · exfalso
      rcases ho.2 with ⟨_, h0⟩ | ⟨g, cap, cur, rfl, _⟩
      · omega
      · cases h
    · exact h
  · by_cases hroom : n + 1 ≤ cap
    · left
      subst hsize
      have hfit : n * i.size + news.length ≤ cur.size := by rw [hl, hcs, ← Nat.add_mul]; exact Nat.mul_le_mul_right _ hroom
      have hr2 := run_append_room (P := P) w t ty e i ht hi g n cap cur hcur a 1 c news hl hnews h1 hroom hfit
      rw [hr] at hr2
      injection hr2 with hr3 _
      exact ⟨g, cap, rfl, hr3, hg⟩
    · right
      subst hsize hby
      have hr2 := run_append_grow (P := P) w t ty e i z ht hi hz ⟨g, 0, none⟩ n cap xs hown.1 (hown.cells (g := g) rfl) a 1 c news hl hnews (by omega) (by omega) (growslice_fits (by omega) hbytes)
      rw [hr] at hr2
      injection hr2 with hr3 hr4
      subst hr3 hr4
      exact ⟨rfl, rfl, rfl, rfl, by simp, fun k hk _ => heap_alloc_old w.drew _ hk⟩

theorem wpList_append_keep {ops : Array Oper} {rest : List Oper} {o : Oper} {a : Act} {Q : Exit → Act → World → Prop} (hgd : o.guard = none) (s x : Operand) (t : TypeId)
    (ho : o.op = .call { callee := .builtin .append, args := #[s, x], argTypes := #[t, t] })
    (base : Nat) (e : TypeId) (i : TypeInfo) (z : Value) (size bytes : Nat) (ht : P.underlying t = some (.slice e)) (hi : P.info? e = some i) (hz : i.zero = some z)
    (hsize : i.size = size) (hby : i.bytes = bytes) (hzs : z.cells.size = size) (hsz : 0 < size)
    (v : Value) (n : Nat) (xs : List Value) (hs : a.eval s = v) (hown : w.ownsRow base e size v n xs)
    (ad : Addr) (c : Nat) (news : List Value) (hx : a.eval x = .slice (some ad) 1 c) (hl : news.length = 1 * size) (hnews : ∀ j u, news[j]? = some u → w.cell? (ad.add j) = some u) (h1 : ∀ u ∈ news, u.oneCell' = true)
    (h63 : n + 1 ≤ maxLen) (hbytes : (n + 1) * bytes ≤ 140737488355328) (hbase : base ≤ w.heap.size)
    (h : ∀ v' w', w'.ownsRow base e size v' (n + 1) (xs ++ news) → ((∃ g cap, v = .slice (some ⟨g, 0, none⟩) n cap ∧ v' = .slice (some ⟨g, 0, none⟩) (n + 1) cap ∧ w.grownBy w' (some g)) ∨ (v'.ownBlock = some w.heap.size ∧ w.grownBy w' none)) → wpList P ops Q rest (a.put o.dst v') w') : wpList P ops Q (o :: rest) a w := by
  refine wpList_plain hgd fun K hK => ?_
  obtain ⟨v', w', hr, h2, h3⟩ := run_append_keep (P := P) w base t o.type e i z size bytes ht hi hz hsize hby hzs hsz v n xs hown ad c news hl hnews h1 h63 hbytes hbase
  unfold Oper.wp execOp
  simp only [ho, resolve, invoke, builtin, Sem.run_bind, Sem.run_pure, Result.andThen_ok, List.map_toArray, List.map_cons, List.map_nil, hs, hx, hr]
  exact hK _ _ (h v' w' h2 h3)
end

/-- all but the blocks from B0 to B1 is as it was -/
structure Mid (B0 B1 : Nat) (w w' : World) : Prop where
  os : w'.os = w.os
  tape : w'.tape = w.tape
  output : w'.output = w.output
  size : w.heap.size ≤ w'.heap.size
  block : ∀ k, k < w.heap.size → (k < B0 ∨ B1 ≤ k) → w'.heap[k]? = w.heap[k]?
theorem Mid.refl (B0 B1 : Nat) (w : World) : Mid B0 B1 w w := ⟨rfl, rfl, rfl, Nat.le_refl _, fun _ _ _ => rfl⟩
theorem Mid.trans {B0 B1 : Nat} {a b c : World} (h : Mid B0 B1 a b) (k : Mid B0 B1 b c) : Mid B0 B1 a c :=
  ⟨k.os.trans h.os, k.tape.trans h.tape, k.output.trans h.output, Nat.le_trans h.size k.size, fun i hi hr => (k.block i (Nat.lt_of_lt_of_le hi h.size) hr).trans (h.block i hi hr)⟩
theorem Mid.drew {B0 B1 : Nat} {a w : World} (h : Mid B0 B1 a w) : Mid B0 B1 a w.drew := ⟨h.os, h.tape, h.output, h.size, h.block⟩
theorem Mid.alloc {B0 B1 : Nat} {a w : World} (h : Mid B0 B1 a w) (o : Obj) : Mid B0 B1 a (w.alloc o) :=
  h.trans ⟨rfl, rfl, rfl, by simp, fun k hk _ => heap_alloc_old w o hk⟩
theorem Mid.setCell {B0 B1 : Nat} {a w : World} (h : Mid B0 B1 a w) {p : Addr} (hp : B0 ≤ p.block ∧ p.block < B1) (u : Value) : Mid B0 B1 a (w.setCell p u) :=
  h.trans ⟨rfl, rfl, rfl, by simp [World.setCell], fun k _ hr => Below.heap_setCell _ _ _ _ (by omega)⟩
theorem Mid.grown {B0 B1 : Nat} {a w w' : World} {row : Option Nat} (h : Mid B0 B1 a w) (hg : w.grownBy w' row) (hr : ∀ k, row = some k → (B0 ≤ k ∧ k < B1) ∨ a.heap.size ≤ k) : Mid B0 B1 a w' :=
  ⟨hg.os.trans h.os, hg.tape.trans h.tape, hg.output.trans h.output, Nat.le_trans h.size hg.size, fun k hk hr2 => (hg.block k (Nat.lt_of_lt_of_le hk h.size) (fun e => by have := hr k e.symm; omega)).trans (h.block k hk hr2)⟩
theorem Mid.below {B0 B1 : Nat} {a w w' : World} (h : Mid B0 B1 a w) (hb : Below w.heap.size w w') : Mid B0 B1 a w' :=
  h.trans ⟨hb.os, hb.tape, hb.output, hb.size, fun k hk _ => hb.block k hk⟩
theorem Mid.low {B0 B1 : Nat} {a w : World} (h : Mid B0 B1 a w) (h0 : B0 ≤ a.heap.size) : Below B0 a w := ⟨h.os, h.tape, h.output, h.size, fun k hk => h.block k (by omega) (Or.inl hk)⟩
theorem Mid.cell {B0 B1 : Nat} {a w : World} (h : Mid B0 B1 a w) {p : Addr} (hp : p.block < a.heap.size) (h1 : B1 ≤ p.block) : w.cell? p = a.cell? p := World.cell?_of_block (h.block _ hp (Or.inr h1))

/-- a mark of the i-th list -/
def mkd (i : Nat) : ByteArray := ⟨#[UInt8.ofNat i]⟩

/-- three lists in blocks of their own, between B0 and B1 -/
structure Three (B0 B1 : Nat) (vs : Nat → Value) : Prop where
  ne : ∀ i j, i < 3 → j < 3 → i ≠ j → (vs i).ownBlock = none ∨ (vs i).ownBlock ≠ (vs j).ownBlock
  rng : ∀ i, i < 3 → ∀ g, (vs i).ownBlock = some g → B0 ≤ g ∧ g < B1

/-- each list lies as it should, its first c j marked -/
def Marked (B0 : Nat) (e : TypeId) (vs : Nat → Value) (n : Nat → Nat) (c : Nat → Nat) (w : World) : Prop :=
  ∀ j, j < 3 → ∃ L : List ByteArray, L.length = n j ∧ (∀ t (h : t < L.length), t < c j → L[t] = mkd j) ∧ w.ownsRow B0 e 1 (vs j) (n j) (sc L)

theorem own_next {w w' : World} {base : Nat} {e : TypeId} {size : Nat} {v : Value} {n : Nat} {xs : List Value} (h : w.ownsRow base e size v n xs) (hb : Below w.heap.size w w') : w'.ownsRow base e size v n xs :=
  h.kept (row := none) ⟨hb.os, hb.tape, hb.output, hb.size, fun k hk _ => hb.block k hk⟩ (by cases v.ownBlock <;> simp)
theorem Marked.below {B0 : Nat} {e : TypeId} {vs : Nat → Value} {n c : Nat → Nat} {w w' : World} (h : Marked B0 e vs n c w) (hb : Below w.heap.size w w') : Marked B0 e vs n c w' := fun j hj => by
  obtain ⟨L, h1, h2, h3⟩ := h j hj
  exact ⟨L, h1, h2, own_next h3 hb⟩
theorem Marked.mono {B0 : Nat} {e : TypeId} {vs : Nat → Value} {n c c' : Nat → Nat} {w : World} (h : Marked B0 e vs n c w) (hc : ∀ j, j < 3 → c' j ≤ c j) : Marked B0 e vs n c' w := fun j hj => by
  obtain ⟨L, h1, h2, h3⟩ := h j hj
  exact ⟨L, h1, fun t ht hlt => h2 t ht (Nat.lt_of_lt_of_le hlt (hc j hj)), h3⟩

/-- a mark is written -/
theorem Marked.set {B0 B1 : Nat} {e : TypeId} {vs : Nat → Value} {n c : Nat → Nat} {w : World} (h3 : Three B0 B1 vs) (h : Marked B0 e vs n c w) {i g k cap : Nat} (hi : i < 3) (hv : vs i = .slice (some ⟨g, 0, none⟩) (n i) cap) (hk : k < n i) (hc : c i = k) :
    Marked B0 e vs n (fun j => if j = i then k + 1 else c j) (w.setCell ⟨g, k, none⟩ (.string (mkd i))) := fun j hj => by
  obtain ⟨L, h1, h2, h4⟩ := h j hj
  by_cases hji : j = i
  · subst hji
    simp only [if_pos]
    refine ⟨L.set k (mkd j), by rw [List.length_set]; exact h1, ?_, ?_⟩
    · intro t ht htk
      rw [List.length_set] at ht
      rw [List.getElem_set]
      split
      · rfl
      · exact h2 t ht (by omega)
    · rw [hv] at h4 ⊢
      have := (h4.stored k (.string (mkd j))).1
      rw [← sc_set L k (mkd j)]
      exact this
  · simp only [if_neg hji]
    refine ⟨L, h1, h2, ?_⟩
    have hb : (vs j).ownBlock = none ∨ (vs j).ownBlock ≠ some g := by
      rcases h3.ne j i hj hi hji with h | h
      · exact Or.inl h
      · right; rw [hv] at h; exact h
    refine (h4.kept (row := some g) (w' := _) ⟨rfl, rfl, rfl, ?_, ?_⟩ hb)
    · simp [World.setCell]
    · intro q hq hne
      have hqg : q ≠ g := fun e => hne (by rw [e])
      rw [Below.heap_setCell _ _ _ _ hqg]

/-- a list that grows out of the i-th -/
def Grows (H : Nat) (vi m : Value) (ni t : Nat) : Prop := (∃ g cap, vi = .slice (some ⟨g, 0, none⟩) ni cap ∧ m = .slice (some ⟨g, 0, none⟩) (ni + t) cap) ∨ (t = 0 ∧ m = vi) ∨ (∃ b, m.ownBlock = some b ∧ H ≤ b)

/-- one more -/
theorem grow_more {B0 B1 H : Nat} {e : TypeId} {vs : Nat → Value} {n : Nat → Nat} {w0 w w' : World} (h3 : Three B0 B1 vs) (hH : B1 ≤ H) (hm : Marked B0 e vs n n w) {i t : Nat} (hi : i < 3) {m v' : Value} {L : List ByteArray} {r : List Value} (hL : L.length = n i) (hLm : ∀ t (h : t < L.length), L[t] = mkd i)
    (hg : Grows H (vs i) m (n i) t) (hHw : H ≤ w.heap.size) (hM : Mid B0 B1 w0 w) (hw0 : w0.heap.size ≤ H)
    (hown : w'.ownsRow B0 e 1 v' (n i + t + 1) (sc L ++ r))
    (hk : (∃ g cap, m = .slice (some ⟨g, 0, none⟩) (n i + t) cap ∧ v' = .slice (some ⟨g, 0, none⟩) (n i + t + 1) cap ∧ w.grownBy w' (some g)) ∨ (v'.ownBlock = some w.heap.size ∧ w.grownBy w' none)) :
    Marked B0 e vs n n w' ∧ Grows H (vs i) v' (n i) (t + 1) ∧ Mid B0 B1 w0 w' := by
  rcases hk with ⟨g, cap, rfl, rfl, hgr⟩ | ⟨hv', hgr⟩
  · have hcase : (vs i = .slice (some ⟨g, 0, none⟩) (n i) cap) ∨ H ≤ g := by
      rcases hg with ⟨g', cap', h1, h2⟩ | ⟨rfl, h2⟩ | ⟨b, hb, hbH⟩
      · cases h2; exact Or.inl h1
      · exact Or.inl h2.symm
      · right; cases hb; exact hbH
    rcases hcase with hv | hfar
    · refine ⟨fun j hj => ?_, Or.inl ⟨g, cap, hv, rfl⟩, hM.grown hgr (fun k hk => by cases hk; exact Or.inl (h3.rng i hi g (by rw [hv]; rfl)))⟩
      obtain ⟨M, h1, h2, h4⟩ := hm j hj
      by_cases hji : j = i
      · subst hji
        refine ⟨L, hL, fun t ht _ => hLm t ht, ?_⟩
        rw [hv]
        rcases hown.2 with ⟨h, _⟩ | ⟨g', cap', cur, h, q1, q2, q3, q4, q5, q6⟩
        · cases h
        · cases h
          refine ⟨by rw [sc_len, hL, Nat.mul_one], Or.inr ⟨g, cap, cur, rfl, q1, q2, by omega, q4, q5, ?_⟩⟩
          have : (cur.toList.take ((n j + t + 1) * 1)).take (n j * 1) = (sc L ++ r).take (n j * 1) := by rw [q6]
          rw [List.take_take, Nat.min_eq_left (by omega), List.take_append_of_le_length (by rw [sc_len, hL]; omega), show (sc L).take (n j * 1) = sc L from List.take_of_length_le (by rw [sc_len, hL]; omega)] at this
          exact this
      · refine ⟨M, h1, h2, h4.kept hgr ?_⟩
        rcases h3.ne j i hj hi hji with h | h
        · exact Or.inl h
        · right; rw [hv] at h; exact h
    · refine ⟨fun j hj => ?_, Or.inr (Or.inr ⟨g, rfl, hfar⟩), hM.grown hgr (fun k hk => by cases hk; exact Or.inr (Nat.le_trans hw0 hfar))⟩
      obtain ⟨M, h1, h2, h4⟩ := hm j hj
      refine ⟨M, h1, h2, h4.kept hgr ?_⟩
      right
      intro he
      have := (h3.rng j hj g he).2
      omega
  · refine ⟨fun j hj => ?_, Or.inr (Or.inr ⟨_, hv', hHw⟩), hM.grown hgr (fun k hk => by cases hk)⟩
    obtain ⟨M, h1, h2, h4⟩ := hm j hj
    exact ⟨M, h1, h2, h4.kept hgr (by cases (vs j).ownBlock <;> simp)⟩

end Go.Proofs.YtkkkgpcdnjijbabDoor.aps
