import Derived.Test.YtkamnkldgeaaaaaDoorDaRun
import Derived.Test.YtkamnkldgeaaaaaDoorAppKeep
import Derived.Deep.AppendLies
namespace Go.Proofs.YtkamnkldgeaaaaaDoor.da
open Go.ChangeShapes Go.WideShapes Go.ChangeAt Go.RowKit Go.Proofs.YtkamnkldgeaaaaaDoor.common Go.Proofs.YtkamnkldgeaaaaaDoor.dk Go.Proofs.YtkamnkldgeaaaaaDoor.dr

theorem infoSl : (Tryd.prog.info? 25).map (fun i => (i.zero, i.size, i.bytes)) = some (some (.slice none 0 0), 1, 24) := by kernel_rfl
theorem appendX {P : Program} {w : World} {ops : Array Oper} {rest : List Oper} {o : Oper} {a : Act} {Q : Exit → Act → World → Prop} (hgd : o.guard = none) (s x : Operand) (t tx : TypeId)
    (ho : o.op = .call { callee := .builtin .append, args := #[s, x], argTypes := #[t, tx] }) (vs vx : Value) (hs : a.eval s = vs) (hx : a.eval x = vx) (v' : Value) (w' : World)
    (hr : (Builtin.append_ #[t, tx] o.type #[vs, vx]).run P w = .ok v' w') (h : wpList P ops Q rest (a.put o.dst v') w') : wpList P ops Q (o :: rest) a w := by
  refine wpList_plain hgd fun K hK => ?_
  unfold Oper.wp execOp
  simp only [ho, resolve, invoke, builtin, Sem.run_bind, Sem.run_pure, Result.andThen_ok, List.map_toArray, List.map_cons, List.map_nil, hs, hx, hr]
  exact hK _ _ h
theorem rows_apart {w : World} {base base' : Nat} {e e' : TypeId} {z z' : Nat} {v v' : Value} {n n' : Nat} {xs xs' : List Value} (he : e ≠ e') (h : w.ownsRow base e z v n xs) (h' : w.ownsRow base' e' z' v' n' xs') : ∀ g, v.ownBlock = some g → v'.ownBlock ≠ some g := fun g hg hg' => by
  rcases h.2 with ⟨rfl, _⟩ | ⟨k, cap, cur, rfl, _, hh, _⟩
  · cases hg
  · rcases h'.2 with ⟨rfl, _⟩ | ⟨k', cap', cur', rfl, _, hh', _⟩
    · cases hg'
    · have e1 : k = g := Option.some.inj hg
      have e2 : k' = g := Option.some.inj hg'
      subst e1 e2
      rw [hh] at hh'
      cases hh'
      exact he rfl
theorem box_apart {w : World} {base pk : Nat} {e e' : TypeId} {z : Nat} {v : Value} {n : Nat} {xs : List Value} {cs : Array Value} (he : e ≠ e') (h : w.ownsRow base e z v n xs) (h' : w.heap[pk]? = some (.cells cs e' (0, 0))) : v.ownBlock ≠ some pk := fun hg => by
  rcases h.2 with ⟨rfl, _⟩ | ⟨k, cap, cur, rfl, _, hh, _⟩
  · cases hg
  · have e1 : k = pk := Option.some.inj hg
    subst e1
    rw [hh] at h'
    cases h'
    exact he rfl
/-- at pk lies a Kept: the lists us, the marks ms -/
structure Kq (w : World) (pk : Nat) (vl vm : Value) (us : List Value) (ms : List UInt8) : Prop where
  box : w.heap[pk]? = some (.cells #[vl, vm] 35 (0, 0))
  rl : w.ownsRow 0 25 1 vl us.length us
  rm : w.ownsRow 0 5 1 vm ms.length (ms.map B)
def fk (pk : Nat) (vl vm : Value) : List Nat := pk :: (vl.ownBlock.toList ++ vm.ownBlock.toList)
theorem mem_fk {pk b : Nat} {vl vm : Value} : b ∈ fk pk vl vm ↔ b = pk ∨ vl.ownBlock = some b ∨ vm.ownBlock = some b := by
  unfold fk
  simp [Option.mem_toList]
theorem Kq.lt {w : World} {pk : Nat} {vl vm : Value} {us : List Value} {ms : List UInt8} (h : Kq w pk vl vm us ms) : ∀ b ∈ fk pk vl vm, b < w.heap.size := fun b hb => by
  rcases mem_fk.1 hb with rfl | k | k
  · exact (Array.getElem?_eq_some_iff.1 h.box).1
  · exact (h.rl.lt b k).2
  · exact (h.rm.lt b k).2
theorem Kq.keep {w w' : World} {pk : Nat} {vl vm : Value} {us : List Value} {ms : List UInt8} (h : Kq w pk vl vm us ms) (hk : ∀ b ∈ fk pk vl vm, w'.heap[b]? = w.heap[b]?) : Kq w' pk vl vm us ms :=
  ⟨(hk pk (mem_fk.2 (Or.inl rfl))).trans h.box, own_keep' h.rl (fun g hg => hk g (mem_fk.2 (Or.inr (Or.inl hg)))), own_keep' h.rm (fun g hg => hk g (mem_fk.2 (Or.inr (Or.inr hg))))⟩
theorem Kq.other {w w' : World} {pk : Nat} {vl vm : Value} {us : List Value} {ms : List UInt8} {G : List Nat} (h : Kq w pk vl vm us ms) (hf : Fr G w w') (hn : ∀ b ∈ fk pk vl vm, b ∉ G) : Kq w' pk vl vm us ms :=
  h.keep fun b hb => hf.block b (h.lt b hb) (hn b hb)
theorem own_setC {w : World} {base : Nat} {e : TypeId} {z : Nat} {v : Value} {n : Nat} {xs : List Value} (h : w.ownsRow base e z v n xs) (p : Addr) (x : Value) (hp : v.ownBlock ≠ some p.block) : (w.setCell p x).ownsRow base e z v n xs :=
  own_keep' h fun g hg => set_other w p x g (fun hh => hp (by rw [hg, hh]))
theorem Kq.pushL {W W1 : World} {pk : Nat} {vl vm vl' u : Value} {us : List Value} {ms : List UInt8} (h : Kq W pk vl vm us ms) (hf : Fr vl.ownBlock.toList W W1) (ho : W1.ownsRow 0 25 1 vl' (us.length + 1) (us ++ [u])) (hb : ∀ b, vl'.ownBlock = some b → vl.ownBlock = some b ∨ W.heap.size ≤ b) :
    Kq (W1.setCell ⟨pk, 0, none⟩ vl') pk vl' vm (us ++ [u]) ms ∧ Fr (fk pk vl vm) W (W1.setCell ⟨pk, 0, none⟩ vl') ∧ ∀ b ∈ fk pk vl' vm, b ∈ fk pk vl vm ∨ W.heap.size ≤ b := by
  have hpk := (Array.getElem?_eq_some_iff.1 h.box).1
  have n1 : vl.ownBlock ≠ some pk := box_apart (by decide) h.rl h.box
  have n2 : vm.ownBlock ≠ some pk := box_apart (by decide) h.rm h.box
  have hx1 : W1.heap[pk]? = some (.cells #[vl, vm] 35 (0, 0)) := (hf.block pk hpk (fun hm => n1 (Option.mem_toList.1 hm))).trans h.box
  have hm1 : W1.ownsRow 0 5 1 vm ms.length (ms.map B) := own_fr h.rm hf (fun g hg hm => rows_apart (by decide) h.rm h.rl g hg (Option.mem_toList.1 hm))
  have hvl : vl'.ownBlock ≠ some pk := fun e => by
    rcases hb pk e with k | k
    · exact n1 k
    · omega
  refine ⟨⟨?_, ?_, own_setC hm1 _ _ n2⟩, ?_, fun b hb' => ?_⟩
  · simp [World.setCell, Array.getElem?_modify, hx1]
  · rw [List.length_append]; exact own_setC ho _ _ hvl
  · refine Fr.set (hf.mono (fun k hk => mem_fk.2 (Or.inr (Or.inl (Option.mem_toList.1 hk))))) _ _ (Or.inl (mem_fk.2 (Or.inl rfl)))
  · rcases mem_fk.1 hb' with k | k | k
    · exact Or.inl (mem_fk.2 (Or.inl k))
    · rcases hb b k with k | k
      · exact Or.inl (mem_fk.2 (Or.inr (Or.inl k)))
      · exact Or.inr k
    · exact Or.inl (mem_fk.2 (Or.inr (Or.inr k)))
theorem Kq.pushM {W W1 : World} {pk : Nat} {vl vm vm' : Value} {us : List Value} {ms : List UInt8} {m : UInt8} (h : Kq W pk vl vm us ms) (hf : Fr vm.ownBlock.toList W W1) (ho : W1.ownsRow 0 5 1 vm' (ms.length + 1) (ms.map B ++ [B m])) (hb : ∀ b, vm'.ownBlock = some b → vm.ownBlock = some b ∨ W.heap.size ≤ b) :
    Kq (W1.setCell ⟨pk, 1, none⟩ vm') pk vl vm' us (ms ++ [m]) ∧ Fr (fk pk vl vm) W (W1.setCell ⟨pk, 1, none⟩ vm') ∧ ∀ b ∈ fk pk vl vm', b ∈ fk pk vl vm ∨ W.heap.size ≤ b := by
  have hpk := (Array.getElem?_eq_some_iff.1 h.box).1
  have n1 : vl.ownBlock ≠ some pk := box_apart (by decide) h.rl h.box
  have n2 : vm.ownBlock ≠ some pk := box_apart (by decide) h.rm h.box
  have hx1 : W1.heap[pk]? = some (.cells #[vl, vm] 35 (0, 0)) := (hf.block pk hpk (fun hm => n2 (Option.mem_toList.1 hm))).trans h.box
  have hl1 : W1.ownsRow 0 25 1 vl us.length us := own_fr h.rl hf (fun g hg hm => rows_apart (by decide) h.rl h.rm g hg (Option.mem_toList.1 hm))
  have hvm : vm'.ownBlock ≠ some pk := fun e => by
    rcases hb pk e with k | k
    · exact n2 k
    · omega
  refine ⟨⟨?_, own_setC hl1 _ _ n1, ?_⟩, ?_, fun b hb' => ?_⟩
  · simp [World.setCell, Array.getElem?_modify, hx1]
  · rw [List.length_append, List.map_append]; exact own_setC ho _ _ hvm
  · refine Fr.set (hf.mono (fun k hk => mem_fk.2 (Or.inr (Or.inr (Option.mem_toList.1 hk))))) _ _ (Or.inl (mem_fk.2 (Or.inl rfl)))
  · rcases mem_fk.1 hb' with k | k | k
    · exact Or.inl (mem_fk.2 (Or.inl k))
    · exact Or.inl (mem_fk.2 (Or.inr (Or.inl k)))
    · rcases hb b k with k | k
      · exact Or.inl (mem_fk.2 (Or.inr (Or.inr k)))
      · exact Or.inr k
theorem fr_grown' {w w' : World} {row : Option Nat} (h : w.grownBy w' row) : Fr row.toList w w' :=
  ⟨h.os, h.tape, h.output, h.size, fun k hk hn => h.block k hk (fun e => hn (Option.mem_toList.2 e.symm))⟩
/-- what a list holds while it is written over -/
def hlf (p : List UInt8) (k : Nat) (m : UInt8) : List UInt8 := List.replicate k m ++ p.drop k
theorem hlf_len (p : List UInt8) (k : Nat) (m : UInt8) (h : k ≤ p.length) : (hlf p k m).length = p.length := by simp [hlf]; omega
theorem hlf_zero (p : List UInt8) (m : UInt8) : hlf p 0 m = p := by simp [hlf]
theorem hlf_full (p : List UInt8) (m : UInt8) : hlf p p.length m = List.replicate p.length m := by simp [hlf]
theorem hlf_set (p : List UInt8) (k : Nat) (m : UInt8) (h : k < p.length) : (hlf p k m).set k m = hlf p (k + 1) m := by
  unfold hlf
  rw [List.set_append_right _ _ (by simp), List.length_replicate, Nat.sub_self, List.drop_eq_getElem_cons h, List.set_cons_zero, List.replicate_succ']
  simp
theorem own_byte_set {w : World} {base g cap : Nat} {l : List UInt8} (h : w.ownsRow base 5 1 (.slice (some ⟨g, 0, none⟩) l.length cap) l.length (l.map B)) (k : Nat) (c : UInt8) : (w.setCell ⟨g, k, none⟩ (B c)).ownsRow base 5 1 (.slice (some ⟨g, 0, none⟩) (l.set k c).length cap) (l.set k c).length ((l.set k c).map B) := by
  refine ⟨by simp, ?_⟩
  rcases h.2 with ⟨hv, _⟩ | ⟨g', cap', cur, hv, hg, hh, h1, h2, h3, h4⟩
  · cases hv
  · cases hv
    refine Or.inr ⟨g, cap, cur.setIfInBounds k (B c), rfl, hg, ?_, by rw [List.length_set]; exact h1, h2, by rw [Array.size_setIfInBounds]; exact h3, ?_⟩
    · simp [World.setCell, Array.getElem?_modify, hh]
    · rw [List.length_set, Array.toList_setIfInBounds, List.map_set, ← h4, List.take_set]
theorem own_byte_cell {w : World} {base g cap n : Nat} {l : List UInt8} (h : w.ownsRow base 5 1 (.slice (some ⟨g, 0, none⟩) n cap) l.length (l.map B)) (k : Nat) (hk : k < l.length) : w.cell? ⟨g, k, none⟩ = some (B l[k]) ∧ w.frozen? ⟨g, k, none⟩ = false := by
  rcases h.2 with ⟨hv, _⟩ | ⟨g', cap', cur, hv, hg, hh, h1, h2, h3, h4⟩
  · cases hv
  · cases hv
    refine ⟨?_, free_of hh k⟩
    have e : (cur.toList.take (l.length * 1))[k]? = (l.map B)[k]? := by rw [h4]
    rw [List.getElem?_take_of_lt (by omega)] at e
    simp only [World.cell?, hh]
    simp [hk] at e
    simpa using e
/-- the lists that are kept, their marks, the blocks in which they lie -/
structure Kp (base : Nat) (w : World) (pk : Nat) (FK Q : List Nat) (ks : List (Value × Nat × UInt8)) : Prop where
  q : ∃ vl vm, FK = fk pk vl vm ∧ Kq w pk vl vm (ks.map (·.1)) (ks.map (·.2.2))
  con : ∀ k ∈ ks, Rd w k.1 (List.replicate k.2.1 k.2.2) ∧ ∀ a n c, k.1 = .slice (some a) n c → a.block ∈ Q
  dis : ∀ b ∈ Q, b ∉ FK
  lq : ∀ b ∈ Q, base ≤ b ∧ b < w.heap.size
  lf : ∀ b ∈ FK, base ≤ b
  sz : ∀ k ∈ ks, k.2.1 ≤ 140737488355328
theorem Kp.other {base : Nat} {w w' : World} {pk : Nat} {FK Q G : List Nat} {ks : List (Value × Nat × UInt8)} (h : Kp base w pk FK Q ks) (hf : Fr G w w') (h1 : ∀ b ∈ FK, b ∉ G) (h2 : ∀ b ∈ Q, b ∉ G) : Kp base w' pk FK Q ks := by
  obtain ⟨vl, vm, rfl, hq⟩ := h.q
  refine ⟨⟨vl, vm, rfl, hq.other hf h1⟩, fun k hk => ⟨?_, (h.con k hk).2⟩, h.dis, fun b hb => ⟨(h.lq b hb).1, Nat.lt_of_lt_of_le (h.lq b hb).2 hf.size⟩, h.lf, h.sz⟩
  exact (h.con k hk).1.keep (fun a n c e => hf.block _ (h.lq _ ((h.con k hk).2 a n c e)).2 (h2 _ ((h.con k hk).2 a n c e))) hf.size
theorem Kp.below {base : Nat} {w w' : World} {pk : Nat} {FK Q : List Nat} {ks : List (Value × Nat × UInt8)} (h : Kp base w pk FK Q ks) (hb : Below w.heap.size w w') : Kp base w' pk FK Q ks :=
  h.other (Fr.of (F := []) hb) (fun _ _ hm => by cases hm) (fun _ _ hm => by cases hm)
theorem Kp.ltf {base : Nat} {w : World} {pk : Nat} {FK Q : List Nat} {ks : List (Value × Nat × UInt8)} (h : Kp base w pk FK Q ks) : ∀ b ∈ FK, b < w.heap.size := by
  obtain ⟨vl, vm, rfl, hq⟩ := h.q
  exact hq.lt
end Go.Proofs.YtkamnkldgeaaaaaDoor.da
