import Derived.Test.YtdkbjefphihplabDoorFieldTok
namespace Go.Proofs.YtdkbjefphihplabDoor.fd
open Go.ChangeShapes Go.WideShapes Go.ChangeAt Go.RowKit Go.Proofs.YtdkbjefphihplabDoor.common Go.Proofs.YtdkbjefphihplabDoor.bk
attribute [local go_sem ↓] Go.wp_at_zero Go.wp_at_succ

theorem wpList_build_two {P : Program} {ops : Array Oper} {rest : List Oper} {o : Oper} {a : Act} {w : World} {Q : Exit → Act → World → Prop} (hg : o.guard = none) (t : TypeId) (i j : Nat) (x y : Operand) (ho : o.op = .build t #[(i, x), (j, y)])
    (vx vy : Value) (hx : a.eval x = vx) (hy : a.eval y = vy) (cells : Array Value) (hc : P.built t [(i, vx), (j, vy)] = some cells)
    (h : wpList P ops Q rest (a.put o.dst (.agg cells)) w) : wpList P ops Q (o :: rest) a w :=
  wpList_build_is hg t _ ho cells (by simpa [hx, hy] using hc) h
/-- only the block b is written -/
structure Mv (b : Nat) (w w' : World) : Prop where
  below : Below b w w'
  size : w'.heap.size = w.heap.size
  others : ∀ k, k ≠ b → w'.heap[k]? = w.heap[k]?
theorem Mv.refl (b : Nat) (w : World) : Mv b w w := ⟨Below.refl _ _, rfl, fun _ _ => rfl⟩
theorem Mv.trans {b : Nat} {a c d : World} (h : Mv b a c) (k : Mv b c d) : Mv b a d := ⟨h.below.trans k.below, k.size.trans h.size, fun i hi => (k.others i hi).trans (h.others i hi)⟩
theorem Mv.drew {b : Nat} {a c : World} (h : Mv b a c) : Mv b a c.drew := ⟨h.below.drew, h.size, h.others⟩
theorem Mv.drewN {b : Nat} {a c : World} (h : Mv b a c) (n : Nat) : Mv b a (c.drewN n) := ⟨⟨h.below.1, h.below.2, h.below.3, h.below.4, h.below.5⟩, h.size, h.others⟩
theorem Mv.set {b : Nat} {a c : World} (h : Mv b a c) (i : Nat) (v : Value) : Mv b a (c.setCell ⟨b, i, none⟩ v) :=
  ⟨h.below.setCell (Nat.le_refl _) _, by rw [← h.size]; simp [World.setCell], fun k hk => (Below.heap_setCell _ _ _ _ (fun e => hk (by simp [e]))).trans (h.others k hk)⟩
theorem Mv.cell {b : Nat} {a c : World} (h : Mv b a c) {p : Addr} (hp : p.block ≠ b) : c.cell? p = a.cell? p := by
  unfold World.cell?; rw [h.others _ hp]

/-- a reader in the block b: the text, the place, the table -/
structure Rd (w : World) (b : Nat) (s : ByteArray) (a : Nat) : Prop where
  c0 : w.cell? ⟨b, 0, none⟩ = some (.string s)
  c1 : w.cell? ⟨b, 1, none⟩ = some (.int .i64 (a : Int))
  f1 : w.frozen? ⟨b, 1, none⟩ = false
  tab : Tab w b 2
theorem Rd.drew {w : World} {b : Nat} {s : ByteArray} {a : Nat} (h : Rd w b s a) : Rd w.drew b s a := ⟨h.c0, h.c1, h.f1, h.tab⟩
theorem Rd.drewN {w : World} {b : Nat} {s : ByteArray} {a : Nat} (h : Rd w b s a) (n : Nat) : Rd (w.drewN n) b s a := ⟨h.c0, h.c1, h.f1, h.tab⟩
theorem Rd.set {w : World} {b : Nat} {s : ByteArray} {a : Nat} (h : Rd w b s a) (a' : Nat) : Rd (w.setCell ⟨b, 1, none⟩ (.int .i64 (a' : Int))) b s a' := by
  refine ⟨?_, ?_, ?_, ?_⟩
  · exact (World.cell?_setCell_other (h := by intro e; cases e) ..).trans h.c0
  · exact World.cell?_setCell_same (h := h.c1) ..
  · rw [World.frozen?_setCell]; exact h.f1
  · intro j u hu
    have hj := h.tab j u hu
    exact (World.cell?_setCell_other (h := by intro e; injection e with _ e2; omega) ..).trans hj

/-- the same, by what is left of the text -/
def At (w : World) (b : Nat) (s : ByteArray) (l : List UInt8) : Prop := l <:+ s.data.toList ∧ Rd w b s (s.size - l.length)
theorem At.drew {w : World} {b : Nat} {s : ByteArray} {l : List UInt8} (h : At w b s l) : At w.drew b s l := ⟨h.1, h.2.drew⟩
theorem At.len {w : World} {b : Nat} {s : ByteArray} {l : List UInt8} (h : At w b s l) : l.length ≤ s.size := by have := h.1.length_le; rwa [len_list] at this
theorem suffix_at {s : ByteArray} {c : UInt8} {r : List UInt8} (h : (c :: r) <:+ s.data.toList) : ∃ hlt : s.size - (r.length + 1) < s.size, s[s.size - (r.length + 1)] = c := by
  obtain ⟨p, hp⟩ := h
  have hl : p.length + (r.length + 1) = s.size := by rw [← len_list, ← hp, List.length_append]; rfl
  refine ⟨by omega, ?_⟩
  have e : s.size - (r.length + 1) = p.length := by omega
  have : s.data.toList[p.length]? = some c := by rw [← hp, List.getElem?_append_right (Nat.le_refl _)]; simp
  obtain ⟨h1, h2⟩ := List.getElem?_eq_some_iff.1 this
  have : ∀ i (hi : i < s.size), i = p.length → s[i] = c := by rintro i hi rfl; exact h2
  exact this _ _ e
theorem suffix_tail {s : ByteArray} {c : UInt8} {r : List UInt8} (h : (c :: r) <:+ s.data.toList) : r <:+ s.data.toList := (List.suffix_cons c r).trans h

end Go.Proofs.YtdkbjefphihplabDoor.fd
