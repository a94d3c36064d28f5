import Derived.Test.YtpfamgahnphceaaDoorPkAsk
namespace Go.Proofs.YtpfamgahnphceaaDoor.pk
open Go.ChangeShapes Go.WideShapes Go.ChangeAt Go.RowKit Go.Proofs.YtpfamgahnphceaaDoor.common
open Go.Proofs.YtpfamgahnphceaaDoor.errw (Errs E)
open Go.Proofs.YtpfamgahnphceaaDoor.radw (B Lay)

/-- the variables that the function shares with the law -/
structure C4 (W : World) (N : Nat) (k : Int) (last : ByteArray) (left : Int) (y : Bool) : Prop where
  a1 : W.heap[N]? = some (.cells #[.int .i64 k] 3 (0, 0))
  a2 : W.heap[N + 1]? = some (.cells #[.string last] 9 (0, 0))
  a3 : W.heap[N + 2]? = some (.cells #[.int .i64 left] 3 (0, 0))
  a4 : W.heap[N + 3]? = some (.cells #[.bool y] 4 (0, 0))
theorem C4.keep {W W' : World} {N : Nat} {k : Int} {last : ByteArray} {left : Int} {y : Bool} (h : C4 W N k last left y) (hb : ∀ j, N ≤ j → j < N + 4 → W'.heap[j]? = W.heap[j]?) : C4 W' N k last left y :=
  ⟨(hb N (by omega) (by omega)).trans h.a1, (hb _ (by omega) (by omega)).trans h.a2, (hb _ (by omega) (by omega)).trans h.a3, (hb _ (by omega) (by omega)).trans h.a4⟩
theorem C4.lt {W : World} {N : Nat} {k : Int} {last : ByteArray} {left : Int} {y : Bool} (h : C4 W N k last left y) : N + 4 ≤ W.heap.size := by
  have := (Array.getElem?_eq_some_iff.1 h.a4).1
  omega
abbrev V4 (W : World) : World := (((W.alloc (.cells #[.int .i64 0] 3)).alloc (.cells #[.string ⟨#[]⟩] 9)).alloc (.cells #[.int .i64 0] 3)).alloc (.cells #[.bool false] 4)
theorem at_new (w : World) (o : Obj) (k : Nat) (h : k = w.heap.size) : (w.alloc o).heap[k]? = some o := by rw [h]; exact heap_alloc_new w o
theorem c4_start (W : World) : C4 (V4 W) W.heap.size 0 ⟨#[]⟩ 0 false ∧ Below W.heap.size W (V4 W) := by
  refine ⟨⟨?_, ?_, ?_, ?_⟩, ((((Below.refl _ _).alloc (Nat.le_refl _) _).alloc (by simp) _).alloc (by simp; omega) _).alloc (by simp; omega) _⟩
  · rw [heap_alloc_old _ _ (by simp; omega), heap_alloc_old _ _ (by simp; omega), heap_alloc_old _ _ (by simp), heap_alloc_new]
  · rw [heap_alloc_old _ _ (by simp), heap_alloc_old _ _ (by simp)]
    exact at_new _ _ _ (by simp)
  · rw [heap_alloc_old _ _ (by simp)]
    exact at_new _ _ _ (by simp)
  · exact at_new _ _ _ (by simp)

/-- the state of the second loop -/
structure O2 (w wr : World) (n N : Nat) (vd vy v : Value) (gb : Option Nat) (L : List (List UInt8)) (Q : List ByteArray) (k : Int) (last : ByteArray) (left : Int) (y : Bool) : Prop where
  o : O1 w wr n vd vy v gb L Q
  c : C4 wr N k last left y
  gl : ∀ g, gb = some g → g < N
  vl : ∀ g, v.ownBlock = some g → g < N
  nN : n + 3 ≤ N

theorem O2.drew {w wr : World} {n N : Nat} {vd vy v : Value} {gb : Option Nat} {L : List (List UInt8)} {Q : List ByteArray} {k : Int} {last : ByteArray} {left : Int} {y : Bool} (h : O2 w wr n N vd vy v gb L Q k last left y) : O2 w wr.drew n N vd vy v gb L Q k last left y :=
  ⟨h.o.drew, h.c.keep fun _ _ _ => rfl, h.gl, h.vl, h.nN⟩
/-- one of the variables is written -/
theorem O2.set {w wr : World} {n N : Nat} {vd vy v : Value} {gb : Option Nat} {L : List (List UInt8)} {Q : List ByteArray} {k : Int} {last : ByteArray} {left : Int} {y : Bool} (h : O2 w wr n N vd vy v gb L Q k last left y) (j : Nat) (hj : N ≤ j) (u : Value) : O1 w (wr.setCell ⟨j, 0, none⟩ u) n vd vy v gb L Q := by
  have := h.nN
  exact h.o.keep (fun i hi => set_other _ _ _ _ (by show i ≠ j; omega)) (fun i hi => set_other _ _ _ _ (by show i ≠ j; have := h.gl i hi; omega)) (fun i hi => set_other _ _ _ _ (by show i ≠ j; have := h.vl i hi; omega)) rfl rfl rfl (Nat.le_of_eq (size_set _ _ _).symm)
theorem O2.yes {w wr : World} {n N : Nat} {vd vy v : Value} {gb : Option Nat} {L : List (List UInt8)} {Q : List ByteArray} {k : Int} {last : ByteArray} {left : Int} {y : Bool} (h : O2 w wr n N vd vy v gb L Q k last left y) (y' : Bool) : O2 w (wr.setCell ⟨N + 3, 0, none⟩ (.bool y')) n N vd vy v gb L Q k last left y' :=
  ⟨h.set (N + 3) (by omega) _, ⟨(set_other _ _ _ _ (by show _ ≠ N + 3; omega)).trans h.c.a1, (set_other _ _ _ _ (by show _ ≠ N + 3; omega)).trans h.c.a2, (set_other _ _ _ _ (by show _ ≠ N + 3; omega)).trans h.c.a3, set_here h.c.a4⟩, h.gl, h.vl, h.nN⟩

/-- what the function leaves behind -/
def Asked (w : World) (n N : Nat) (vd vy v : Value) (gb : Option Nat) (L : List (List UInt8)) (Q : List ByteArray) (k : Int) (I : ByteArray) (y : Bool) (W : World) : Prop :=
  ∃ gb', (gb' = gb ∨ gb' = none) ∧ O2 w W n N vd vy v gb' L Q k I L.length y

theorem asked_any {w X : World} {n N : Nat} {vd vy v : Value} {gb : Option Nat} {d : List UInt8} {L : List (List UInt8)} {Q : List ByteArray} {k : Int} {last : ByteArray} {left : Int} {y : Bool} (h : O2 w X n N vd vy v gb (d :: L) Q k last left y) (hk : 0 ≤ k ∧ k < 4611686018427387904)
    (I : ByteArray) : ∀ W, TkOut (n + 1) gb L X W → Calls Tryd.prog 8 (#[.string I] ++ #[ptr N, ptr (N + 1), ptr (n + 2), ptr (N + 2), ptr (N + 3)]) W fun e w' => e = .returned (.bool y) ∧ Asked w n N vd vy v gb L Q (k + 1) I y w' := by
  intro W hW
  have hnN := h.nN
  obtain ⟨gb', hgb, ho⟩ := h.o.take hW
  have hgl : ∀ g, gb' = some g → g < N := fun g hg => by
    rcases hgb with e | e
    · exact h.gl g (e ▸ hg)
    · rw [e] at hg; cases hg
  have hc : C4 W N k last left y := h.c.keep fun j h1 h2 => by
    obtain ⟨_, _, _, hf⟩ := hW
    exact hf.block j (by have := h.c.lt; omega) (by omega) (by simp)
  have h2 : O2 w W n N vd vy v gb' L Q k last left y := ⟨ho, hc, hgl, h.vl, hnN⟩
  refine (ask_any W I last N (N + 1) (n + 2) (N + 2) (N + 3) (n + 1) gb' L k left y hk hc.a1 hc.a2 hc.a3 hc.a4 ho.var (by omega) ho.src (fun g hg => by have := hgl g hg; omega)).mono ?_
  rintro x w' ⟨rfl, rfl⟩
  refine ⟨rfl, gb', hgb, ?_⟩
  have s1 := h2.set N (Nat.le_refl _) (.int .i64 (k + 1))
  have c1 : C4 (W.setCell ⟨N, 0, none⟩ (.int .i64 (k + 1))) N (k + 1) last left y := ⟨set_here hc.a1, (set_other _ _ _ _ (by show _ ≠ N; omega)).trans hc.a2, (set_other _ _ _ _ (by show _ ≠ N; omega)).trans hc.a3, (set_other _ _ _ _ (by show _ ≠ N; omega)).trans hc.a4⟩
  have o2 : O2 w (W.setCell ⟨N, 0, none⟩ (.int .i64 (k + 1))) n N vd vy v gb' L Q (k + 1) last left y := ⟨s1, c1, hgl, h.vl, hnN⟩
  have s2 := o2.set (N + 1) (by omega) (.string I)
  have c2 : C4 ((W.setCell ⟨N, 0, none⟩ (.int .i64 (k + 1))).setCell ⟨N + 1, 0, none⟩ (.string I)) N (k + 1) I left y := ⟨(set_other _ _ _ _ (by show _ ≠ N + 1; omega)).trans c1.a1, set_here c1.a2, (set_other _ _ _ _ (by show _ ≠ N + 1; omega)).trans c1.a3, (set_other _ _ _ _ (by show _ ≠ N + 1; omega)).trans c1.a4⟩
  have o3 : O2 w ((W.setCell ⟨N, 0, none⟩ (.int .i64 (k + 1))).setCell ⟨N + 1, 0, none⟩ (.string I)) n N vd vy v gb' L Q (k + 1) I left y := ⟨s2, c2, hgl, h.vl, hnN⟩
  exact ⟨o3.set (N + 2) (by omega) (.int .i64 L.length), ⟨(set_other _ _ _ _ (by show _ ≠ N + 2; omega)).trans c2.a1, (set_other _ _ _ _ (by show _ ≠ N + 2; omega)).trans c2.a2, set_here c2.a3, (set_other _ _ _ _ (by show _ ≠ N + 2; omega)).trans c2.a4⟩, hgl, h.vl, hnN⟩

theorem once1_enters : ∀ args w, (callFunc 8 args).run Tryd.prog w = .ok (.enter 8 args) w := enters_of Tryd.func8 (by kernel_rfl) rfl

end Go.Proofs.YtpfamgahnphceaaDoor.pk
