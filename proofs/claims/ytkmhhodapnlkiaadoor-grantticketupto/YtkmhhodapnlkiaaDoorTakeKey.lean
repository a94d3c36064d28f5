import Derived.Test.YtkmhhodapnlkiaaDoorKeyWalks
import Derived.Deep.DeepCutAuto
import Derived.Deep.RegionHeld3
import Derived.WalkSpells
import Derived.WalkLawsBesides
namespace Go.Proofs.YtkmhhodapnlkiaaDoor.shaw
open Go.ChangeShapes Go.WideShapes Go.ChangeAt Go.RowKit Go.Proofs.YtkmhhodapnlkiaaDoor.common
attribute [local go_sem ↓] Go.wp_at_zero Go.wp_at_succ

def shortKey (l : List UInt8) : List UInt8 := if 64 < l.length then Sha.digest l else l
theorem shortKey_length (l : List UInt8) : (shortKey l).length ≤ 64 := by
  unfold shortKey
  split
  · rw [digest_length]; decide
  · omega
def zpad (k : List UInt8) : List UInt8 := k ++ List.replicate (64 - k.length) 0
theorem zpad_length (k : List UInt8) (h : k.length ≤ 64) : (zpad k).length = 64 := by simp [zpad]; omega
def blk (k : List UInt8) (c : UInt8) : List UInt8 := (zpad k).map (· ^^^ c)

def zero64 : Array Value := #[.int .u8 0, .int .u8 0, .int .u8 0, .int .u8 0, .int .u8 0, .int .u8 0, .int .u8 0, .int .u8 0, .int .u8 0, .int .u8 0, .int .u8 0, .int .u8 0, .int .u8 0, .int .u8 0, .int .u8 0, .int .u8 0, .int .u8 0, .int .u8 0, .int .u8 0, .int .u8 0, .int .u8 0, .int .u8 0, .int .u8 0, .int .u8 0, .int .u8 0, .int .u8 0, .int .u8 0, .int .u8 0, .int .u8 0, .int .u8 0, .int .u8 0, .int .u8 0, .int .u8 0, .int .u8 0, .int .u8 0, .int .u8 0, .int .u8 0, .int .u8 0, .int .u8 0, .int .u8 0, .int .u8 0, .int .u8 0, .int .u8 0, .int .u8 0, .int .u8 0, .int .u8 0, .int .u8 0, .int .u8 0, .int .u8 0, .int .u8 0, .int .u8 0, .int .u8 0, .int .u8 0, .int .u8 0, .int .u8 0, .int .u8 0, .int .u8 0, .int .u8 0, .int .u8 0, .int .u8 0, .int .u8 0, .int .u8 0, .int .u8 0, .int .u8 0]
def zeroKey : Array Value := #[.int .u32 0, .int .u32 0, .int .u32 0, .int .u32 0, .int .u32 0, .int .u32 0, .int .u32 0, .int .u32 0, .int .u8 0, .int .u8 0, .int .u8 0, .int .u8 0, .int .u8 0, .int .u8 0, .int .u8 0, .int .u8 0, .int .u8 0, .int .u8 0, .int .u8 0, .int .u8 0, .int .u8 0, .int .u8 0, .int .u8 0, .int .u8 0, .int .u8 0, .int .u8 0, .int .u8 0, .int .u8 0, .int .u8 0, .int .u8 0, .int .u8 0, .int .u8 0, .int .u8 0, .int .u8 0, .int .u8 0, .int .u8 0, .int .u8 0, .int .u8 0, .int .u8 0, .int .u8 0, .int .u8 0, .int .u8 0, .int .u8 0, .int .u8 0, .int .u8 0, .int .u8 0, .int .u8 0, .int .u8 0, .int .u8 0, .int .u8 0, .int .u8 0, .int .u8 0, .int .u8 0, .int .u8 0, .int .u8 0, .int .u8 0, .int .u8 0, .int .u8 0, .int .u8 0, .int .u8 0, .int .u8 0, .int .u8 0, .int .u8 0, .int .u8 0, .int .u8 0, .int .u8 0, .int .u8 0, .int .u8 0, .int .u8 0, .int .u8 0, .int .u8 0, .int .u8 0, .int .u64 0, .int .u32 0, .int .u32 0, .int .u32 0, .int .u32 0, .int .u32 0, .int .u32 0, .int .u32 0, .int .u32 0, .int .u8 0, .int .u8 0, .int .u8 0, .int .u8 0, .int .u8 0, .int .u8 0, .int .u8 0, .int .u8 0, .int .u8 0, .int .u8 0, .int .u8 0, .int .u8 0, .int .u8 0, .int .u8 0, .int .u8 0, .int .u8 0, .int .u8 0, .int .u8 0, .int .u8 0, .int .u8 0, .int .u8 0, .int .u8 0, .int .u8 0, .int .u8 0, .int .u8 0, .int .u8 0, .int .u8 0, .int .u8 0, .int .u8 0, .int .u8 0, .int .u8 0, .int .u8 0, .int .u8 0, .int .u8 0, .int .u8 0, .int .u8 0, .int .u8 0, .int .u8 0, .int .u8 0, .int .u8 0, .int .u8 0, .int .u8 0, .int .u8 0, .int .u8 0, .int .u8 0, .int .u8 0, .int .u8 0, .int .u8 0, .int .u8 0, .int .u8 0, .int .u8 0, .int .u8 0, .int .u8 0, .int .u8 0, .int .u8 0, .int .u8 0, .int .u8 0, .int .u8 0, .int .u8 0, .int .u8 0, .int .u8 0, .int .u8 0, .int .u8 0, .int .u8 0, .int .u64 0]
theorem zeroKeyed (w : World) : (zeroValue 43).run Tryd.prog w = .ok (.agg zeroKey) w := by kernel_rfl

theorem there_le {w : World} {b o n m : Nat} (h : w.there b o n) (hm : m ≤ n) : w.there b o m := fun j hj => h j (Nat.lt_of_lt_of_le hj hm)

theorem wpList_copy_min {P : Program} {ops : Array Oper} {o : Oper} {a : Act} {w : World} {rest : List Oper} {Q : Exit → Act → World → Prop}
    (hg : o.guard = none) (d x : Operand) (dT sT : TypeId) (hop : o.op = Op.call { callee := Callee.builtin Builtin.copy, args := #[d, x], argTypes := #[dT, sT] })
    (elem : TypeId) (hu : P.underlying dT = some (.slice elem)) (hz : ∀ w, (Go.sizeOf elem).run P w = .ok 1 w)
    (b off dLen dCap m : Nat) (hd : a.eval d = .slice (some ⟨b, off, none⟩) dLen dCap) (t : ByteArray) (hx : a.eval x = .string t) (hm : Nat.min t.size dLen = m)
    (ht : w.there b off m) (h : wpList P ops Q rest (a.put o.dst (goInt m)) (w.setCells b off ((t.data.toList.take m).map B))) : wpList P ops Q (o :: rest) a w :=
  wpList_step fun _ hK => step_copy_min hg d x dT sT hop elem hu hz b off dLen dCap m hd t hx hm ht (hK _ _ h)

theorem zero64_range (W : World) (g : Nat) (h : W.rangeAt g 0 zero64.toList) : W.rangeAt g 0 (List.replicate 64 (.int .u8 0)) := h

theorem filled {W : World} {g : Nat} {K : List UInt8} (hK : K.length ≤ 64) (h : W.rangeAt g 0 zero64.toList) (ht : W.there g 0 64) : (W.setCells g 0 (K.map B)).rangeAt g 0 ((zpad K).map B) := by
  have hz := zero64_range W g h
  unfold zpad
  rw [List.map_append]
  refine range_join (World.rangeAt_setCells_same _ _ _ _ (by rw [List.length_map]; exact there_le ht hK)) fun j v hv => ?_
  rw [List.length_map]
  have hj : j < 64 - K.length := by
    have := (List.getElem?_eq_some_iff.1 hv).1
    simpa using this
  have hv0 : v = .int .u8 0 := by
    rw [List.map_replicate, List.getElem?_replicate, if_pos hj] at hv
    exact (Option.some.inj hv).symm
  subst hv0
  rw [World.cell?_setCells_out _ _ _ _ _ (by intro _ _; right; rw [List.length_map]; show 0 + K.length ≤ 0 + K.length + j; omega)]
  have := hz (K.length + j) (.int .u8 0) (by rw [List.getElem?_replicate, if_pos (by omega)])
  rw [Nat.add_assoc]
  exact this

/-- behind the two copies -/
structure Copied (wc W2 : World) (K : List UInt8) : Prop where
  i : W2.rangeAt wc.heap.size 0 ((zpad K).map B)
  o : W2.rangeAt (wc.heap.size + 1) 0 ((zpad K).map B)
  ti : W2.there wc.heap.size 0 64
  tq : W2.there (wc.heap.size + 1) 0 64
  below : RowKit.Below wc.heap.size wc W2

theorem copies (wc : World) (K : List UInt8) (hK : K.length ≤ 64) : ∃ W1 W2 : World,
    (Builtin.copy_ #[34, 9] 3 #[.slice (some ⟨wc.heap.size, 0, none⟩) 64 64, .string ⟨K.toArray⟩]).run Tryd.prog ((wc.alloc (.cells zero64 36)).alloc (.cells zero64 36)) = .ok (goInt K.length) W1 ∧
    (Builtin.copy_ #[34, 9] 3 #[.slice (some ⟨wc.heap.size + 1, 0, none⟩) 64 64, .string ⟨K.toArray⟩]).run Tryd.prog W1 = .ok (goInt K.length) W2 ∧ Copied wc W2 K := by
  have hm : Nat.min (⟨K.toArray⟩ : ByteArray).size 64 = K.length := Nat.min_eq_left hK
  have hk : ((⟨K.toArray⟩ : ByteArray).data.toList.take K.length).map B = K.map B := by simp
  have t1 : ((wc.alloc (.cells zero64 36)).alloc (.cells zero64 36)).there wc.heap.size 0 64 := World.there_alloc (there_new_at wc _ _ _ 64 rfl rfl) _
  have t2 : ((wc.alloc (.cells zero64 36)).alloc (.cells zero64 36)).there (wc.heap.size + 1) 0 64 := there_new_at (wc.alloc _) _ _ _ 64 (by simp) rfl
  have r1 : ((wc.alloc (.cells zero64 36)).alloc (.cells zero64 36)).rangeAt wc.heap.size 0 zero64.toList := World.rangeAt_alloc (range_new_at wc _ _ _ _ rfl rfl) _
  have r2 : ((wc.alloc (.cells zero64 36)).alloc (.cells zero64 36)).rangeAt (wc.heap.size + 1) 0 zero64.toList := range_new_at (wc.alloc _) _ _ _ _ (by simp) rfl
  have b0 : RowKit.Below wc.heap.size wc ((wc.alloc (.cells zero64 36)).alloc (.cells zero64 36)) := ((Below.refl _ _).alloc (Nat.le_refl _) _).alloc (by simp) _
  generalize (wc.alloc (.cells zero64 36)).alloc (.cells zero64 36) = W0 at *
  have c1 := run_copy_min (P := Tryd.prog) W0 34 9 3 5 wc.heap.size 0 64 64 K.length ⟨K.toArray⟩ Tryd.underlying34 sizeOf8 hm (fun j hj => (t1 j (by omega)).1) (fun j hj => (t1 j (by omega)).2)
  rw [hk] at c1
  have t2' := World.there_setCells t2 wc.heap.size 0 (K.map B)
  have c2 := run_copy_min (P := Tryd.prog) (W0.setCells wc.heap.size 0 (K.map B)) 34 9 3 5 (wc.heap.size + 1) 0 64 64 K.length ⟨K.toArray⟩ Tryd.underlying34 sizeOf8 hm (fun j hj => (t2' j (by omega)).1) (fun j hj => (t2' j (by omega)).2)
  rw [hk] at c2
  refine ⟨_, _, c1, c2, ?_, ?_, ?_, ?_, ?_⟩
  · exact World.rangeAt_setCells_apart (filled hK r1 t1) _ _ _ (by left; omega)
  · exact filled hK (World.rangeAt_setCells_apart r2 _ _ _ (by left; omega)) t2'
  · exact World.there_setCells (World.there_setCells t1 _ _ _) _ _ _
  · exact World.there_setCells t2' _ _ _
  · exact common.below_setCells (common.below_setCells b0 (Nat.le_refl _) _ _) (Nat.le_succ _) _ _

def mixk (K : List UInt8) (c : UInt8) (k : Nat) : List UInt8 := ((zpad K).take k).map (· ^^^ c) ++ (zpad K).drop k
theorem mixk_length (K : List UInt8) (c : UInt8) (k : Nat) (hK : K.length ≤ 64) (hk : k ≤ 64) : (mixk K c k).length = 64 := by
  have := zpad_length K hK
  simp [mixk, this]; omega
theorem mixk_get (K : List UInt8) (c : UInt8) (k : Nat) (hk : k < 64) (hK : K.length ≤ 64) : (mixk K c k).getD k 0 = (zpad K).getD k 0 := by
  have h := zpad_length K hK
  unfold mixk
  have hl : (((zpad K).take k).map (· ^^^ c)).length = k := by simp [h]; omega
  rw [List.getD_eq_getElem?_getD, List.getElem?_append_right (by rw [hl]; exact Nat.le_refl _), hl, Nat.sub_self, List.getElem?_drop, Nat.add_zero, ← List.getD_eq_getElem?_getD]
theorem mixk_set (K : List UInt8) (c : UInt8) (k : Nat) (hk : k < 64) (hK : K.length ≤ 64) : mixk K c (k + 1) = (mixk K c k).set k ((zpad K).getD k 0 ^^^ c) := by
  have h := zpad_length K hK
  have hk' : k < (zpad K).length := by rw [h]; exact hk
  unfold mixk
  have hl : (((zpad K).take k).map (· ^^^ c)).length = k := by simp [h]; omega
  rw [List.set_append_right _ _ (by rw [hl]; exact Nat.le_refl _), hl, Nat.sub_self, List.take_succ_eq_append_getElem hk', List.map_append, List.append_assoc]
  rw [List.drop_eq_getElem_cons hk', List.set_cons_zero]
  simp [hk']
theorem mixk_all (K : List UInt8) (c : UInt8) (hK : K.length ≤ 64) : mixk K c 64 = blk K c := by
  have h := zpad_length K hK
  unfold mixk blk
  rw [List.take_of_length_le (by omega), List.drop_of_length_le (by omega), List.append_nil]
theorem byte_cell {w : World} {g : Nat} {l : List UInt8} (hc : w.rangeAt g 0 (l.map B)) (i : Nat) (hi : i < l.length) : w.cell? ⟨g, i, none⟩ = some (B (l.getD i 0)) := by
  have := range_cell hc i (by simpa using hi)
  rw [Nat.zero_add] at this
  rw [this]
  simp [hi]
theorem xor8 (x y : UInt8) : bits .xor .u8 (x.toNat : Int) (y.toNat : Int) = ((x ^^^ y).toNat : Int) := by
  rw [u8_xor_nat _ _ x.toNat_lt y.toNat_lt, UInt8.toNat_xor]

def hash0 : Array Value := #[.int .u32 1779033703, .int .u32 3144134277, .int .u32 1013904242, .int .u32 2773480762, .int .u32 1359893119, .int .u32 2600822924, .int .u32 528734635, .int .u32 1541459225, .int .u8 0, .int .u8 0, .int .u8 0, .int .u8 0, .int .u8 0, .int .u8 0, .int .u8 0, .int .u8 0, .int .u8 0, .int .u8 0, .int .u8 0, .int .u8 0, .int .u8 0, .int .u8 0, .int .u8 0, .int .u8 0, .int .u8 0, .int .u8 0, .int .u8 0, .int .u8 0, .int .u8 0, .int .u8 0, .int .u8 0, .int .u8 0, .int .u8 0, .int .u8 0, .int .u8 0, .int .u8 0, .int .u8 0, .int .u8 0, .int .u8 0, .int .u8 0, .int .u8 0, .int .u8 0, .int .u8 0, .int .u8 0, .int .u8 0, .int .u8 0, .int .u8 0, .int .u8 0, .int .u8 0, .int .u8 0, .int .u8 0, .int .u8 0, .int .u8 0, .int .u8 0, .int .u8 0, .int .u8 0, .int .u8 0, .int .u8 0, .int .u8 0, .int .u8 0, .int .u8 0, .int .u8 0, .int .u8 0, .int .u8 0, .int .u8 0, .int .u8 0, .int .u8 0, .int .u8 0, .int .u8 0, .int .u8 0, .int .u8 0, .int .u8 0, .int .u64 0]
theorem newHash_exact (w : World) (hf : FW w) :
    Calls Tryd.prog 25 #[] w fun e w' => e = .returned (.pointer (some ⟨w.heap.size, 0, none⟩)) ∧ w' = w.alloc (.cells hash0 41) := by
  have f0 : w.cell? ⟨3, 0, none⟩ = some (.int .u32 1779033703) := hf 0 _ rfl
  have f1 : w.cell? ⟨3, 1, none⟩ = some (.int .u32 3144134277) := hf 1 _ rfl
  have f2 : w.cell? ⟨3, 2, none⟩ = some (.int .u32 1013904242) := hf 2 _ rfl
  have f3 : w.cell? ⟨3, 3, none⟩ = some (.int .u32 2773480762) := hf 3 _ rfl
  have f4 : w.cell? ⟨3, 4, none⟩ = some (.int .u32 1359893119) := hf 4 _ rfl
  have f5 : w.cell? ⟨3, 5, none⟩ = some (.int .u32 2600822924) := hf 5 _ rfl
  have f6 : w.cell? ⟨3, 6, none⟩ = some (.int .u32 528734635) := hf 6 _ rfl
  have f7 : w.cell? ⟨3, 7, none⟩ = some (.int .u32 1541459225) := hf 7 _ rfl
  have HF := hide hf
  clear hf
  go_enter Tryd.func25, Tryd.ntmps25
  go_wp2_with (refine wpList_build_to (by rfl) 41 _ (by rfl) [(0, .agg #[.int .u32 1779033703, .int .u32 3144134277, .int .u32 1013904242, .int .u32 2773480762, .int .u32 1359893119, .int .u32 2600822924, .int .u32 528734635, .int .u32 1541459225])] (by simp [Act.eval]) _ builtHash ?_)
  go_ret
  exact ⟨rfl, rfl⟩

theorem FW.alloc {w : World} (h : FW w) (o : Obj) : FW (w.alloc o) := h.below ((Below.refl w.heap.size w).alloc (Nat.le_refl _) o) h.lt
theorem FW.drew {w : World} (h : FW w) : FW w.drew := h

theorem range_drew {w : World} {b o : Nat} {cs : List Value} (h : w.rangeAt b o cs) : w.drew.rangeAt b o cs := h
theorem size0 : (Tryd.prog.info? 41).map (·.size) = some hash0.toList.length := by kernel_rfl
theorem builtKeyed : Tryd.prog.built 43 [(0, .agg hash0), (1, .agg hash0)] = some (hash0 ++ hash0) := by kernel_rfl

theorem step_load_mid {P : Program} {ops : Array Oper} {op : Oper} {a : Act} {w : World} {K : Act → World → Prop} {Q : Exit → Act → World → Prop} {E : Prop}
    (hg : op.guard = none) (ty : TypeId) (x : Operand) (ho : op.op = .load ty x)
    (b o : Nat) (hx : a.eval x = .pointer (some ⟨b, o, none⟩)) (cs : List Value) (d : TypeDesc) (hc : w.rangeAt b o cs)
    (hu : P.underlying ty = some d) (hd : d.isRow = true) (hi : (P.info? ty).map (·.size) = some cs.length)
    (h : K (a.put op.dst (.agg cs.toArray)) w) : if Region.wanted op (yielded ops a.tmps) = true then Oper.wp P op a w K Q else E := by
  have hw : Region.wanted op (yielded ops a.tmps) = true := by simp [Region.wanted, hg]
  rw [if_pos hw]
  exact wp_load_mid ty x ho b o hx cs d hc hu hd hi h

theorem there_drew {w : World} {b o n : Nat} (h : w.there b o n) : w.drew.there b o n := h
theorem sizeK : (Tryd.prog.info? 43).map (·.size) = some (hash0 ++ hash0).size := by kernel_rfl
theorem oneK : (hash0 ++ hash0).all (·.oneCell') = true := by kernel_rfl

theorem step_build_to {P : Program} {ops : Array Oper} {op : Oper} {a : Act} {w : World} {K : Act → World → Prop} {Q : Exit → Act → World → Prop} {E : Prop}
    (hg : op.guard = none) (t : TypeId) (parts : Array (Nat × Operand)) (ho : op.op = .build t parts)
    (vals : List (Nat × Value)) (hv : (parts.map fun (i, x) => (i, a.eval x)).toList = vals) (cells : Array Value) (hb : P.built t vals = some cells)
    (h : K (a.put op.dst (.agg cells)) w) : if Region.wanted op (yielded ops a.tmps) = true then Oper.wp P op a w K Q else E := by
  have hw : Region.wanted op (yielded ops a.tmps) = true := by simp [Region.wanted, hg]
  rw [if_pos hw]
  subst hv
  exact wp_build t parts ho (by rw [hb]; rfl) (by rw [hb]; exact h)

theorem step_store_mid {P : Program} {ops : Array Oper} {op : Oper} {a : Act} {w : World} {K : Act → World → Prop} {Q : Exit → Act → World → Prop} {E : Prop}
    (hg : op.guard = none) (ty : TypeId) (x y : Operand) (ho : op.op = .store ty x y)
    (b o : Nat) (cells : Array Value) (hx : a.eval x = .pointer (some ⟨b, o, none⟩)) (hy : a.eval y = .agg cells)
    (ht : w.there b o cells.size) (hi : (P.info? ty).map (·.size) = some cells.size) (h1 : cells.all (·.oneCell') = true)
    (h : K (a.put op.dst undef) (w.setCells b o cells.toList)) : if Region.wanted op (yielded ops a.tmps) = true then Oper.wp P op a w K Q else E := by
  have hw : Region.wanted op (yielded ops a.tmps) = true := by simp [Region.wanted, hg]
  rw [if_pos hw]
  exact wp_store_mid ty x y ho b o cells hx hy ht hi h1 h

end Go.Proofs.YtkmhhodapnlkiaaDoor.shaw
