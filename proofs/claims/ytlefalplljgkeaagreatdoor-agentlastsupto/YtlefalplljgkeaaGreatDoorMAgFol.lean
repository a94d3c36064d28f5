import Derived.Test.YtlefalplljgkeaaGreatDoorMAgVis
namespace Go.Proofs.YtlefalplljgkeaaGreatDoor.ag
open Go.ChangeShapes Go.WideShapes Go.ChangeAt Go.RowKit Go.Proofs.YtlefalplljgkeaaGreatDoor.common Go.Maps Go.WideElems
open Go.Proofs.YtlefalplljgkeaaGreatDoor.lst (PB Lies cl cl_app cl_len infoP lies_of_own)
open Go.Proofs.YtlefalplljgkeaaGreatDoor.fd (Ev ckTextR X)
attribute [local go_sem ↓] Go.wp_at_zero Go.wp_at_succ

theorem results_ctt {fn : Func} {p t s : Tmp} {ty : TypeId} {P : Program} {w : World} {b o : Nat} {cs : List Value} {d : TypeDesc} {u v : Value} (h : fn.results = #[.cell p ty, .tmp t, .tmp s]) (tmps : Array Value) (hx : tmps.getD p undef = .pointer (some ⟨b, o, none⟩))
    (hc : w.rangeAt b o cs) (hu : P.underlying ty = some d) (hd : d.isRow = true) (hi : (P.info? ty).map (·.size) = some cs.length) (ht : tmps.getD t undef = u) (hs : tmps.getD s undef = v) : (results fn tmps).run P w = .ok (.tuple #[.agg cs.toArray, u, v]) w := by
  have hx' : tmps[p]?.getD undef = .pointer (some ⟨b, o, none⟩) := by simpa using hx
  have ht' : tmps[t]?.getD undef = u := by simpa using ht
  have hs' : tmps[s]?.getD undef = v := by simpa using hs
  simp only [results, h]
  simp [hx', ht', hs', asAddr, run_loadVar_mid w b o ty cs d hc hu hd hi]
/-- an agent at no page that waits for nothing -/
def Ax.bare (x : Ax) : Ax := { x with ti := emB, lv := .slice none 0 0, fv := .slice none 0 0, ap := false, wh := emB, wt := false }
/-- cells of one block are written -/
theorem tn_cells (w : World) (p o : Nat) (l : List Value) : Tn (fun k => k = p) w (w.setCells p o l) := by
  have q : Below p w (w.setCells p o l) := below_setCells ⟨rfl, rfl, rfl, Nat.le_refl _, fun _ _ => rfl⟩ (Nat.le_refl _) o l
  exact ⟨q.os, q.tape, q.output, q.size, fun k _ hk => setC_else hk o⟩

set_option maxRecDepth 100000 in
set_option maxHeartbeats 1600000 in
theorem arrive_any (p mb : Nat) (x : Ax) (w : World) (hp : w.heap[p]? = some (agO x mb)) :
    Calls Tryz.prog 26 #[ptr p] w fun e w' => e = .returned (.tuple #[]) ∧ w'.heap[p]? = some (agO x.bare mb) ∧ Tn (fun k => k = p) w w' := by
  have HE : Hid ((w.setCells p 2 [.string emB, .slice none 0 0, .slice none 0 0, .bool false, .string emB, .bool false]).heap[p]? = some (agO x.bare mb) ∧ Tn (fun k => k = p) w (w.setCells p 2 [.string emB, .slice none 0 0, .slice none 0 0, .bool false, .string emB, .bool false])) := by
    refine ⟨?_, tn_cells _ _ _ _⟩
    simp [World.setCells, World.setCell, Array.getElem?_modify, hp, Ax.bare]
  have hcell : ∀ j v, [Value.int .i64 x.t, .map (some mb), .string x.ti, x.lv, x.fv, .bool x.ap, .string x.wh, .bool x.wt, .int .i64 x.hp][j]? = some v → w.cell? ⟨p, j, none⟩ = some v := fun j v hv => by simp only [World.cell?, hp]; simpa using hv
  have d2 := hcell 2 _ rfl
  have d3 := hcell 3 _ rfl
  have d4 := hcell 4 _ rfl
  have d5 := hcell 5 _ rfl
  have d6 := hcell 6 _ rfl
  have d7 := hcell 7 _ rfl
  have e2 := ag_free hp 2
  have e3 := ag_free hp 3
  have e4 := ag_free hp 4
  have e5 := ag_free hp 5
  have e6 := ag_free hp 6
  have e7 := ag_free hp 7
  clear hcell hp
  go_enter Tryz.func26, Tryz.ntmps26
  go_wp2_with fail
  go_end0
  exact ⟨rfl, HE.out⟩

/-- what a redirect to a place leads to -/
def FolOut (p mb : Nat) (x : Ax) (u T : ByteArray) (R : List Ck) (xm : Value) (w : World) (e : Ending) (w' : World) : Prop :=
  (10 ≤ x.hp ∧ e = .returned (.tuple #[zRV, .int .i64 0, xm]) ∧ w'.heap[p]? = some (agO x mb) ∧ Jar w' mb R ∧ Tn (AB p mb) w w') ∨
  (x.hp < 10 ∧ ∃ v, e = .returned (.tuple #[rqV getB u 1 v emB false, .int .i64 1, .nilIface]) ∧ w'.heap[p]? = some (agO { x with wt := true, hp := x.hp + 1 } mb) ∧ Jar w' mb R ∧ w'.ownsRow w.heap.size 37 2 v (hdL T).length (cl (hdL T)) ∧ Tn (AB p mb) w w')

set_option maxRecDepth 100000 in
set_option maxHeartbeats 3200000 in
theorem follow_any (p mb : Nat) (x : Ax) (R : List Ck) (u : ByteArray) (w : World) (hp : w.heap[p]? = some (agO x mb)) (hJ : Jar w mb R) (hc : ∀ c ∈ R, Cfit c) (hn : Rng64 x.t) (h1 : (still R x.t).length ≤ 1) (hhp : 0 ≤ x.hp ∧ x.hp ≤ 1000)
    (hu : place u.data.toList = true) (hus : u.size ≤ 4611686018427387904)
    (T : ByteArray) (ev : Value) (am at_ : Addr) (hT : ckTextR ((still R x.t).map pc) (X am) (X at_) = .tuple #[.string T, ev]) (hs : fd.tot ((still R x.t).map pc) ≤ 140737488355328) (hE : Env w am at_) (hg : p ≠ 1 ∧ p ≠ 0) :
    Calls Tryz.prog 27 #[ptr p, .string u] w (FolOut p mb x u T R (X am) w) := by
  have BA := al w zR
  have HB := hide BA
  have HZ := hide (heap_at w zR)
  have HP := hide (fun W => place_any u W hus)
  rw [hu] at HP
  have hpl := lt_of hp
  have hml := hJ.lt
  have hne := hJ.ne hp
  have hp0 := blk hp BA
  obtain ⟨c0, c1, c7, c8, _⟩ := ag_cells hp0
  have hem : (w.alloc zR).cell? ⟨1, 0, none⟩ = some (X am) := hE.many.below BA
  obtain ⟨hh0, hh1⟩ := hhp
  by_cases hh : 10 ≤ x.hp
  · have HX : Hid (∀ l, ((w.alloc zR).setCells w.heap.size 0 l).heap[p]? = some (agO x mb) ∧ Jar ((w.alloc zR).setCells w.heap.size 0 l) mb R ∧ Tn (AB p mb) w ((w.alloc zR).setCells w.heap.size 0 l)) := fun l => by
      have k := tn_cells (w.alloc zR) w.heap.size 0 l
      refine ⟨(setC_else (by omega) 0).trans hp0, (hJ.below BA).turn k (by show ¬ mb = w.heap.size; omega), ?_⟩
      exact ⟨k.os, k.tape, k.output, Nat.le_trans BA.size k.size, fun i hi _ => (k.block i (Nat.lt_of_lt_of_le hi BA.size) (by omega)).trans (BA.block i hi)⟩
    have HF : Hid (∀ e w', (e = .returned (.tuple #[zRV, .int .i64 0, X am]) ∧ w'.heap[p]? = some (agO x mb) ∧ Jar w' mb R ∧ Tn (AB p mb) w w') → FolOut p mb x u T R (X am) w e w') := fun e w' h => Or.inl ⟨hh, h⟩
    have hz := heap_at w zR
    have hr := range_of (l := rqC emB emB 0 (.slice none 0 0) emB false) hz
    have q0 := hr 0 _ rfl
    have q1 := hr 1 _ rfl
    have q2 := hr 2 _ rfl
    have q3 := hr 3 _ rfl
    have q4 := hr 4 _ rfl
    have q5 := hr 5 _ rfl
    have hfz : ∀ j, (w.alloc zR).frozen? ⟨w.heap.size, j, none⟩ = false := fun j => by simp only [World.frozen?, hz]; simp
    have f0 := hfz 0
    have f1 := hfz 1
    have f2 := hfz 2
    have f3 := hfz 3
    have f4 := hfz 4
    have f5 := hfz 5
    have hdd : decide (10 ≤ x.hp) = true := decide_eq_true hh
    have HP0 := hide hp0
    have HJ0 := hide (hJ.below BA)
    have HT0 := hide (show Tn (AB p mb) w (w.alloc zR).drew from (Tn.of BA).drew)
    clear hp hJ hc hn h1 hT hs hE hg hu hus BA hp0 hr hz hfz
    go_enter Tryz.func27, Tryz.ntmps27
    go_wp2_with fail
    refine (HP.out _).mono ?_
    rintro e w0 ⟨rfl, h0⟩
    rw [h0]
    go_wp2_with fail
    go_region
    go_wp2_with fail
    refine bodyPost_ret (results_ctt rfl _ rfl (range_of (l := rqC emB emB 0 (.slice none 0 0) emB false) HZ.out) Tryz.underlying40 rfl sizeR rfl rfl) rfl (HF.out _ _ ⟨rfl, HP0.out, HJ0.out, HT0.out⟩)
  · have hdd : decide (10 ≤ x.hp) = false := decide_eq_false hh
    have hw : wrap64 (x.hp + 1) = x.hp + 1 := by unfold wrap64; omega
    have hw2 : IntKind.i64.wrap (x.hp + 1) = x.hp + 1 := bk.wrap_le _ (by omega) (by omega)
    have f8 := ag_free hp0 8
    have hq1 := set_8 hp (x.hp + 1)
    have hq2 := set_7 hq1 true
    have hp1 : ((w.setCell ⟨p, 8, none⟩ (.int .i64 (x.hp + 1))).alloc zR).heap[p]? = some (agO { x with hp := x.hp + 1 } mb) := blk hq1 (al _ zR)
    obtain ⟨_, _, d7, _, _⟩ := ag_cells hp1
    have f7 := ag_free hp1 7
    obtain ⟨W2, hW2⟩ : ∃ W2, W2 = ((w.setCell ⟨p, 8, none⟩ (.int .i64 (x.hp + 1))).setCell ⟨p, 7, none⟩ (.bool true)).alloc zR := ⟨_, rfl⟩
    have hp2 : W2.heap[p]? = some (agO { x with wt := true, hp := x.hp + 1 } mb) := by rw [hW2]; exact blk hq2 (al _ zR)
    have hT2 : Tn (fun k => k = p) w W2 := by rw [hW2]; exact ((Tn.set (S := fun k => k = p) _ ⟨p, 8, none⟩ _ rfl).trans (Tn.set (S := fun k => k = p) _ ⟨p, 7, none⟩ _ rfl)).trans (Tn.alloc _ _)
    have hz2 : W2.heap[w.heap.size]? = some zR := by
      rw [hW2]
      have h := heap_at ((w.setCell ⟨p, 8, none⟩ (.int .i64 (x.hp + 1))).setCell ⟨p, 7, none⟩ (.bool true)) zR
      rw [World.size_setCell, World.size_setCell] at h
      exact h
    have hJ2 : Jar W2 mb R := hJ.turn hT2 hne
    have e1 := hE.many.lt
    have e2 := hE.text.lt
    have hb0 := BA.size
    have hm2 : Ev 1 W2 (X am) := (World.cell?_of_block (hT2.block _ e1 (fun e => hg.1 e.symm))).trans hE.many
    have ht2 : Ev 0 W2 (X at_) := (World.cell?_of_block (hT2.block _ e2 (fun e => hg.2 e.symm))).trans hE.text
    have HGT := hide (get_any p mb { x with wt := true, hp := x.hp + 1 } R u W2 hp2 hJ2 hc hn h1 T ev (X am) (X at_) hT hs hm2 ht2)
    have HZ2 := hide hz2
    have HT2 := hide (show Tn (AB p mb) w W2 from hT2.mono fun k _ h => Or.inl h)
    have HP2 := hide hp2
    have HJ2 := hide hJ2
    have hsz1 : w.heap.size + 1 ≤ W2.heap.size := by have := lt_of hz2; omega
    have HF : Hid (∀ v w', w'.heap[p]? = some (agO { x with wt := true, hp := x.hp + 1 } mb) ∧ Jar w' mb R ∧ w'.ownsRow w.heap.size 37 2 v (hdL T).length (cl (hdL T)) ∧ Tn (AB p mb) w w' → FolOut p mb x u T R (X am) w (.returned (.tuple #[rqV getB u 1 v emB false, .int .i64 1, .nilIface])) w') := fun v w' h => Or.inr ⟨by omega, v, rfl, h⟩
    have HW2 := hide hW2
    clear hp hJ hc hn h1 hT hs hE hg hu hus BA hp0 hp1 hp2 hT2 hJ2 hm2 ht2 hW2 hem hq1 hq2 hz2
    go_enter Tryz.func27, Tryz.ntmps27
    go_wp2_with fail
    refine (HP.out _).mono ?_
    rintro e w0 ⟨rfl, h0⟩
    rw [h0]
    go_wp2_with fail
    rw [← HW2.out]
    refine HGT.out.mono ?_
    rintro e w3 ⟨v, rfl, ho, b2⟩
    have HZ3 := hide (blk HZ2.out b2)
    have HT3 := hide (HT2.out.trans (Tn.of b2))
    have HP3 := hide (blk HP2.out b2)
    have HJ3 := hide (HJ2.out.below b2)
    have HO := hide (own_heap (w' := w3.setCells w.heap.size 0 (rqC getB u 1 v emB false)) ho fun g hg => setC_else (by have := bk.own_ge ho g hg; omega) 0)
    obtain ⟨oa, cap, rfl⟩ : ∃ oa cap, v = .slice oa (hdL T).length cap := by
      obtain ⟨oa, cap, hv, _⟩ := lies_of_own ho
      exact ⟨oa, cap, hv⟩
    have HX : Hid (∀ l, (w3.setCells w.heap.size 0 l).heap[p]? = some (agO { x with wt := true, hp := x.hp + 1 } mb) ∧ Jar (w3.setCells w.heap.size 0 l) mb R ∧ Tn (AB p mb) w (w3.setCells w.heap.size 0 l)) := fun l => by
      have k := tn_cells w3 w.heap.size 0 l
      refine ⟨(setC_else (by omega) 0).trans HP3.out, HJ3.out.turn k (by show ¬ mb = w.heap.size; omega), ?_⟩
      exact ⟨k.os.trans HT3.out.os, k.tape.trans HT3.out.tape, k.output.trans HT3.out.output, Nat.le_trans HT3.out.size k.size, fun i hi hS => (k.block i (Nat.lt_of_lt_of_le hi HT3.out.size) (by omega)).trans (HT3.out.block i hi hS)⟩
    clear ho b2 HGT HZ2 HT2 HP2 HJ2
    go_wp2_with (refine wpList_store_mid rfl 40 (.tmp 4) (.tmp 37) rfl w.heap.size 0 #[.string getB, .string u, .int .i64 1, .slice oa (hdL T).length cap, .string emB, .bool false] rfl rfl (rq_there HZ3.out) sizeR (rq_one _ _ _ _ _ _ _ _) ?_)
    refine bodyPost_ret (results_ctt (u := .int .i64 1) (v := .nilIface) rfl _ rfl (range_of (l := rqC getB u 1 (.slice oa (hdL T).length cap) emB false) (rq_set HZ3.out _ _ _ _ _ _)) Tryz.underlying40 rfl sizeR rfl rfl) rfl (HF.out _ _ ⟨(HX.out _).1, (HX.out _).2.1, own_low HO.out (by omega), (HX.out _).2.2⟩)
end Go.Proofs.YtlefalplljgkeaaGreatDoor.ag
