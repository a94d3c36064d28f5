import Derived.Test.YtlefalplljgkeaaGreatDoorMAgGo
import Derived.Test.YtlefalplljgkeaaGreatDoorMCkRd2
namespace Go.Proofs.YtlefalplljgkeaaGreatDoor.ag
open Go.ChangeShapes Go.WideShapes Go.ChangeAt Go.RowKit Go.Proofs.YtlefalplljgkeaaGreatDoor.common Go.Maps Go.WideElems
open Go.Proofs.YtlefalplljgkeaaGreatDoor.lst (PB Lies cl cl_app cl_len infoP lies_of_own)
open Go.Proofs.YtlefalplljgkeaaGreatDoor.fd (Ev ckTextR X)
attribute [local go_sem ↓] Go.wp_at_zero Go.wp_at_succ

/-- a request, laid in memory -/
abbrev rqC (m t : ByteArray) (n : Int) (v : Value) (b : ByteArray) (c : Bool) : List Value := [.string m, .string t, .int .i64 n, v, .string b, .bool c]
abbrev rqO (m t : ByteArray) (n : Int) (v : Value) (b : ByteArray) (c : Bool) : Obj := .cells #[.string m, .string t, .int .i64 n, v, .string b, .bool c] 40
abbrev rqV (m t : ByteArray) (n : Int) (v : Value) (b : ByteArray) (c : Bool) : Value := .agg #[.string m, .string t, .int .i64 n, v, .string b, .bool c]
abbrev zR : Obj := rqO emB emB 0 (.slice none 0 0) emB false
abbrev zRV : Value := rqV emB emB 0 (.slice none 0 0) emB false
abbrev getB : ByteArray := ⟨#[71, 69, 84]⟩
theorem sizeR : (Tryz.prog.info? 40).map (·.size) = some 6 := by kernel_rfl
theorem range_of {w : World} {F : Nat} {l : List Value} {t : TypeId} (h : w.heap[F]? = some (.cells l.toArray t)) : w.rangeAt F 0 l := fun j v hv => by
  simp only [World.cell?, h]
  simpa using hv
theorem rq_there {w : World} {F : Nat} {m t : ByteArray} {n : Int} {v : Value} {b : ByteArray} {c : Bool} (h : w.heap[F]? = some (rqO m t n v b c)) : w.there F 0 6 := by
  intro j hj
  have hr := range_of (l := rqC m t n v b c) h
  refine ⟨?_, by simp [World.frozen?, h]⟩
  match j, hj with
  | 0, _ => rw [hr 0 _ rfl]; rfl
  | 1, _ => rw [hr 1 _ rfl]; rfl
  | 2, _ => rw [hr 2 _ rfl]; rfl
  | 3, _ => rw [hr 3 _ rfl]; rfl
  | 4, _ => rw [hr 4 _ rfl]; rfl
  | 5, _ => rw [hr 5 _ rfl]; rfl
theorem rq_set {w : World} {F : Nat} {m t : ByteArray} {n : Int} {v : Value} {b : ByteArray} {c : Bool} (h : w.heap[F]? = some (rqO m t n v b c)) (m' t' : ByteArray) (n' : Int) (v' : Value) (b' : ByteArray) (c' : Bool) : (w.setCells F 0 (rqC m' t' n' v' b' c')).heap[F]? = some (rqO m' t' n' v' b' c') := by
  simp [World.setCells, World.setCell, Array.getElem?_modify, h]
theorem rq_one (m t : ByteArray) (n : Int) (oa : Option Addr) (l c : Nat) (b : ByteArray) (f : Bool) : (#[.string m, .string t, .int .i64 n, .slice oa l c, .string b, .bool f] : Array Value).all (·.oneCell') = true := all_oneCell_toArray (cs := rqC m t n (.slice oa l c) b f) (fun v hv => by simp [rqC] at hv; rcases hv with rfl | rfl | rfl | rfl | rfl | rfl <;> rfl)
theorem setC_else {w : World} {g p : Nat} {l : List Value} (hne : g ≠ p) : ∀ (o : Nat), (w.setCells p o l).heap[g]? = w.heap[g]? := by
  induction l generalizing w with
  | nil => intro o; rfl
  | cons x r ih =>
    intro o
    show ((w.setCell ⟨p, o, none⟩ x).setCells p (o + 1) r).heap[g]? = _
    rw [ih]
    simp [World.setCell, Array.getElem?_modify, Ne.symm hne]
theorem setC_below {B : Nat} {a w : World} (h : Below B a w) {p : Nat} (hp : B ≤ p) : ∀ (l : List Value) (o : Nat), Below B a (w.setCells p o l) := fun l o => below_setCells h hp o l
theorem own_low {w : World} {base base' : Nat} {e : TypeId} {z : Nat} {v : Value} {n : Nat} {xs : List Value} (h : w.ownsRow base e z v n xs) (hb : base' ≤ base) : w.ownsRow base' e z v n xs := by
  refine ⟨h.1, ?_⟩
  rcases h.2 with h1 | ⟨g, cap, cur, rfl, h1, h2⟩
  · exact Or.inl h1
  · exact Or.inr ⟨g, cap, cur, rfl, Nat.le_trans hb h1, h2⟩
theorem still_still (R : List Ck) (t : Int) : still (still R t) t = still R t := by
  unfold still
  rw [List.filter_filter]
  exact List.filter_congr fun x _ => by simp
theorem still_fit {R : List Ck} (hc : ∀ c ∈ R, Cfit c) (t : Int) : ∀ c ∈ still R t, Cfit c := fun c h => hc c (List.mem_filter.1 h).1
/-- all that the walks ask of the variables -/
structure Env (w : World) (am at_ : Addr) : Prop where
  many : Ev 1 w (X am)
  text : Ev 0 w (X at_)

set_option maxRecDepth 100000 in
set_option maxHeartbeats 3200000 in
theorem get_any (p mb : Nat) (x : Ax) (R : List Ck) (u : ByteArray) (w : World) (hp : w.heap[p]? = some (agO x mb)) (hJ : Jar w mb R) (hc : ∀ c ∈ R, Cfit c) (hn : Rng64 x.t) (h1 : (still R x.t).length ≤ 1)
    (T : ByteArray) (ev xm xt : Value) (hT : ckTextR ((still R x.t).map pc) xm xt = .tuple #[.string T, ev]) (hs : fd.tot ((still R x.t).map pc) ≤ 140737488355328) (hm : Ev 1 w xm) (ht : Ev 0 w xt) :
    Calls Tryz.prog 22 #[ptr p, .string u] w fun e w' => ∃ v, e = .returned (rqV getB u 1 v emB false) ∧ w'.ownsRow w.heap.size 37 2 v (hdL T).length (cl (hdL T)) ∧ Below w.heap.size w w' := by
  have BA := al w zR
  have HB := hide BA
  have HZ := hide (heap_at w zR)
  have HH := hide (head_any p mb x R (w.alloc zR) (blk hp BA) (hJ.below BA) hc hn h1 T ev xm xt hT hs (hm.below BA) (ht.below BA))
  clear hp hJ hc hn h1 hT hs hm ht BA
  go_enter Tryz.func22, Tryz.ntmps22
  go_wp2_with fail
  refine HH.out.mono ?_
  rintro e w1 ⟨v, rfl, ho, b1⟩
  have HZ1 := hide (blk HZ.out b1)
  have HB1 := hide (kW HB.out b1 HB.out.size)
  have hsz : w.heap.size + 1 ≤ w1.heap.size := by have := b1.size; rw [World.size_alloc] at this; exact this
  have HO := hide (own_heap (w' := w1.setCells w.heap.size 0 (rqC getB u 1 v emB false)) ho fun g hg => setC_else (by have := bk.own_ge ho g hg; rw [World.size_alloc] at this; omega) 0)
  obtain ⟨oa, cap, rfl⟩ : ∃ oa cap, v = .slice oa (hdL T).length cap := by
    obtain ⟨oa, cap, hv, _⟩ := lies_of_own ho
    exact ⟨oa, cap, hv⟩
  clear ho b1
  go_wp2_with (refine wpList_store_mid rfl 40 (.tmp 4) (.tmp 8) rfl w.heap.size 0 #[.string getB, .string u, .int .i64 1, .slice oa (hdL T).length cap, .string emB, .bool false] rfl rfl (rq_there HZ1.out) sizeR (rq_one _ _ _ _ _ _ _ _) ?_)
  refine bodyPost_ret (results_cell1 rfl _ rfl (range_of (l := rqC getB u 1 (.slice oa (hdL T).length cap) emB false) (rq_set HZ1.out _ _ _ _ _ _)) Tryz.underlying40 rfl sizeR) rfl ⟨_, rfl, ?_, setC_below HB1.out (Nat.le_refl _) _ _⟩
  exact own_low HO.out (by rw [World.size_alloc]; omega)

set_option maxRecDepth 100000 in
set_option maxHeartbeats 3200000 in
theorem visit_any (p mb : Nat) (x : Ax) (R : List Ck) (now : Int) (u : ByteArray) (w : World) (hp : w.heap[p]? = some (agO x mb)) (hJ : Jar w mb R) (hc : ∀ c ∈ R, Cfit c) (hn : Rng64 (max now x.t)) (h1 : (still R (max now x.t)).length ≤ 1)
    (hu : place u.data.toList = true) (hus : u.size ≤ 4611686018427387904)
    (T : ByteArray) (ev : Value) (am at_ : Addr) (hT : ckTextR ((still R (max now x.t)).map pc) (X am) (X at_) = .tuple #[.string T, ev]) (hs : fd.tot ((still R (max now x.t)).map pc) ≤ 140737488355328) (hE : Env w am at_) (hg : p ≠ 1 ∧ p ≠ 0 ∧ mb ≠ 1 ∧ mb ≠ 0) :
    Calls Tryz.prog 10 #[ptr p, .int .i64 now, .string u] w fun e w' => ∃ v, e = .returned (.tuple #[rqV getB u 1 v emB false, .nilIface]) ∧ w'.heap[p]? = some (agO { x with t := max now x.t, wt := true, hp := 0 } mb) ∧ Jar w' mb (still R (max now x.t)) ∧ w'.ownsRow w.heap.size 37 2 v (hdL T).length (cl (hdL T)) ∧ Tn (AB p mb) w w' := by
  have BA := al w zR
  have HB := hide BA
  have HZ := hide (heap_at w zR)
  have HP := hide (fun W => place_any u W hus)
  rw [hu] at HP
  have hpl := lt_of hp
  have hml := hJ.lt
  have HBG := hide (begin_any p mb x R now (w.alloc zR) (blk hp BA) (hJ.below BA) hc hn)
  have HGT := hide (fun W (h1' : W.heap[p]? = some (agO { x with t := max now x.t, wt := true, hp := 0 } mb)) (h2 : Jar W mb (still R (max now x.t))) (h3 : Env W am at_) => get_any p mb { x with t := max now x.t, wt := true, hp := 0 } (still R (max now x.t)) u W h1' h2 (still_fit hc _) hn (by rw [still_still]; exact h1) T ev (X am) (X at_) (by rw [still_still]; exact hT) (by rw [still_still]; exact hs) h3.many h3.text)
  have HEV : Hid (∀ W, Tn (AB p mb) (w.alloc zR) W → Env W am at_) := fun W hW => by
    have e1 := hE.many.lt
    have e2 := hE.text.lt
    have k1 : 1 < (w.alloc zR).heap.size := Nat.lt_of_lt_of_le e1 HB.out.size
    have k2 : 0 < (w.alloc zR).heap.size := Nat.lt_of_lt_of_le e2 HB.out.size
    have b1 := hW.block _ k1 (fun h => h.elim (fun e => hg.1 e.symm) (fun e => hg.2.2.1 e.symm))
    have b2 := hW.block _ k2 (fun h => h.elim (fun e => hg.2.1 e.symm) (fun e => hg.2.2.2 e.symm))
    exact ⟨(World.cell?_of_block b1).trans (hE.many.below HB.out), (World.cell?_of_block b2).trans (hE.text.below HB.out)⟩
  clear hp hJ hc h1 hT hs hE hg hu hus BA
  generalize still R (max now x.t) = R1 at *
  generalize max now x.t = t at *
  go_enter Tryz.func10, Tryz.ntmps10
  go_wp2_with fail
  refine (HP.out _).mono ?_
  rintro e w0 ⟨rfl, h0⟩
  rw [h0]
  go_wp2_with fail
  refine HBG.out.mono ?_
  rintro e w1 ⟨rfl, hp1, hj1, ht1⟩
  have HZ1 := hide (ht1.keeps HZ.out (by show ¬ (_ = p ∨ _ = mb); omega))
  have HG := hide (HGT.out w1 hp1 hj1 (HEV.out w1 ht1))
  have HT1 := hide (Tn.trans (Tn.of (S := AB p mb) HB.out) ht1)
  have HP1 := hide hp1
  have HJ1 := hide hj1
  have hsz1 : w.heap.size + 1 ≤ w1.heap.size := by have := ht1.size; rw [World.size_alloc] at this; exact this
  clear hp1 hj1 ht1 HBG HGT
  go_wp2_with fail
  refine HG.out.mono ?_
  rintro e w2 ⟨v, rfl, ho, b2⟩
  have HZ2 := hide (blk HZ1.out b2)
  have HT2 := hide (HT1.out.trans (Tn.of b2))
  have HP2 := hide (blk HP1.out b2)
  have HJ2 := hide (HJ1.out.below b2)
  have HO := hide (own_heap (w' := w2.setCells w.heap.size 0 (rqC getB u 1 v emB false)) ho fun g hg => setC_else (by have := bk.own_ge ho g hg; omega) 0)
  obtain ⟨oa, cap, rfl⟩ : ∃ oa cap, v = .slice oa (hdL T).length cap := by
    obtain ⟨oa, cap, hv, _⟩ := lies_of_own ho
    exact ⟨oa, cap, hv⟩
  clear ho b2 HG HZ1 HT1 HP1 HJ1
  have HX : Hid (∀ l, (w2.setCells w.heap.size 0 l).heap[p]? = some (agO { x with t := t, wt := true, hp := 0 } mb) ∧ Jar (w2.setCells w.heap.size 0 l) mb R1 ∧ Tn (AB p mb) w (w2.setCells w.heap.size 0 l)) := fun l => by
    have k : Tn (fun k => k = w.heap.size) w2 (w2.setCells w.heap.size 0 l) := by
      have hb : ∀ k, k ≠ w.heap.size → (w2.setCells w.heap.size 0 l).heap[k]? = w2.heap[k]? := fun k hk => setC_else hk 0
      have q : Below w.heap.size w2 (w2.setCells w.heap.size 0 l) := below_setCells ⟨rfl, rfl, rfl, Nat.le_refl _, fun _ _ => rfl⟩ (Nat.le_refl _) 0 l
      exact ⟨q.os, q.tape, q.output, q.size, fun k _ hk => hb k hk⟩
    refine ⟨(setC_else (by omega) 0).trans HP2.out, HJ2.out.turn k (by show ¬ mb = w.heap.size; omega), ?_⟩
    exact ⟨k.os.trans HT2.out.os, k.tape.trans HT2.out.tape, k.output.trans HT2.out.output, Nat.le_trans HT2.out.size k.size, fun i hi hS => (k.block i (Nat.lt_of_lt_of_le hi HT2.out.size) (by omega)).trans (HT2.out.block i hi hS)⟩
  go_wp2_with (refine wpList_store_mid rfl 40 (.tmp 6) (.tmp 18) rfl w.heap.size 0 #[.string getB, .string u, .int .i64 1, .slice oa (hdL T).length cap, .string emB, .bool false] rfl rfl (rq_there HZ2.out) sizeR (rq_one _ _ _ _ _ _ _ _) ?_)
  refine bodyPost_ret (fd.results_ct rfl _ rfl (range_of (l := rqC getB u 1 (.slice oa (hdL T).length cap) emB false) (rq_set HZ2.out _ _ _ _ _ _)) Tryz.underlying40 rfl sizeR rfl) rfl ⟨_, rfl, (HX.out _).1, (HX.out _).2.1, own_low HO.out (by omega), (HX.out _).2.2⟩
end Go.Proofs.YtlefalplljgkeaaGreatDoor.ag
