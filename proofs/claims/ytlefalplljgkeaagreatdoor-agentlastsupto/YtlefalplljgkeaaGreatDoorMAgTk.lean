import Derived.Test.YtlefalplljgkeaaGreatDoorMAgFol
import Derived.Test.YtlefalplljgkeaaGreatDoorMAgTake
namespace Go.Proofs.YtlefalplljgkeaaGreatDoor.ag
open Go.ChangeShapes Go.WideShapes Go.ChangeAt Go.RowKit Go.Proofs.YtlefalplljgkeaaGreatDoor.common Go.Maps Go.WideElems
open Go.Proofs.YtlefalplljgkeaaGreatDoor.lst (PB Lies cl cl_app cl_len infoP lies_of_own lookOf lowB)
open Go.Proofs.YtlefalplljgkeaaGreatDoor.fd (Ev ckTextR X Env6)
attribute [local go_sem ↓] Go.wp_at_zero Go.wp_at_succ

abbrev loB : ByteArray := ⟨#[76, 111, 99, 97, 116, 105, 111, 110]⟩
/-- an answer -/
abbrev rpV (st : Int) (fv : Value) (b : ByteArray) (c : Bool) : Value := .agg #[.int .i64 st, fv, .string b, .bool c]
abbrev rpO (st : Int) (fv : Value) (b : ByteArray) (c : Bool) : Obj := .cells #[.int .i64 st, fv, .string b, .bool c] 48
theorem look_loc (f : PB) (h : lowB f.1 = lowB loB) : lookOf [f] (lowB loB) = (f.2, 1) := by
  show lst.step (lowB loB) (emB, 0) f = _
  unfold lst.step
  rw [if_pos h]; rfl
theorem loc_sc : lowB loB ≠ lowB scB := by decide

set_option maxRecDepth 100000 in
set_option maxHeartbeats 3200000 in
/-- nothing waits -/
theorem take_lost (p mb : Nat) (x : Ax) (now : Int) (st : Int) (fv : Value) (b : ByteArray) (c : Bool) (w : World) (hp : w.heap[p]? = some (agO x mb)) (hw : x.wt = false) (al_ : Addr) (he : Ev 2 w (X al_)) :
    Calls Tryz.prog 12 #[ptr p, .int .i64 now, rpV st fv b c] w fun e w' => e = .returned (.tuple #[zRV, .int .i64 0, X al_]) ∧ Below w.heap.size w w' := by
  have BA := al w (rpO st fv b c)
  have BB := al (w.alloc (rpO st fv b c)) zR
  have hb : Below w.heap.size w ((w.alloc (rpO st fv b c)).alloc zR) := kW BA BB BA.size
  obtain ⟨_, _, c7, _, _⟩ := ag_cells (blk hp hb)
  rw [hw] at c7
  have ce : ((w.alloc (rpO st fv b c)).alloc zR).cell? ⟨2, 0, none⟩ = some (X al_) := he.below hb
  have HB := hide hb
  have hz := heap_at (w.alloc (rpO st fv b c)) zR
  rw [World.size_alloc] at hz
  have HZ := hide hz
  have hr := range_of (l := rqC emB emB 0 (.slice none 0 0) emB false) hz
  have q0 := hr 0 _ rfl
  have q1 := hr 1 _ rfl
  have q2 := hr 2 _ rfl
  have q3 := hr 3 _ rfl
  have q4 := hr 4 _ rfl
  have q5 := hr 5 _ rfl
  have hfz : ∀ j, ((w.alloc (rpO st fv b c)).alloc zR).frozen? ⟨w.heap.size + 1, j, none⟩ = false := fun j => by simp only [World.frozen?, hz]; simp
  have f0 := hfz 0
  have f1 := hfz 1
  have f2 := hfz 2
  have f3 := hfz 3
  have f4 := hfz 4
  have f5 := hfz 5
  clear hp hw he BA BB hb hr hz hfz
  go_enter Tryz.func12, Tryz.ntmps12
  go_wp2_with fail
  go_region
  go_wp2_with fail
  refine bodyPost_ret (results_ctt rfl _ rfl (range_of (l := rqC emB emB 0 (.slice none 0 0) emB false) HZ.out) Tryz.underlying40 rfl sizeR rfl rfl) rfl ⟨rfl, HB.out.drew⟩

/-- what all walks lean on, in the world ahead of the agent -/
structure En0 (w0 : World) (am at_ al_ : Addr) : Prop where
  env : Env w0 am at_
  e6 : Env6 w0 at_
  lost : Ev 2 w0 (X al_)
theorem Env.below {w w' : World} {am at_ : Addr} (h : Env w am at_) (hb : Below w.heap.size w w') : Env w' am at_ := ⟨h.many.below hb, h.text.below hb⟩
abbrev prO (n v : ByteArray) : Obj := .cells #[.string n, .string v] 37
theorem pr_lies {w : World} {fb : Nat} {n v : ByteArray} (h : w.heap[fb]? = some (prO n v)) : Lies w (.slice (some ⟨fb, 0, none⟩) 1 1) [(n, v)] := by
  refine ⟨_, 1, rfl, fun i hi => ⟨fb, 0, rfl, lt_of h, ?_⟩⟩
  have hi : i = 0 := by simpa using hi
  subst hi
  constructor <;> simp [World.cell?, h]
theorem pr_ne {w : World} {fb p mb : Nat} {n v : ByteArray} {x : Ax} (h : w.heap[fb]? = some (prO n v)) (hp : w.heap[p]? = some (agO x mb)) : fb ≠ p := by
  intro e
  rw [e, hp] at h
  have := Option.some.inj h
  injection this with h1
  have := congrArg Array.size h1
  simp at this
theorem pr_nem {w : World} {fb mb : Nat} {n v : ByteArray} {R : List Ck} (h : w.heap[fb]? = some (prO n v)) (hJ : Jar w mb R) : fb ≠ mb := by
  obtain ⟨D, k, ⟨es, clock, hb, _⟩, _⟩ := hJ
  intro e
  rw [e, hb] at h; cases h

/-- what a redirect to a place leads to -/
def HopOut (p mb : Nat) (x : Ax) (t : Int) (u T : ByteArray) (R : List Ck) (xm : Value) (w : World) (e : Ending) (w' : World) : Prop :=
  (10 ≤ x.hp ∧ e = .returned (.tuple #[zRV, .int .i64 0, xm]) ∧ w'.heap[p]? = some (agO { x.bare with t := t } mb) ∧ Jar w' mb R ∧ Tn (AB p mb) w w') ∨
  (x.hp < 10 ∧ ∃ v, e = .returned (.tuple #[rqV getB u 1 v emB false, .int .i64 1, .nilIface]) ∧ w'.heap[p]? = some (agO { x.bare with t := t, wt := true, hp := x.hp + 1 } mb) ∧ Jar w' mb R ∧ w'.ownsRow w.heap.size 37 2 v (hdL T).length (cl (hdL T)) ∧ Tn (AB p mb) w w')
/-- cells of an answer, an agent's time and jar -/
abbrev Su (p mb B : Nat) (t : Int) (fv : Value) (W X : World) : Prop := X.cell? ⟨p, 0, none⟩ = some (.int .i64 t) ∧ X.cell? ⟨p, 1, none⟩ = some (.map (some mb)) ∧ X.cell? ⟨B, 1, none⟩ = some fv ∧ Hid (Below W.heap.size W X)
theorem su_drew {p mb B : Nat} {t : Int} {fv : Value} {W X : World} (h : Su p mb B t fv W X) : Su p mb B t fv W X.drew := ⟨h.1, h.2.1, h.2.2.1, h.2.2.2.out.drew⟩
theorem su_keep {p mb B : Nat} {t : Int} {fv : Value} {W X Y : World} (hp : p < W.heap.size) (hB : B < W.heap.size) (h : Su p mb B t fv W X) (hb : Below X.heap.size X Y) : Su p mb B t fv W Y := by
  have h1 := h.2.2.2.out.size
  exact ⟨(hb.cell (p := ⟨p, 0, none⟩) (Nat.lt_of_lt_of_le hp h1)).trans h.1, (hb.cell (p := ⟨p, 1, none⟩) (Nat.lt_of_lt_of_le hp h1)).trans h.2.1, (hb.cell (p := ⟨B, 1, none⟩) (Nat.lt_of_lt_of_le hB h1)).trans h.2.2.1, keepB h.2.2.2.out hb⟩

set_option maxRecDepth 100000 in
set_option maxHeartbeats 6400000 in
theorem take_hop (w0 : World) (am at_ al_ : Addr) (hE : En0 w0 am at_ al_) (p mb : Nat) (x : Ax) (R : List Ck) (now st : Int) (n u : ByteArray) (fb : Nat) (b : ByteArray) (c : Bool) (w : World) (hb0 : Below w0.heap.size w0 w) (hpg : w0.heap.size ≤ p ∧ w0.heap.size ≤ mb)
    (hp : w.heap[p]? = some (agO x mb)) (hw : x.wt = true) (hJ : Jar w mb R) (hc : ∀ c ∈ R, Cfit c) (hn : Rng64 (max now x.t)) (h1 : (still R (max now x.t)).length ≤ 1) (hhp : 0 ≤ x.hp ∧ x.hp ≤ 1000) (hst : st = 302 ∨ st = 303)
    (hf : w.heap[fb]? = some (prO n u)) (hnm : lowB n = lowB loB) (hns : n.size ≤ 140737488355328) (hu : place u.data.toList = true) (hus : u.size ≤ 4611686018427387904)
    (T : ByteArray) (ev : Value) (hT : ckTextR ((still R (max now x.t)).map pc) (X am) (X at_) = .tuple #[.string T, ev]) (hs : fd.tot ((still R (max now x.t)).map pc) ≤ 140737488355328) :
    Calls Tryz.prog 12 #[ptr p, .int .i64 now, rpV st (.slice (some ⟨fb, 0, none⟩) 1 1) b c] w (HopOut p mb x (max now x.t) u T (still R (max now x.t)) (X am) w) := by
  have BA := al w (rpO st (.slice (some ⟨fb, 0, none⟩) 1 1) b c)
  have BB := al (w.alloc (rpO st (.slice (some ⟨fb, 0, none⟩) 1 1) b c)) zR
  have hb : Below w.heap.size w ((w.alloc (rpO st (.slice (some ⟨fb, 0, none⟩) 1 1) b c)).alloc zR) := kW BA BB BA.size
  obtain ⟨_, _, c7, _, _⟩ := ag_cells (blk hp hb)
  rw [hw] at c7
  have hz := heap_at (w.alloc (rpO st (.slice (some ⟨fb, 0, none⟩) 1 1) b c)) zR
  rw [World.size_alloc] at hz
  have hr0 := blk (heap_at w (rpO st (.slice (some ⟨fb, 0, none⟩) 1 1) b c)) BB
  have hpl := lt_of hp
  have hml := hJ.lt
  have hfl := lt_of hf
  have hfp := pr_ne hf hp
  have hfm := pr_nem hf hJ
  obtain ⟨W1, hW1⟩ : ∃ W1, W1 = (w.alloc (rpO st (.slice (some ⟨fb, 0, none⟩) 1 1) b c)).alloc zR := ⟨_, rfl⟩
  rw [← hW1] at hb hz hr0
  have hs1 : W1.heap.size = w.heap.size + 2 := by rw [hW1]; simp
  have HGO := hide (goOn_any p mb x R now W1 (blk hp hb) (hJ.below hb) hc hn)
  have h01 : Below w0.heap.size w0 W1 := kW hb0 hb hb0.size
  have HLOW := hide (fun W (hW : Tn (AB p mb) W1 W) => h01.trans (hW.below (n := w0.heap.size) (fun k hk => hk.elim (fun e => e ▸ hpg.1) (fun e => e ▸ hpg.2)) h01.size))
  have hfW : W1.heap[fb]? = some (prO n u) := blk hf hb
  have HFB := hide (fun W (hW : Tn (AB p mb) W1 W) => hW.keeps hfW (fun h => h.elim hfp hfm))
  have HZ := hide (fun W (hW : Tn (AB p mb) W1 W) => hW.keeps hz (by show ¬ (_ = p ∨ _ = mb); omega))
  have HRB := hide (fun W (hW : Tn (AB p mb) W1 W) => hW.keeps hr0 (by show ¬ (_ = p ∨ _ = mb); omega))
  have HTW : Hid (Tn (AB p mb) w W1) := Tn.of hb
  have HTN := hide (fun W (h : Below w0.heap.size w0 W) (hl : Lies W (.slice (some ⟨fb, 0, none⟩) 1 1) [(n, u)]) => take_none mb (max now x.t) fb (n, u) W hl (by show lowB n ≠ _; rw [hnm]; exact loc_sc) hns at_ (hE.e6.below h))
  have HLK := hide (fun W (hl : Lies W (.slice (some ⟨fb, 0, none⟩) 1 1) [(n, u)]) => lst.look_any (.slice (some ⟨fb, 0, none⟩) 1 1) [(n, u)] loB W hl (by simp) (fun q hq => by simp at hq; rw [hq]; exact hns))
  rw [look_loc (n, u) hnm] at HLK
  have HFO := hide (fun W (h : Below w0.heap.size w0 W) (h2 : W.heap[p]? = some (agO ({ x with t := max now x.t } : Ax).bare mb)) (h3 : Jar W mb (still R (max now x.t))) => follow_any p mb ({ x with t := max now x.t } : Ax).bare (still R (max now x.t)) u W h2 h3 (still_fit hc _) hn (by show (still (still R (max now x.t)) (max now x.t)).length ≤ 1; rw [still_still]; exact h1) hhp hu hus T ev am at_ (by show ckTextR ((still (still R (max now x.t)) (max now x.t)).map pc) _ _ = _; rw [still_still]; exact hT) (by show fd.tot ((still (still R (max now x.t)) (max now x.t)).map pc) ≤ _; rw [still_still]; exact hs) (hE.env.below h) (by have e1 := hE.env.many.lt; have e2 := hE.env.text.lt; exact ⟨by omega, by omega⟩))
  have HJN := hide (fun W (h2 : W.heap[p]? = some (agO ({ x with t := max now x.t } : Ax) mb)) => arrive_any p mb ({ x with t := max now x.t } : Ax) W h2)
  have HW1 := hide hW1
  have HSZ := hide (show p < W1.heap.size ∧ mb < W1.heap.size ∧ w.heap.size + 1 < W1.heap.size ∧ w.heap.size < W1.heap.size from ⟨by omega, by omega, by omega, by omega⟩)
  have HPM := hide (show p < w.heap.size ∧ mb < w.heap.size from ⟨hpl, hml⟩)
  have HNE := hide (hJ.ne hp)
  clear hp hJ hc hn h1 hhp hf hnm hns hu hus hT hs hE hb hr0 hz hfp hfm hfl hpl hml h01 hfW hW1 hs1 BA BB hb0 hpg
  generalize still R (max now x.t) = R1 at *
  generalize max now x.t = t at *
  go_enter Tryz.func12, Tryz.ntmps12
  go_wp2_with fail
  rw [← HW1.out]
  refine HGO.out.mono ?_
  rintro e w2 ⟨rfl, hp2, hj2, ht2⟩
  have HT2 := hide ht2
  obtain ⟨c0, c1, _⟩ := ag_cells hp2
  have cB := (range_of (l := [.int .i64 st, .slice (some ⟨fb, 0, none⟩) 1 1, .string b, .bool c]) (HRB.out w2 ht2)) 1 _ rfl
  have hp3 := hp2
  have HJ2 := hide hj2
  have HTN2 := hide (HTN.out w2.drew ((HLOW.out w2 ht2).drew) (pr_lies (HFB.out w2 ht2)))
  have hz2 : p < w2.heap.size ∧ w.heap.size < w2.heap.size := ⟨Nat.lt_of_lt_of_le HSZ.out.1 ht2.size, Nat.lt_of_lt_of_le HSZ.out.2.2.2 ht2.size⟩
  clear hp2 hj2 ht2 HGO
  go_upto_region 4 with fail
  have HS0 : Su p mb w.heap.size t (.slice (some ⟨fb, 0, none⟩) 1 1) w2 w2.drew := ⟨c0, c1, cB, (Below.refl _ _).drew⟩
  have HP2 := hide hp3
  clear hp3
  go_region_held3 (fun X => X.cell? ⟨p, 0, none⟩ = some (.int .i64 t) ∧ X.cell? ⟨p, 1, none⟩ = some (.map (some mb)) ∧ X.cell? ⟨w.heap.size, 1, none⟩ = some (.slice (some ⟨fb, 0, none⟩) 1 1) ∧ Hid (Below w2.heap.size w2 X))
    (first
      | assumption
      | exact su_keep hz2.1 hz2.2 (by assumption) (by assumption)
      | exact su_drew (by assumption))
    (first
      | (go_at_call 25; refine HTN2.out.mono ?_; rintro y wa ⟨rfl, ba⟩))
  have b3 : Below w2.heap.size w2 wa := keepB ((Below.refl _ _).drew) ba
  have HT3 := hide (HT2.out.trans (Tn.of b3))
  have HP3 := hide (blk HP2.out b3)
  have HJ3 := hide (HJ2.out.below b3)
  have HAR := hide (HJN.out wa HP3.out)
  clear b3 ba HT2 HP2 HJ2 HTN2 hz2 HS0 c0 c1 cB HJN HTN
  go_wp2_with fail
  refine HAR.out.mono ?_
  rintro e w4 ⟨rfl, hp4, ht4⟩
  have HT4 := hide (HT3.out.trans (ht4.mono fun k _ h => Or.inl h))
  have HJ4 := hide (HJ3.out.turn ht4 HNE.out)
  have HP4 := hide hp4
  have hrb := range_of (l := [.int .i64 st, .slice (some ⟨fb, 0, none⟩) 1 1, .string b, .bool c]) (HRB.out w4 HT4.out)
  have cB0 := hrb 0 _ rfl
  have cB1 := hrb 1 _ rfl
  have HLK4 := hide (HLK.out w4 (pr_lies (HFB.out w4 HT4.out)))
  clear hp4 ht4 hrb HT3 HP3 HJ3 HAR
  rcases hst with rfl | rfl
  all_goals
    go_wp2_with fail
    refine HLK4.out.mono ?_
    rintro e w5 ⟨rfl, b5⟩
    have HT5 := hide (HT4.out.trans (Tn.of b5))
    have HP5 := hide (blk HP4.out b5)
    have HJ5 := hide (HJ4.out.below b5)
    have HF5 := hide (HFO.out w5 (HLOW.out w5 HT5.out) HP5.out HJ5.out)
    have HS5 := hide (show w.heap.size + 1 < w5.heap.size from Nat.lt_of_lt_of_le HSZ.out.2.2.1 HT5.out.size)
    clear b5 HLK4 HFO HT4 HP4 HJ4 cB0 cB1
    go_wp2_with fail
    refine HF5.out.mono ?_
    rintro e w6 h6
    rcases h6 with ⟨hh, rfl, hp6, hj6, ht6⟩ | ⟨hh, v, rfl, hp6, hj6, ho6, ht6⟩
    · have HT6 := hide (HT5.out.trans ht6)
      have HZ6 := hide (HZ.out w6 HT6.out)
      have HX : Hid (∀ l, HopOut p mb x t u T R1 (X am) w (.returned (.tuple #[zRV, .int .i64 0, X am])) (w6.setCells (w.heap.size + 1) 0 l)) := fun l => by
        have k := tn_cells w6 (w.heap.size + 1) 0 l
        have hpm := HPM.out
        have hlw : w.heap.size ≤ w6.heap.size := Nat.le_trans HTW.out.size HT6.out.size
        have hTT : Tn (AB p mb) w w6 := HTW.out.trans HT6.out
        exact Or.inl ⟨hh, rfl, (setC_else (by omega) 0).trans hp6, hj6.turn k (by show ¬ mb = _; omega), ⟨k.os.trans hTT.os, k.tape.trans hTT.tape, k.output.trans hTT.output, Nat.le_trans hTT.size k.size, fun i hi hS => (k.block i (Nat.lt_of_lt_of_le hi hTT.size) (by omega)).trans (hTT.block i hi hS)⟩⟩
      clear hp6 hj6 ht6 hh
      go_wp2_with (refine wpList_store_mid rfl 40 (.tmp 6) (.tmp 51) rfl (w.heap.size + 1) 0 #[.string emB, .string emB, .int .i64 0, .slice none 0 0, .string emB, .bool false] rfl rfl (rq_there HZ6.out) sizeR (rq_one _ _ _ _ _ _ _ _) ?_)
      refine bodyPost_ret (results_ctt (u := .int .i64 0) (v := X am) rfl _ rfl (range_of (l := rqC emB emB 0 (.slice none 0 0) emB false) (rq_set HZ6.out _ _ _ _ _ _)) Tryz.underlying40 rfl sizeR rfl rfl) rfl (HX.out _)
    · have HT6 := hide (HT5.out.trans ht6)
      have HZ6 := hide (HZ.out w6 HT6.out)
      obtain ⟨oa, cap, rfl⟩ : ∃ oa cap, v = .slice oa (hdL T).length cap := by
        obtain ⟨oa, cap, hv, _⟩ := lies_of_own ho6
        exact ⟨oa, cap, hv⟩
      have HX : Hid (∀ l, HopOut p mb x t u T R1 (X am) w (.returned (.tuple #[rqV getB u 1 (.slice oa (hdL T).length cap) emB false, .int .i64 1, .nilIface])) (w6.setCells (w.heap.size + 1) 0 l)) := fun l => by
        have k := tn_cells w6 (w.heap.size + 1) 0 l
        have hpm := HPM.out
        have hTT : Tn (AB p mb) w w6 := HTW.out.trans HT6.out
        have h5 := HS5.out
        refine Or.inr ⟨hh, _, rfl, (setC_else (by omega) 0).trans hp6, hj6.turn k (by show ¬ mb = _; omega), own_low (own_heap ho6 fun g hg => setC_else (by have := bk.own_ge ho6 g hg; omega) 0) (by omega), ⟨k.os.trans hTT.os, k.tape.trans hTT.tape, k.output.trans hTT.output, Nat.le_trans hTT.size k.size, fun i hi hS => (k.block i (Nat.lt_of_lt_of_le hi hTT.size) (by omega)).trans (hTT.block i hi hS)⟩⟩
      clear hp6 hj6 ht6 hh ho6
      go_wp2_with (refine wpList_store_mid rfl 40 (.tmp 6) (.tmp 51) rfl (w.heap.size + 1) 0 #[.string getB, .string u, .int .i64 1, .slice oa (hdL T).length cap, .string emB, .bool false] rfl rfl (rq_there HZ6.out) sizeR (rq_one _ _ _ _ _ _ _ _) ?_)
      refine bodyPost_ret (results_ctt (u := .int .i64 1) (v := .nilIface) rfl _ rfl (range_of (l := rqC getB u 1 (.slice oa (hdL T).length cap) emB false) (rq_set HZ6.out _ _ _ _ _ _)) Tryz.underlying40 rfl sizeR rfl rfl) rfl (HX.out _)
end Go.Proofs.YtlefalplljgkeaaGreatDoor.ag
