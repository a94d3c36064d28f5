import Derived.Test.YtlefalplljgkeaaGreatDoorMAgTk
import Derived.Test.YtlefalplljgkeaaGreatDoorMAgPg
import Derived.Test.YtlefalplljgkeaaGreatDoorMAgPgOf
namespace Go.Proofs.YtlefalplljgkeaaGreatDoor.ag
open Go.ChangeShapes Go.WideShapes Go.ChangeAt Go.RowKit Go.Proofs.YtlefalplljgkeaaGreatDoor.common Go.Maps Go.WideElems
open Go.Proofs.YtlefalplljgkeaaGreatDoor.lst (PB Lies cl cl_app cl_len infoP lies_of_own lookOf lowB)
open Go.Proofs.YtlefalplljgkeaaGreatDoor.fd (Ev ckTextR X Env6)
attribute [local go_sem ↓] Go.wp_at_zero Go.wp_at_succ

theorem look_ct (f : PB) (h : lowB f.1 = lowB scB) : lookOf [f] (lowB ctB) = (emB, 0) := by
  show lst.step (lowB ctB) (emB, 0) f = _
  unfold lst.step
  rw [if_neg (by rw [h]; decide)]
theorem pg_one : (#[.string emB, .slice none 0 0, .slice none 0 0] : Array Value).all (·.oneCell') = true := all_oneCell_toArray (cs := [.string emB, .slice none 0 0, .slice none 0 0]) (fun v hv => by simp at hv; rcases hv with rfl | rfl <;> rfl)
abbrev Sx (p mb B : Nat) (t : Int) (fv : Value) (W X : World) : Prop := X.cell? ⟨p, 0, none⟩ = some (.int .i64 t) ∧ X.cell? ⟨p, 1, none⟩ = some (.map (some mb)) ∧ X.cell? ⟨B, 1, none⟩ = some fv ∧ Hid (Tn (fun k => k = mb) W X)
theorem sx_keep {p mb B : Nat} {t : Int} {fv : Value} {W X Y : World} (hp : p < W.heap.size) (hB : B < W.heap.size) (hne : mb ≠ p) (hnb : mb ≠ B) (h : Sx p mb B t fv W X) (hb : Tn (fun k => k = mb) X Y) : Sx p mb B t fv W Y := by
  have h1 := h.2.2.2.out.size
  have ep : Y.heap[p]? = X.heap[p]? := hb.block p (Nat.lt_of_lt_of_le hp h1) (fun e => hne e.symm)
  have eB : Y.heap[B]? = X.heap[B]? := hb.block B (Nat.lt_of_lt_of_le hB h1) (fun e => hnb e.symm)
  exact ⟨(World.cell?_of_block ep).trans h.1, (World.cell?_of_block ep).trans h.2.1, (World.cell?_of_block eB).trans h.2.2.1, h.2.2.2.out.trans hb⟩

set_option maxRecDepth 100000 in
set_option maxHeartbeats 6400000 in
theorem take_stay (w0 : World) (am at_ al_ : Addr) (hE : En0 w0 am at_ al_) (p mb : Nat) (x : Ax) (R : List Ck) (now : Int) (n u cn cv : ByteArray) (cm : Int) (fb : Nat) (b : ByteArray) (c : Bool) (w : World) (hb0 : Below w0.heap.size w0 w) (hpg : w0.heap.size ≤ p ∧ w0.heap.size ≤ mb)
    (hp : w.heap[p]? = some (agO x mb)) (hw : x.wt = true) (hJ : Jar w mb R) (hc : ∀ c ∈ R, Cfit c) (hn : Rng64 (max now x.t)) (h1 : still R (max now x.t) = [])
    (hf : w.heap[fb]? = some (prO n u)) (hnm : lowB n = lowB scB) (hns : n.size ≤ 140737488355328) (hus : u.size ≤ 4194304) (hg : fd.Good u.data.toList cn cv cm) (hcn : cn.size ≤ 140737488355328) (hcv : cv.size ≤ 140737488355328) :
    Calls Tryz.prog 12 #[ptr p, .int .i64 now, rpV 200 (.slice (some ⟨fb, 0, none⟩) 1 1) b c] w fun e w' => e = .returned (.tuple #[zRV, .int .i64 0, .nilIface]) ∧ w'.heap[p]? = some (agO { x.bare with t := max now x.t } mb) ∧ Jar w' mb (cj cn cv cm (max now x.t)) ∧ Tn (AB p mb) w w' := by
  have BA := al w (rpO 200 (.slice (some ⟨fb, 0, none⟩) 1 1) b c)
  have BB := al (w.alloc (rpO 200 (.slice (some ⟨fb, 0, none⟩) 1 1) b c)) zR
  have hb : Below w.heap.size w ((w.alloc (rpO 200 (.slice (some ⟨fb, 0, none⟩) 1 1) b c)).alloc zR) := kW BA BB BA.size
  obtain ⟨_, _, c7, _, _⟩ := ag_cells (blk hp hb)
  rw [hw] at c7
  have hz := heap_at (w.alloc (rpO 200 (.slice (some ⟨fb, 0, none⟩) 1 1) b c)) zR
  rw [World.size_alloc] at hz
  have hr0 := blk (heap_at w (rpO 200 (.slice (some ⟨fb, 0, none⟩) 1 1) b c)) BB
  have hpl := lt_of hp
  have hml := hJ.lt
  have hfl := lt_of hf
  have hfp := pr_ne hf hp
  have hfm := pr_nem hf hJ
  obtain ⟨W1, hW1⟩ : ∃ W1, W1 = (w.alloc (rpO 200 (.slice (some ⟨fb, 0, none⟩) 1 1) b c)).alloc zR := ⟨_, rfl⟩
  rw [← hW1] at hb hz hr0
  have hs1 : W1.heap.size = w.heap.size + 2 := by rw [hW1]; simp
  have HGO := hide (goOn_any p mb x R now W1 (blk hp hb) (hJ.below hb) hc hn)
  have h01 : Below w0.heap.size w0 W1 := kW hb0 hb hb0.size
  have HLOW := hide (fun W (hW : Tn (AB p mb) W1 W) => h01.trans (hW.below (n := w0.heap.size) (fun k hk => hk.elim (fun e => e ▸ hpg.1) (fun e => e ▸ hpg.2)) h01.size))
  have hfW : W1.heap[fb]? = some (prO n u) := blk hf hb
  have HFB := hide (fun W (hW : Tn (AB p mb) W1 W) => hW.keeps hfW (fun h => h.elim hfp hfm))
  have HZ := hide (fun W (hW : Tn (AB p mb) W1 W) => hW.keeps hz (by show ¬ (_ = p ∨ _ = mb); omega))
  have HRB := hide (fun W (hW : Tn (AB p mb) W1 W) => hW.keeps hr0 (by show ¬ (_ = p ∨ _ = mb); omega))
  have HTW : Hid (Tn (AB p mb) w W1) := Tn.of hb
  have HTN := hide (fun W (h : Below w0.heap.size w0 W) (hj : Jar W mb []) (hl : Lies W (.slice (some ⟨fb, 0, none⟩) 1 1) [(n, u)]) => take_set mb (max now x.t) fb n u cn cv cm W hj hl hnm hns hus hg hcn hcv at_ (hE.e6.below h))
  have HPO := hide (fun W (h : Below w0.heap.size w0 W) (hl : Lies W (.slice (some ⟨fb, 0, none⟩) 1 1) [(n, u)]) => pageOf_none 200 (.slice (some ⟨fb, 0, none⟩) 1 1) [(n, u)] b c W hl (look_ct (n, u) hnm) (by simp) (fun q hq => by simp at hq; rw [hq]; exact hns) at_ (hE.env.text.below h))
  have HJN := hide (fun W (h2 : W.heap[p]? = some (agO ({ x with t := max now x.t } : Ax) mb)) => arrive_any p mb ({ x with t := max now x.t } : Ax) W h2)
  have HW1 := hide hW1
  have HSZ := hide (show p < W1.heap.size ∧ mb < W1.heap.size ∧ w.heap.size + 1 < W1.heap.size ∧ w.heap.size < W1.heap.size from ⟨by omega, by omega, by omega, by omega⟩)
  have HPM := hide (show p < w.heap.size ∧ mb < w.heap.size from ⟨hpl, hml⟩)
  have HNE := hide (hJ.ne hp)
  have HNB : Hid (mb ≠ w.heap.size) := by show _ ≠ _; omega
  clear hp hJ hc hn hf hnm hns hus hg hcn hcv hE hb hr0 hz hfp hfm hfl hpl hml h01 hfW hW1 hs1 BA BB hb0 hpg
  rw [h1] at HGO
  clear h1
  generalize max now x.t = t at *
  go_enter Tryz.func12, Tryz.ntmps12
  go_wp2_with fail
  rw [← HW1.out]
  refine HGO.out.mono ?_
  rintro e w2 ⟨rfl, hp2, hj2, ht2⟩
  have HT2 := hide ht2
  obtain ⟨c0, c1, _⟩ := ag_cells hp2
  have cB := (range_of (l := [.int .i64 200, .slice (some ⟨fb, 0, none⟩) 1 1, .string b, .bool c]) (HRB.out w2 ht2)) 1 _ rfl
  have hp3 := hp2
  have HJ2 := hide hj2
  have HTN2 := hide (HTN.out w2.drew ((HLOW.out w2 ht2).drew) (HJ2.out.turn (S := fun _ => False) ((Tn.refl _ _).drew) (fun h => h)) (pr_lies (HFB.out w2 ht2)))
  have hz2 : p < w2.heap.size ∧ w.heap.size < w2.heap.size := ⟨Nat.lt_of_lt_of_le HSZ.out.1 ht2.size, Nat.lt_of_lt_of_le HSZ.out.2.2.2 ht2.size⟩
  clear hp2 hj2 ht2 HGO
  go_upto_region 4 with fail
  have HS0 : Sx p mb w.heap.size t (.slice (some ⟨fb, 0, none⟩) 1 1) w2 w2.drew := ⟨c0, c1, cB, (Tn.refl _ _).drew⟩
  have HP2 := hide hp3
  clear hp3
  go_region_held3 (fun X => X.cell? ⟨p, 0, none⟩ = some (.int .i64 t) ∧ X.cell? ⟨p, 1, none⟩ = some (.map (some mb)) ∧ X.cell? ⟨w.heap.size, 1, none⟩ = some (.slice (some ⟨fb, 0, none⟩) 1 1) ∧ Hid (Tn (fun k => k = mb) w2 X))
    (first
      | assumption
      | exact sx_keep hz2.1 hz2.2 HNE.out HNB.out (by assumption) (by assumption))
    (first
      | (go_at_call 25; refine HTN2.out.mono ?_; rintro y wa ⟨rfl, hja, hta⟩))
  have ht3 : Tn (fun k => k = mb) w2 wa := Tn.trans ((Tn.refl _ _).drew) hta
  have HT3 := hide (HT2.out.trans (ht3.mono fun k _ h => Or.inr h))
  have HP3 := hide (ht3.keeps HP2.out (fun e => HNE.out e.symm))
  have HJ3 := hide hja
  have HAR := hide (HJN.out wa HP3.out)
  clear ht3 hta hja HT2 HP2 HJ2 HTN2 hz2 HS0 c0 c1 cB HJN HTN
  go_wp2_with fail
  refine HAR.out.mono ?_
  rintro e w4 ⟨rfl, hp4, ht4⟩
  have HT4 := hide (HT3.out.trans (ht4.mono fun k _ h => Or.inl h))
  have HJ4 := hide (HJ3.out.turn ht4 HNE.out)
  have HP4 := hide hp4
  have hrb := range_of (l := [.int .i64 200, .slice (some ⟨fb, 0, none⟩) 1 1, .string b, .bool c]) (HRB.out w4 HT4.out)
  have cB0 := hrb 0 _ rfl
  have cB1 := hrb 1 _ rfl
  have cB2 := hrb 2 _ rfl
  have cB3 := hrb 3 _ rfl
  have HP4O := hide (HPO.out w4 (HLOW.out w4 HT4.out) (pr_lies (HFB.out w4 HT4.out)))
  clear hp4 ht4 hrb HT3 HP3 HJ3 HAR HPO
  go_wp2_with fail
  refine HP4O.out.mono ?_
  rintro e w5 ⟨rfl, b5⟩
  have HT5 := hide (HT4.out.trans (Tn.of b5))
  have hp5 := blk HP4.out b5
  have HP5 := hide hp5
  have HJ5 := hide (HJ4.out.below b5)
  have HZ5 := hide (HZ.out w5 HT5.out)
  have hcell : ∀ j v, [Value.int .i64 t, .map (some mb), .string emB, .slice none 0 0, .slice none 0 0, .bool false, .string emB, .bool false, .int .i64 x.hp][j]? = some v → w5.cell? ⟨p, j, none⟩ = some v := fun j v hv => by
    have h := range_of (l := [Value.int .i64 t, .map (some mb), .string emB, .slice none 0 0, .slice none 0 0, .bool false, .string emB, .bool false, .int .i64 x.hp]) hp5 j v hv
    rwa [Nat.zero_add] at h
  have hth : w5.there p 2 3 := by
    intro j hj
    refine ⟨?_, ag_free hp5 _⟩
    match j, hj with
    | 0, _ => rw [hcell 2 _ rfl]; rfl
    | 1, _ => rw [hcell 3 _ rfl]; rfl
    | 2, _ => rw [hcell 4 _ rfl]; rfl
  have HTH := hide hth
  obtain ⟨W5, hW5⟩ : ∃ W5, W5 = w5.setCells p 2 [.string emB, .slice none 0 0, .slice none 0 0] := ⟨_, rfl⟩
  have HW5 := hide hW5
  have hq5 : (w5.setCells p 2 [.string emB, .slice none 0 0, .slice none 0 0]).heap[p]? = some (agO ({ x with t := t } : Ax).bare mb) := by
    simp [World.setCells, World.setCell, Array.getElem?_modify, hp5, Ax.bare]
  have ht5 : Tn (fun k => k = p) w5 W5 := by rw [hW5]; exact tn_cells w5 p 2 _
  rw [← hW5] at hq5
  have d5 : W5.cell? ⟨p, 5, none⟩ = some (.bool false) := by simp [World.cell?, hq5, Ax.bare]
  have e5 := ag_free hq5 5
  obtain ⟨W6, hW6⟩ : ∃ W6, W6 = W5.setCell ⟨p, 5, none⟩ (.bool false) := ⟨_, rfl⟩
  have hp6 : W6.heap[p]? = some (agO ({ x with t := t } : Ax).bare mb) := by
    rw [hW6]; simp [World.setCell, Array.getElem?_modify, hq5, Ax.bare]
  have ht6 : Tn (fun k => k = p) w5 W6 := by rw [hW6]; exact ht5.trans (Tn.set (S := fun k => k = p) _ ⟨p, 5, none⟩ _ rfl)
  have HP6 := hide hp6
  have HT6 := hide (HT5.out.trans (ht6.mono fun k _ h => Or.inl h))
  have HJ6 := hide (HJ5.out.turn ht6 HNE.out)
  have HZ6 := hide (HZ.out W6 HT6.out)
  have HW6 := hide hW6
  have HX : Hid (∀ l, (W6.setCells (w.heap.size + 1) 0 l).heap[p]? = some (agO { x.bare with t := t } mb) ∧ Jar (W6.setCells (w.heap.size + 1) 0 l) mb (cj cn cv cm t) ∧ Tn (AB p mb) w (W6.setCells (w.heap.size + 1) 0 l)) := fun l => by
    have k := tn_cells W6 (w.heap.size + 1) 0 l
    have hpm := HPM.out
    have hTT : Tn (AB p mb) w W6 := HTW.out.trans HT6.out
    exact ⟨(setC_else (by omega) 0).trans HP6.out, HJ6.out.turn k (by show ¬ mb = _; omega), ⟨k.os.trans hTT.os, k.tape.trans hTT.tape, k.output.trans hTT.output, Nat.le_trans hTT.size k.size, fun i hi hS => (k.block i (Nat.lt_of_lt_of_le hi hTT.size) (by omega)).trans (hTT.block i hi hS)⟩⟩
  clear hth hq5 hW6 hp6 ht6 hcell hp5 hW5 ht5
  clear b5 HP4O HT4 HP4 HJ4 cB0 cB1 cB2 cB3 HT5 HP5 HJ5 HZ5
  go_wp2_with (first
    | (refine wpList_store_mid rfl 57 (.tmp 62) (.tmp 59) rfl p 2 #[.string emB, .slice none 0 0, .slice none 0 0] rfl rfl HTH.out sizeP (pg_one) ?_; rw [← HW5.out])
    | (rw [← HW6.out]; refine wpList_store_mid rfl 40 (.tmp 6) (.tmp 65) rfl (w.heap.size + 1) 0 #[.string emB, .string emB, .int .i64 0, .slice none 0 0, .string emB, .bool false] rfl rfl (rq_there HZ6.out) sizeR (rq_one _ _ _ _ _ _ _ _) ?_))
  refine bodyPost_ret (results_ctt (u := .int .i64 0) (v := .nilIface) rfl _ rfl (range_of (l := rqC emB emB 0 (.slice none 0 0) emB false) (rq_set HZ6.out _ _ _ _ _ _)) Tryz.underlying40 rfl sizeR rfl rfl) rfl ⟨rfl, HX.out _⟩
end Go.Proofs.YtlefalplljgkeaaGreatDoor.ag
