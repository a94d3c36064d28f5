import Derived.Test.YtlefalplljgkeaaGreatDoorMAgHead
namespace Go.Proofs.YtlefalplljgkeaaGreatDoor.ag
open Go.ChangeShapes Go.WideShapes Go.ChangeAt Go.RowKit Go.Proofs.YtlefalplljgkeaaGreatDoor.common Go.Maps Go.WideElems
open Go.Proofs.YtlefalplljgkeaaGreatDoor.lst (PB Lies cl cl_app cl_len infoP lies_of_own)
attribute [local go_sem ↓] Go.wp_at_zero Go.wp_at_succ

/-- the agent's own blocks -/
abbrev AB (p mb : Nat) (k : Nat) : Prop := k = p ∨ k = mb
theorem Jar.ne {w : World} {p mb : Nat} {x : Ax} {R : List Ck} (hJ : Jar w mb R) (hp : w.heap[p]? = some (agO x mb)) : mb ≠ p := by
  obtain ⟨D, n, ⟨es, clock, hb, _⟩, _⟩ := hJ
  intro e
  rw [e, hp] at hb; cases hb
theorem set_at {w : World} {p mb : Nat} {x : Ax} (h : w.heap[p]? = some (agO x mb)) : ∀ n : Int, (w.setCell ⟨p, 0, none⟩ (.int .i64 n)).heap[p]? = some (agO { x with t := n } mb) := fun n => by
  simp [World.setCell, Array.getElem?_modify, h]
theorem set_7 {w : World} {p mb : Nat} {x : Ax} (h : w.heap[p]? = some (agO x mb)) (b : Bool) : (w.setCell ⟨p, 7, none⟩ (.bool b)).heap[p]? = some (agO { x with wt := b } mb) := by
  simp [World.setCell, Array.getElem?_modify, h]
theorem set_8 {w : World} {p mb : Nat} {x : Ax} (h : w.heap[p]? = some (agO x mb)) (n : Int) : (w.setCell ⟨p, 8, none⟩ (.int .i64 n)).heap[p]? = some (agO { x with hp := n } mb) := by
  simp [World.setCell, Array.getElem?_modify, h]

abbrev St (p mb : Nat) (t : Int) (W X : World) : Prop := X.cell? ⟨p, 0, none⟩ = some (.int .i64 t) ∧ X.cell? ⟨p, 1, none⟩ = some (.map (some mb)) ∧ Hid (Tn (fun k => k = mb) W X)
theorem st_keep {p mb : Nat} {t : Int} {W X Y : World} (hp : p < W.heap.size) (hne : mb ≠ p) (h : St p mb t W X) (hb : Tn (fun k => k = mb) X Y) : St p mb t W Y := by
  have h1 := h.2.2.out.size
  have e : Y.heap[p]? = X.heap[p]? := hb.block p (Nat.lt_of_lt_of_le hp h1) (fun e => hne e.symm)
  exact ⟨(World.cell?_of_block e).trans h.1, (World.cell?_of_block e).trans h.2.1, h.2.2.out.trans hb⟩

set_option maxRecDepth 100000 in
set_option maxHeartbeats 1600000 in
theorem timeOf_any (p mb : Nat) (x : Ax) (now : Int) (w : World) (hp : w.heap[p]? = some (agO x mb)) :
    Calls Tryz.prog 30 #[ptr p, .int .i64 now] w fun e w' => e = .returned (.int .i64 (max now x.t)) ∧ w' = w := by
  obtain ⟨c0, _⟩ := ag_cells hp
  clear hp
  go_enter Tryz.func30, Tryz.ntmps30
  go_wp2_with fail
  go_ret
  exact ⟨rfl, rfl⟩

set_option maxRecDepth 100000 in
set_option maxHeartbeats 3200000 in
theorem goOn_any (p mb : Nat) (x : Ax) (R : List Ck) (now : Int) (w : World) (hp : w.heap[p]? = some (agO x mb)) (hJ : Jar w mb R) (hc : ∀ c ∈ R, Cfit c) (hn : Rng64 (max now x.t)) :
    Calls Tryz.prog 24 #[ptr p, .int .i64 now] w fun e w' => e = .returned (.tuple #[]) ∧ w'.heap[p]? = some (agO { x with t := max now x.t } mb) ∧ Jar w' mb (still R (max now x.t)) ∧ Tn (AB p mb) w w' := by
  have HT := hide (timeOf_any p mb x now w hp)
  have hne := hJ.ne hp
  have hfr := ag_free hp 0
  obtain ⟨c00, _⟩ := ag_cells hp
  obtain ⟨W1, hW1⟩ : ∃ W1, W1 = w.setCell ⟨p, 0, none⟩ (.int .i64 (max now x.t)) := ⟨_, rfl⟩
  have hp1 : W1.heap[p]? = some (agO { x with t := max now x.t } mb) := by rw [hW1]; exact set_at hp _
  have hT1 : Tn (AB p mb) w W1 := by rw [hW1]; exact Tn.set w ⟨p, 0, none⟩ _ (Or.inl rfl)
  have hJ1 : Jar W1 mb R := hJ.turn (S := fun k => k = p) (by rw [hW1]; exact Tn.set w ⟨p, 0, none⟩ _ rfl) hne
  obtain ⟨c0, c1, _⟩ := ag_cells hp1
  have HD := hide (fun W (hW : Below W1.heap.size W1 W) => drop_any mb R (max now x.t) W (hJ1.below hW) hc hn)
  have HP1 := hide hp1
  have HT1 := hide hT1
  have HNE := hide hne
  have HW1 := hide hW1
  have HPL := hide (lt_of hp1)
  clear hp hJ hc hn hp1 hT1 hJ1 hne hW1
  generalize max now x.t = t at *
  go_enter Tryz.func24, Tryz.ntmps24
  go_wp2_with fail
  refine HT.out.mono ?_
  rintro e w0 ⟨rfl, rfl⟩
  go_upto_region 1 with fail
  rw [← HW1.out]
  have HS0 : St p mb t W1 W1.drew := ⟨c0, c1, (Tn.refl _ _).drew⟩
  go_region_held3 (fun X => X.cell? ⟨p, 0, none⟩ = some (.int .i64 t) ∧ X.cell? ⟨p, 1, none⟩ = some (.map (some mb)) ∧ Hid (Tn (fun k => k = mb) W1 X))
    (first
      | assumption
      | exact st_keep HPL.out HNE.out (by assumption) (by assumption))
    (first
      | (go_at_call 40; refine (HD.out _ ((Below.refl _ _).drew)).mono ?_; rintro x wa ⟨rfl, hja, hta⟩))
  have HE : Hid (wa.heap[p]? = some (agO { x with t := t } mb) ∧ Jar wa mb (still R t) ∧ Tn (AB p mb) w0 wa) := by
    refine ⟨hta.keeps (w := W1.drew) HP1.out (fun e => HNE.out e.symm), hja, HT1.out.trans (Tn.trans ((Tn.refl _ _).drew) (hta.mono fun k _ h => Or.inr h))⟩
  clear hja hta HS0 c0 c1
  go_wp2_with fail
  go_end0
  exact ⟨rfl, HE.out⟩

set_option maxRecDepth 100000 in
set_option maxHeartbeats 1600000 in
theorem begin_any (p mb : Nat) (x : Ax) (R : List Ck) (now : Int) (w : World) (hp : w.heap[p]? = some (agO x mb)) (hJ : Jar w mb R) (hc : ∀ c ∈ R, Cfit c) (hn : Rng64 (max now x.t)) :
    Calls Tryz.prog 21 #[ptr p, .int .i64 now] w fun e w' => e = .returned (.tuple #[]) ∧ w'.heap[p]? = some (agO { x with t := max now x.t, wt := true, hp := 0 } mb) ∧ Jar w' mb (still R (max now x.t)) ∧ Tn (AB p mb) w w' := by
  have HG := hide (goOn_any p mb x R now w hp hJ hc hn)
  clear hp hJ hc hn
  generalize max now x.t = t at *
  go_enter Tryz.func21, Tryz.ntmps21
  go_wp2_with fail
  refine HG.out.mono ?_
  rintro e w1 ⟨rfl, hp1, hj1, ht1⟩
  obtain ⟨_, _, c7, c8, _⟩ := ag_cells hp1
  have f7 := ag_free hp1 7
  have hp2 := set_7 hp1 true
  obtain ⟨_, _, d7, d8, _⟩ := ag_cells hp2
  have f8 := ag_free hp2 8
  have HE : Hid (((w1.setCell ⟨p, 7, none⟩ (.bool true)).setCell ⟨p, 8, none⟩ (.int .i64 0)).heap[p]? = some (agO { x with t := t, wt := true, hp := 0 } mb) ∧ Jar ((w1.setCell ⟨p, 7, none⟩ (.bool true)).setCell ⟨p, 8, none⟩ (.int .i64 0)) mb (still R t) ∧ Tn (AB p mb) w ((w1.setCell ⟨p, 7, none⟩ (.bool true)).setCell ⟨p, 8, none⟩ (.int .i64 0))) := by
    have a1 := Tn.set (S := fun k => k = p) w1 ⟨p, 7, none⟩ (.bool true) rfl
    have a2 := Tn.set (S := fun k => k = p) (w1.setCell ⟨p, 7, none⟩ (.bool true)) ⟨p, 8, none⟩ (.int .i64 0) rfl
    exact ⟨set_8 hp2 0, hj1.turn (a1.trans a2) (hj1.ne hp1), ht1.trans ((a1.trans a2).mono fun k _ h => Or.inl h)⟩
  clear hp1 hj1 ht1 hp2
  go_wp2_with fail
  go_end0
  exact ⟨rfl, HE.out⟩
end Go.Proofs.YtlefalplljgkeaaGreatDoor.ag
