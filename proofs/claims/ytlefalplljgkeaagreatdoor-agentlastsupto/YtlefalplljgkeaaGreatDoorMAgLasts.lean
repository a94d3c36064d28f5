import Derived.Test.YtlefalplljgkeaaGreatDoorMPickWalk
import Derived.Test.YtlefalplljgkeaaGreatDoorMSetsLaw
namespace Go.Proofs.YtlefalplljgkeaaGreatDoor.ag
open Go.ChangeShapes Go.WideShapes Go.ChangeAt Go.RowKit Go.Proofs.YtlefalplljgkeaaGreatDoor.common Go.Maps Go.WideElems
open Go.Proofs.YtlefalplljgkeaaGreatDoor.lst (PB Lies lookOf lowB lies_of_own)
open Go.Proofs.YtlefalplljgkeaaGreatDoor.fd (Ev ckTextR X Env6 isCk setB)
attribute [local go_sem ↓] Go.wp_at_zero Go.wp_at_succ

/-- numbers in a slice -/
def LiesI (w : World) (v : Value) (l : List Int) : Prop :=
  ∃ oa cap, v = .slice oa l.length cap ∧ ∀ i (h : i < l.length), ∃ b o, oa = some ⟨b, o, none⟩ ∧ b < w.heap.size ∧ w.cell? ⟨b, o + i, none⟩ = some (.int .i64 l[i])
abbrev bkO (nm vl : ByteArray) (age at_ wt : Int) (vB : Value) : Obj := .cells #[.string nm, .string vl, .int .i64 age, .int .i64 at_, .int .i64 wt, vB] 24
theorem bk_cells {w : World} {B : Nat} {nm vl : ByteArray} {age at_ wt : Int} {vB : Value} (h : w.heap[B]? = some (bkO nm vl age at_ wt vB)) : w.cell? ⟨B, 0, none⟩ = some (.string nm) ∧ w.cell? ⟨B, 1, none⟩ = some (.string vl) ∧ w.cell? ⟨B, 2, none⟩ = some (.int .i64 age) ∧ w.cell? ⟨B, 3, none⟩ = some (.int .i64 at_) ∧ w.cell? ⟨B, 4, none⟩ = some (.int .i64 wt) ∧ w.cell? ⟨B, 5, none⟩ = some vB := by
  refine ⟨?_, ?_, ?_, ?_, ?_, ?_⟩ <;> simp [World.cell?, h]
theorem cko_free {w : World} {F : Nat} {n v : ByteArray} {m : Int} (h : w.heap[F]? = some (ckO n v m)) (j : Nat) : w.frozen? ⟨F, j, none⟩ = false := by simp [World.frozen?, h]
abbrev Sb (B : Nat) (nm vl : ByteArray) (age : Int) (W Y : World) : Prop := Y.cell? ⟨B, 0, none⟩ = some (.string nm) ∧ Y.cell? ⟨B, 1, none⟩ = some (.string vl) ∧ Y.cell? ⟨B, 2, none⟩ = some (.int .i64 age) ∧ Hid (Below W.heap.size W Y)
theorem sb_keep {B : Nat} {nm vl : ByteArray} {age : Int} {W Y Z : World} (hB : B < W.heap.size) (h : Sb B nm vl age W Y) (hb : Below Y.heap.size Y Z) : Sb B nm vl age W Z := by
  have h1 := h.2.2.2.out.size
  have e : ∀ j, Z.cell? ⟨B, j, none⟩ = Y.cell? ⟨B, j, none⟩ := fun j => hb.cell (p := ⟨B, j, none⟩) (Nat.lt_of_lt_of_le hB h1)
  exact ⟨(e _).trans h.1, (e _).trans h.2.1, (e _).trans h.2.2.1, keepB h.2.2.2.out hb⟩
theorem sb_set {B : Nat} {nm vl : ByteArray} {age : Int} {W Y : World} (hB : B < W.heap.size) (h : Sb B nm vl age W Y) {C : Nat} (hC : W.heap.size ≤ C) (l : List Value) : Sb B nm vl age W (Y.setCells C 0 l) := by
  have e : ∀ j, (Y.setCells C 0 l).cell? ⟨B, j, none⟩ = Y.cell? ⟨B, j, none⟩ := fun j => World.cell?_of_block (setC_else (by show B ≠ C; omega) 0)
  exact ⟨(e _).trans h.1, (e _).trans h.2.1, (e _).trans h.2.2.1, setC_below h.2.2.2.out hC l 0⟩
theorem sb_set3 {B : Nat} {nm vl : ByteArray} {age : Int} {W Y : World} (hB : B < W.heap.size) {C : Nat} (hC : W.heap.size ≤ C) (h : Sb B nm vl age W Y) (a b c : Value) : Sb B nm vl age W (((Y.setCell ⟨C, 0, none⟩ a).setCell ⟨C, 1, none⟩ b).setCell ⟨C, 2, none⟩ c) := sb_set hB h hC [a, b, c]
theorem cko_set3 {w : World} {C : Nat} {n v : ByteArray} {m : Int} (h : w.heap[C]? = some (ckO n v m)) (n' v' : ByteArray) (m' : Int) : (((w.setCell ⟨C, 0, none⟩ (.string n')).setCell ⟨C, 1, none⟩ (.string v')).setCell ⟨C, 2, none⟩ (.int .i64 m')).heap[C]? = some (ckO n' v' m') := by
  simp [World.setCell, Array.getElem?_modify, h]
theorem cko_bel {B : Nat} {a w : World} (h : Below B a w) {C : Nat} (hC : B ≤ C) (x y z : Value) : Below B a (((w.setCell ⟨C, 0, none⟩ x).setCell ⟨C, 1, none⟩ y).setCell ⟨C, 2, none⟩ z) := setC_below h hC [x, y, z] 0
/-- the cookie that is set -/
def CkAt (W : World) (M : Int) (c : Value) (wx : World) : Prop :=
  ∃ (C : Nat) (U V : ByteArray), c = ptr C ∧ wx.heap[C]? = some (ckO U V M) ∧ W.heap.size ≤ C ∧ Letters U.data.toList ∧ 0 < U.size ∧ Crumbs V.data.toList ∧ U.size ≤ 1048577 ∧ V.size ≤ 1048576 ∧ Below W.heap.size W wx

set_option maxRecDepth 100000 in
set_option maxHeartbeats 12800000 in
theorem lawLasts (nm vl : ByteArray) (age at0 wt0 : Int) (vB : Value) (lB : List Int) (w : World) (hL : LiesI w vB lB) (hnm : nm.size ≤ 1048576) (hvl : vl.size ≤ 1048576) (hBl : lB.length ≤ 4611686018427387904) (hBr : ∀ x ∈ lB, x ≤ 9223372036854775807) (hage : age ≤ 9223372036854775807)
    (am at_ al_ : Addr) (hE0 : En0 w am at_ al_) :
    Calls Tryz.prog 3 #[.agg #[.string nm, .string vl, .int .i64 age, .int .i64 at0, .int .i64 wt0, vB]] w fun x w' => x = .returned (.bool true) ∧ Below w.heap.size w w' := by
  have b1 := al w (bkO nm vl age at0 wt0 vB)
  have hbx := heap_at w (bkO nm vl age at0 wt0 vB)
  obtain ⟨W1, hW1⟩ : ∃ W1, W1 = w.alloc (bkO nm vl age at0 wt0 vB) := ⟨_, rfl⟩
  rw [← hW1] at b1 hbx
  have HE0 : Hid (En0 W1 am at_ al_) := ⟨hE0.env.below b1, hE0.e6.below b1, hE0.lost.below b1⟩
  have HLB : Hid (LiesI W1 vB lB) := by
    obtain ⟨oa, cap, hv, hc⟩ := hL
    refine ⟨oa, cap, hv, fun i hi => ?_⟩
    obtain ⟨b, o, h1, h2, h3⟩ := hc i hi
    exact ⟨b, o, h1, Nat.lt_of_lt_of_le h2 b1.size, (b1.cell (p := ⟨b, o + i, none⟩) h2).trans h3⟩
  have HBW := hide b1
  have HBX := hide hbx
  have HW1 := hide hW1
  have HBL : Hid (w.heap.size < W1.heap.size) := lt_of hbx
  have HBR := hide hBr
  have HNW := hide (fun W => new_any W)
  obtain ⟨oB, cB, nB, hnB, rfl⟩ : ∃ oa cap n, n = lB.length ∧ vB = .slice oa n cap := by obtain ⟨oa, cap, hv, _⟩ := hL; exact ⟨oa, cap, _, rfl, hv⟩
  have HNB := hide hnB
  rw [← hnB] at hBl
  have HPA := hide (fun W => kitw.pick_all at0 1099511627776 W (by decide) (by decide))
  have HPW := hide (fun W => kitw.pick_all wt0 1099511627776 W (by decide) (by decide))
  have hA := kitw.pick_bounds at0 1099511627776
  have hWt := kitw.pick_bounds wt0 1099511627776
  obtain ⟨A, hAe⟩ : ∃ A, A = kitw.pick at0 1099511627776 := ⟨_, rfl⟩
  obtain ⟨T, hTe⟩ : ∃ T, T = kitw.pick wt0 1099511627776 := ⟨_, rfl⟩
  rw [← hAe] at HPA hA
  rw [← hTe] at HPW hWt
  have hA0 : 0 ≤ A ∧ A < 1099511627776 := ⟨hA.1, hA.2 (by decide)⟩
  have hT0 : 0 ≤ T ∧ T < 1099511627776 := ⟨hWt.1, hWt.2 (by decide)⟩
  have HWO := hide (fun W => word_any nm W (by unfold reachBytes; omega))
  have HCR := hide (fun W => crumb_any vl W (by unfold reachBytes; omega))
  clear hL hBr hE0 b1 hbx hW1 hnB hA hWt hAe hTe
  go_enter Tryz.func3, Tryz.ntmps3
  go_wp2_with fail
  rw [← HW1.out]
  refine (HNW.out W1).mono ?_
  rintro x w2 ⟨p, mb, rfl, hp2, hj2, hpg, hmg, b2⟩
  have HP2 := hide hp2
  have HJ2 := hide hj2
  have HPG := hide (And.intro hpg hmg)
  have HPGX := HPG
  have HB2 := hide b2
  have HGB : Hid (p ≠ 1 ∧ p ≠ 0 ∧ mb ≠ 1 ∧ mb ≠ 0) := by
    have e1 := HE0.out.env.many.lt
    have e2 := HE0.out.env.text.lt
    exact ⟨by omega, by omega, by omega, by omega⟩
  have HBC : Hid (∀ W, Below W1.heap.size W1 W → W.heap[w.heap.size]? = some (bkO nm vl age at0 wt0 (.slice oB nB cB))) := fun W hW => blk HBX.out hW
  obtain ⟨q0, q1, q2, q3, q4, _⟩ := bk_cells (HBC.out w2 HB2.out)
  have hw12 : w.heap.size < w2.heap.size := Nat.lt_of_lt_of_le HBL.out HB2.out.size
  clear hp2 hj2 hpg hmg b2 HNW
  go_wp2_with fail
  refine (HPA.out _).mono ?_
  rintro y wa ⟨rfl, h0⟩
  rw [h0]
  clear h0
  go_wp2_with fail
  refine (HPW.out _).mono ?_
  rintro y wb ⟨rfl, h0⟩
  rw [h0]
  clear h0
  go_upto_region 6 with fail
  have HS0 : Sb w.heap.size nm vl age w2 w2.drew := ⟨q0, q1, q2, (Below.refl _ _).drew⟩
  go_cut [6] (fun c wx => CkAt w2 (max age (-1)) c wx)
  case first =>
    clear HE0 HLB HBX HW1 HBR HNB HPA HPW hA0 hT0 HP2 HJ2 HPG HGB HBC hBl hage q3 q4
    go_region_held3 (fun X => X.cell? ⟨w.heap.size, 0, none⟩ = some (.string nm) ∧ X.cell? ⟨w.heap.size, 1, none⟩ = some (.string vl) ∧ X.cell? ⟨w.heap.size, 2, none⟩ = some (.int .i64 age) ∧ Hid (Below w2.heap.size w2 X))
      (first
        | assumption
        | exact sb_keep hw12 (by assumption) (by assumption)
        | exact sb_keep hw12 (by assumption) (al _ _)
        | exact sb_set3 hw12 (by first | assumption | exact Nat.le_refl _) (by assumption) _ _ _)
      (first
        | (go_at_call 6; refine (HWO.out _).mono ?_; rintro y wa ⟨U, rfl, hU, hUs, hU0, ba⟩; have hTa : Sb w.heap.size nm vl age w2 wa := sb_keep hw12 (by assumption) ba; have hBa : Below w2.heap.size w2 wa := hTa.2.2.2.out; have hSa := hBa.size; first | (have hza := blk (p := w2.heap.size) (o := ckO emB emB 0) (heap_at w2.drew (ckO emB emB 0)) ba; obtain ⟨z0, z1, z2⟩ := cko_cells hza; have zf0 := cko_free hza 0; have zf1 := cko_free hza 1; have zf2 := cko_free hza 2) | (have hza := blk (o := ckO emB emB 0) (heap_at _ _) ba; obtain ⟨z0, z1, z2⟩ := cko_cells hza; have zf0 := cko_free hza 0; have zf1 := cko_free hza 1; have zf2 := cko_free hza 2) | (have hza := blk (o := ckO emB emB 0) (by assumption) ba; obtain ⟨z0, z1, z2⟩ := cko_cells hza; have zf0 := cko_free hza 0; have zf1 := cko_free hza 1; have zf2 := cko_free hza 2) | skip)
        | (go_at_call 7; refine (HCR.out _).mono ?_; rintro y wb ⟨V, rfl, hV, hVs, bb⟩; have hTb : Sb w.heap.size nm vl age w2 wb := sb_keep hw12 (by assumption) bb; have hBb : Below w2.heap.size w2 wb := hTb.2.2.2.out; have hSb := hBb.size; first | (have hzb := blk (p := w2.heap.size) (o := ckO emB emB 0) (heap_at w2.drew (ckO emB emB 0)) bb; obtain ⟨z0, z1, z2⟩ := cko_cells hzb; have zf0 := cko_free hzb 0; have zf1 := cko_free hzb 1; have zf2 := cko_free hzb 2) | (have hzb := blk (o := ckO emB emB 0) (heap_at _ _) bb; obtain ⟨z0, z1, z2⟩ := cko_cells hzb; have zf0 := cko_free hzb 0; have zf1 := cko_free hzb 1; have zf2 := cko_free hzb 2) | (have hzb := blk (o := ckO emB emB 0) (by assumption) bb; obtain ⟨z0, z1, z2⟩ := cko_cells hzb; have zf0 := cko_free hzb 0; have zf1 := cko_free hzb 1; have zf2 := cko_free hzb 2) | skip))
    all_goals
      go_wp2_with fail
      go_meet
      case rel =>
        unfold CkAt
        refine ⟨_, U, V, rfl, ?_, ?_, hU, hU0, hV, by omega, by omega, ?_⟩
        · first
            | with_reducible exact heap_at _ _
            | with_reducible exact cko_set3 hzb _ _ _
            | with_reducible exact cko_set3 hza _ _ _
        · first
            | assumption
            | exact Nat.le_refl _
        · first
            | with_reducible exact kW hBb (al _ _) hSb
            | with_reducible exact kW hBa (al _ _) hSa
            | with_reducible exact cko_bel hBb (by first | assumption | exact Nat.le_refl _) _ _ _
            | with_reducible exact cko_bel hBa (by first | assumption | exact Nat.le_refl _) _ _ _
  case rest =>
    obtain ⟨C, U, V, rfl, hC, hC2, hU, hU0, hV, hUs, hVs, hbc⟩ := hcut
    obtain ⟨M, hM⟩ : ∃ M, M = max age (-1) := ⟨_, rfl⟩
    rw [← hM] at hC
    have hM0 : -1 ≤ M ∧ M ≤ 9223372036854775807 := by omega
    have hck := ck_of hU hU0 hV
    have HGD := hide (good_of hck hM0.1 hM0.2)
    have hpl := lt_of HP2.out
    have hml := HJ2.out.lt
    have hCp : C ≠ p ∧ C ≠ mb := ⟨by omega, by omega⟩
    have HCp := hide hCp
    have HLO : Hid (∀ W, Tn (AB p mb) wc W → Below W1.heap.size W1 W) := fun W hW => (kW HB2.out hbc HB2.out.size).trans (hW.below (n := W1.heap.size) (fun k hk => hk.elim (fun e => e ▸ HPG.out.1) (fun e => e ▸ HPG.out.2)) (Nat.le_trans HB2.out.size hbc.size))
    have HCK : Hid (∀ W, Tn (AB p mb) wc W → W.heap[C]? = some (ckO U V M)) := fun W hW => hW.keeps hC (fun h => h.elim hCp.1 hCp.2)
    have HPc := hide (blk HP2.out hbc)
    have HJc := hide (HJ2.out.below hbc)
    obtain ⟨S1, hS1⟩ : ∃ S1, S1 = setB U V M := ⟨_, rfl⟩
    obtain ⟨J1, hJ1⟩ : ∃ J1, J1 = fd.joinB [(U, V)] := ⟨_, rfl⟩
    have hin : fd.inR M := ⟨by omega, by omega⟩
    have HSC : Hid (∀ W, Below W1.heap.size W1 W → Calls Tryz.prog 8 #[.agg #[.string U, .string V, .int .i64 M]] W fun e w' => e = .returned (.tuple #[.string S1, .nilIface]) ∧ Below W.heap.size W w') := fun W hW => by
      have h := fd.setCookie_any U V M W hin (by omega) (HE0.out.e6.below hW).pow (X at_) ((HE0.out.env.below hW).text)
      rw [if_pos hck, ← hS1] at h
      exact h
    have HCT : Hid (∀ v W, Below W1.heap.size W1 W → Lies W v [(U, V)] → Calls Tryz.prog 9 #[v] W fun e w' => e = .returned (.tuple #[.string J1, .nilIface]) ∧ Below W.heap.size W w') := fun v W hW hl => by
      have h := fd.cookieText_any v [(U, V)] W hl (by simp [fd.tot]; omega) (X am) (X at_) ((HE0.out.env.below hW).many) ((HE0.out.env.below hW).text)
      rw [ctext_one hck, ← hJ1] at h
      exact h
    have HJ0 : Hid (0 < J1.size) := by
      show 0 < _
      rw [hJ1, ← sz_list]
      show 0 < (fd.joinL [(U, V)]).length
      have h := fd.joinL_snoc [] (U, V)
      rw [List.nil_append] at h
      rw [h, List.length_append, List.length_append, sz_list]
      have := fd.ckB_size U V
      show 0 < _ + (_ + (fd.ckB U V).size)
      omega
    have HSS : Hid (S1.size ≤ 4194304) := by
      show _ ≤ _
      have := fd.attrB_size M hin
      rw [hS1]; unfold setB
      rw [ByteArray.size_append, fd.ckB_size]; omega
    have HCX : Hid (∀ xm xt, ckTextR [(U, V)] xm xt = .tuple #[.string J1, .nilIface]) := fun xm xt => by rw [hJ1]; exact ctext_one hck xm xt
    have HGS : Hid (fd.Good S1.data.toList U V M) := by rw [hS1]; exact HGD.out
    have HLK := hide (fun v (l : List PB) W (hl : Lies W v l) (hs : l.length ≤ 4611686018427387904) (hz : ∀ q ∈ l, q.1.size ≤ 140737488355328) => lst.look_any v l coB W hl hs hz)
    have HTA : Hid (Rng64 (max A 0) ∧ Rng64 (max A A) ∧ Rng64 (max (A + T) A)) := ⟨⟨by omega, by omega⟩, ⟨by omega, by omega⟩, ⟨by omega, by omega⟩⟩
    obtain ⟨c0, c1, c2⟩ := cko_cells hC
    have HS2 := hide (HSC.out wc (kW HB2.out hbc HB2.out.size))
    have hbw := hbc.size
    clear hC hbc hCp hck hS1 hJ1 hin HGD HP2 HJ2 HPG hM HSC HS0 q0 q1 q2 q3 q4 HWO HCR
    go_wp2_with fail
    refine HS2.out.mono ?_
    rintro x w3 ⟨rfl, b3⟩
    have HT3 := hide (Tn.of (S := AB p mb) b3)
    obtain ⟨c0, c1, c2⟩ := cko_cells (HCK.out w3 HT3.out)
    have HT4 := hide (HT3.out.trans (Tn.of (S := AB p mb) (al w3 (prO U V))))
    have HC4 := hide (HCT.out (.slice (some ⟨w3.heap.size, 0, none⟩) 1 1) _ (HLO.out _ HT4.out) (pr_lies (heap_at w3 (prO U V))))
    have HP3 := hide (blk HPc.out b3)
    have HJ3 := hide (HJc.out.below b3)
    clear b3 HS2 HPc HJc HCT HT3
    go_wp2_with fail
    refine HC4.out.mono ?_
    rintro x w5 ⟨rfl, b5⟩
    have HT5 := hide (HT4.out.trans (Tn.of (S := AB p mb) b5))
    have HP5 := hide (blk (blk HP3.out (al w3 (prO U V))) b5)
    have HJ5 := hide ((HJ3.out.below (al w3 (prO U V))).below b5)
    have HV5 := hide (visit_any p mb zA [] A ⟨#[47]⟩ w5 HP5.out HJ5.out (fun c h => absurd h (by simp)) HTA.out.1 (by simp [still]) (by decide) (by decide) emB .nilIface am at_ rfl (by simp [still, fd.tot]) (HE0.out.env.below (HLO.out w5 HT5.out)) HGB.out)
    clear b5 HC4 HT4 HP3 HJ3 HP5 HJ5
    go_wp2_with fail
    refine HV5.out.mono ?_
    rintro x w6 ⟨v6, rfl, hp6, hj6, ho6, ht6⟩
    obtain ⟨oa6, cap6, rfl⟩ : ∃ oa cap, v6 = .slice oa 1 cap := by
      obtain ⟨oa, cap, hv, _⟩ := lies_of_own ho6
      exact ⟨oa, cap, hv⟩
    have a6 := al w6 (rqO getB ⟨#[47]⟩ 1 (.slice oa6 1 cap6) emB false)
    have HT6 := hide ((HT5.out.trans ht6).trans (Tn.of (S := AB p mb) a6))
    have HP6 := hide (blk hp6 a6)
    have HJ6 : Hid (Jar (w6.alloc (rqO getB ⟨#[47]⟩ 1 (.slice oa6 1 cap6) emB false)) mb []) := Jar.below hj6 a6
    have HL6 := hide (HLK.out (.slice oa6 1 cap6) (hdL emB) _ ((lies_of_own ho6).below a6) (by decide) (by decide))
    rw [look_none0] at HL6
    obtain ⟨_, _, _, r3, _⟩ := rq_cells (heap_at w6 (rqO getB ⟨#[47]⟩ 1 (.slice oa6 1 cap6) emB false))
    have HR6 := hide (heap_at w6 (rqO getB ⟨#[47]⟩ 1 (.slice oa6 1 cap6) emB false))
    clear hp6 hj6 ho6 ht6 a6 HV5 HT5
    go_wp2_with fail
    refine HL6.out.mono ?_
    rintro x w7 ⟨rfl, b7⟩
    have HT7 := hide (HT6.out.trans (Tn.of (S := AB p mb) b7))
    have HP7 := hide (blk HP6.out b7)
    have HJ7 := hide (HJ6.out.below b7)
    obtain ⟨_, _, _, r3, _⟩ := rq_cells (blk HR6.out b7)
    have HB7 := hide (HLO.out w7 HT7.out)
    have a7 := al w7 (prO ⟨#[83, 69, 84, 45, 99, 111, 111, 107, 105, 101]⟩ S1)
    have HK7 := hide (take_stay W1 am at_ al_ HE0.out p mb _ [] A ⟨#[83, 69, 84, 45, 99, 111, 111, 107, 105, 101]⟩ S1 U V M w7.heap.size emB false (w7.alloc (prO ⟨#[83, 69, 84, 45, 99, 111, 111, 107, 105, 101]⟩ S1)) (kW HB7.out a7 HB7.out.size) HPGX.out (blk HP7.out a7) rfl (HJ7.out.below a7) (fun c h => absurd h (by simp)) (by show Rng64 (max A (max A 0)); rw [show max A (max A 0) = max A A by omega]; exact HTA.out.2.1) (by simp [still]) (heap_at _ _) (by decide) (by decide) HSS.out HGS.out (by omega) (by omega))
    have HT8 := hide (HT7.out.trans (Tn.of (S := AB p mb) a7))
    clear b7 a7 HL6 HT6 HP6 HJ6 HR6 HT7 HP7 HJ7 HB7
    go_wp2_with fail
    refine HK7.out.mono ?_
    rintro x w8 ⟨rfl, hp8, hj8, ht8⟩
    obtain ⟨Y, hYt, hYw, hp8'⟩ : ∃ Y : Ax, Y.t = A ∧ True ∧ w8.heap[p]? = some (agO Y mb) := ⟨_, (show max A (max A 0) = A by omega), trivial, hp8⟩
    have hj8' : Jar w8 mb (cj U V M A) := by
      have h : Jar w8 mb (cj U V M (max A (max A 0))) := hj8
      rwa [show max A (max A 0) = A by omega] at h
    have a8 := al w8 zR
    have HT9 := hide ((HT8.out.trans ht8).trans (Tn.of (S := AB p mb) a8))
    have HP9 := hide (blk hp8' a8)
    have HJ9 := hide (hj8'.below a8)
    have HFT : Hid (∀ c ∈ cj U V M A, Cfit c) := fun c hc => by
      unfold cj at hc
      split at hc
      · cases hc
      · simp at hc; rw [hc]; exact ⟨hM0.2, hA0.1, by show A ≤ _; omega⟩
    have HL1 : Hid (∀ t, (still (cj U V M A) t).length ≤ 1) := fun t => by
      refine Nat.le_trans (List.length_filter_le _ _) ?_
      unfold cj; split <;> simp
    have HYT := hide hYt
    clear hp8 hj8 ht8 hp8' hj8' a8 HK7 HT8 hYt hYw r3
    obtain ⟨R, hR⟩ : ∃ R, R = cj U V M A := ⟨_, rfl⟩
    rw [← hR] at HJ9 HFT HL1
    have HRE := hide hR
    clear hR
    go_wp2_with fail
    generalize w8.alloc zR = w9 at *
    go_loopw [18] (fun i wr => ∃ k : Nat, k ≤ nB ∧ i = .int .i64 k ∧ Hid (wr.heap[p]? = some (agO Y mb)) ∧ Hid (Jar wr mb R) ∧ Hid (Tn (AB p mb) wc wr)) (fun i _ => nB - (intOf i).toNat)
    case atStart => exact ⟨0, Nat.zero_le _, rfl, HP9, HJ9, HT9⟩
    case round =>
      obtain ⟨k, hk, rfl, HP, HJ, HT⟩ := hrel
      clear HP9 HJ9 HT9
      have HB := hide (HLO.out wr HT.out)
      obtain ⟨_, _, _, _, _, cb5⟩ := bk_cells (HBC.out wr HB.out)
      have k0 : (0 : Int) ≤ (k : Int) := Int.natCast_nonneg _
      by_cases hlt : k < nB
      · have hki : (k : Int) < (nB : Int) := by omega
        obtain ⟨bB, aB, sB, rfl, hbB, hcB, hsm⟩ : ∃ b o s, oB = some ⟨b, o, none⟩ ∧ b < W1.heap.size ∧ W1.cell? ⟨b, o + k, none⟩ = some (.int .i64 s) ∧ s ∈ lB := by
          obtain ⟨oa, cap, hv, hc⟩ := HLB.out
          obtain ⟨b, o, h1, h2, h3⟩ := hc k (by rw [← HNB.out]; exact hlt)
          exact ⟨b, o, _, (Value.slice.inj hv).1.trans h1, h2, h3, List.getElem_mem _⟩
        have hce : wr.cell? ⟨bB, aB + k, none⟩ = some (.int .i64 sB) := (HB.out.cell (p := ⟨bB, aB + k, none⟩) hbB).trans hcB
        have hsb := HBR.out sB hsm
        have HJR := hide (jar_any p mb Y R sB wr HP.out HJ.out HFT.out (by rw [HYT.out]; exact ⟨by omega, by omega⟩) (HL1.out _))
        clear hcB hbB hsm
        go_wp2_with fail
        refine HJR.out.mono ?_
        rintro x wa ⟨vj, rfl, hoj, bj⟩
        have HPa := hide (blk HP.out bj)
        have HJa := hide (HJ.out.below bj)
        have HTa := hide (HT.out.trans (Tn.of (S := AB p mb) bj))
        clear hoj bj HJR HP HJ HT HB cb5 hce
        go_wp2_with fail
        go_roundw
        case rel => exact ⟨k + 1, by omega, by go_num, HPa, HJa, HTa⟩
        case measure => simp [intOf]; omega
      · have hkn : k = nB := by omega
        obtain ⟨_, _, cM⟩ := cko_cells (HCK.out wr HT.out)
        have sw1 : IntKind.i64.wrap (A + T) = A + T := bk.wrap_le _ (by omega) (by omega)
        have sw2 : wrap64 (A + T) = A + T := by unfold wrap64; omega
        have hmx : max (A + T) Y.t = A + T := by rw [HYT.out]; omega
        have hrg : Rng64 (A + T) := ⟨by omega, by omega⟩
        have HJR := hide (jar_any p mb Y R (A + T) wr HP.out HJ.out HFT.out (by rw [hmx]; exact hrg) (HL1.out _))
        rw [hmx] at HJR
        have HVX : Hid (∀ (J : ByteArray) (W : World), Below W1.heap.size W1 W → W.heap[p]? = some (agO Y mb) → Jar W mb R → ckTextR ((still R (A + T)).map pc) (X am) (X at_) = .tuple #[.string J, .nilIface] → fd.tot ((still R (A + T)).map pc) ≤ 140737488355328 → Calls Tryz.prog 10 #[ptr p, .int .i64 (A + T), .string ⟨#[47, 120]⟩] W fun e w' => ∃ v, e = .returned (.tuple #[rqV getB ⟨#[47, 120]⟩ 1 v emB false, .nilIface]) ∧ w'.ownsRow W.heap.size 37 2 v (hdL J).length (lst.cl (hdL J)) ∧ Tn (AB p mb) W w') := fun J W hb hp hj hT hs =>
          (visit_any p mb Y R (A + T) ⟨#[47, 120]⟩ W hp hj HFT.out (by rw [hmx]; exact hrg) (HL1.out _) (by decide) (by decide) J .nilIface am at_ (by rw [hmx]; exact hT) (by rw [hmx]; exact hs) (HE0.out.env.below hb) HGB.out).mono fun e w' ⟨v, h1, _, _, h2, h3⟩ => ⟨v, h1, h2, h3⟩
        have hnlt : ¬ (k : Int) < (nB : Int) := by omega
        have hcs : ((M < 0 ∨ (¬ M < 0 ∧ T < M)) ∧ still R (A + T) = [⟨U, V, M, A⟩]) ∨ ((¬ M < 0 ∧ ¬ T < M) ∧ still R (A + T) = []) := by
          rw [HRE.out]
          by_cases h : M < 0 ∨ T < M
          · refine Or.inl ⟨by omega, ?_⟩
            have h0 : ¬ M = 0 := by omega
            unfold cj still
            rw [if_neg h0]
            have : (⟨U, V, M, A⟩ : Ck).lasts (A + T) = true := by unfold Ck.lasts; simp; omega
            simp [this]
          · refine Or.inr ⟨by omega, ?_⟩
            unfold cj still
            split
            · rfl
            · have : (⟨U, V, M, A⟩ : Ck).lasts (A + T) = false := by unfold Ck.lasts; simp; omega
              simp [this]
        clear hmx hrg HLB HBR HNB
        rcases hcs with ⟨hl, hst⟩ | ⟨hl, hst⟩
        · rcases hl with hl | hl
          · rw [hst] at HJR HVX
            have hd1 : decide (M < 0) = true := decide_eq_true hl
            have HVE := hide (fun W h1 h2 h3 => HVX.out J1 W h1 h2 h3 (by show ckTextR [(U, V)] _ _ = _; exact HCX.out _ _) (by show fd.tot [(U, V)] ≤ _; simp [fd.tot]; omega))
            clear HVX
            go_wp2_with fail
            refine HJR.out.mono ?_
            rintro x wa ⟨vj, rfl, hoj, bj⟩
            obtain ⟨oj, cj', rfl⟩ : ∃ oa cap, vj = .slice oa 1 cap := by
              obtain ⟨oa, cap, hv, _⟩ := lies_of_own hoj
              exact ⟨oa, cap, hv⟩
            have HTa := hide (HT.out.trans (Tn.of (S := AB p mb) bj))
            have HOJ : Hid (wa.ownsRow wr.heap.size 37 2 (.slice oj 1 cj') 1 (lst.cl [(U, V)])) := hoj
            have hwr : p < wr.heap.size ∧ mb < wr.heap.size := ⟨lt_of HP.out, HJ.out.lt⟩
            have HV9 := hide (HVE.out wa (HLO.out wa HTa.out) (blk HP.out bj) (HJ.out.below bj))
            clear hoj bj HJR HP HJ HT HB cb5 cM
            go_wp2_with fail
            refine HV9.out.mono ?_
            rintro x wb ⟨v9, rfl, ho9, ht9⟩
            obtain ⟨oa9, cap9, rfl⟩ : ∃ oa cap, v9 = .slice oa 2 cap := by
              obtain ⟨oa, cap, hv, _⟩ := lies_of_own ho9
              rw [hd_some HJ0.out] at hv
              exact ⟨oa, cap, hv⟩
            have a9 := al wb (rqO getB ⟨#[47, 120]⟩ 1 (.slice oa9 2 cap9) emB false)
            have HTb := hide ((HTa.out.trans ht9).trans (Tn.of (S := AB p mb) a9))
            have HL9 := hide (HLK.out (.slice oa9 2 cap9) (hdL J1) _ ((lies_of_own ho9).below a9) (by rw [hd_some HJ0.out]; show (2 : Nat) ≤ _; decide) (by rw [hd_some HJ0.out]; intro q hq; simp at hq; rcases hq with rfl | rfl; (show (4 : Nat) ≤ _; decide); (show (6 : Nat) ≤ _; decide)))
            rw [look_some HJ0.out] at HL9
            obtain ⟨_, r1, _, r3, _⟩ := rq_cells (heap_at wb (rqO getB ⟨#[47, 120]⟩ 1 (.slice oa9 2 cap9) emB false))
            have HR9 := hide (heap_at wb (rqO getB ⟨#[47, 120]⟩ 1 (.slice oa9 2 cap9) emB false))
            have HO9 : Hid (Lies (wb.alloc (rqO getB ⟨#[47, 120]⟩ 1 (.slice oa9 2 cap9) emB false)) (.slice oj 1 cj') [(U, V)]) := (lies_of_own (l := [(U, V)]) (own_heap HOJ.out fun g hg => ht9.block g (own_cells HOJ.out hg).1 (fun h => by have := bk.own_ge HOJ.out g hg; rcases h with h | h <;> omega))).below a9
            clear ho9 ht9 a9 HV9 HTa HOJ
            go_wp2_with fail
            refine HL9.out.mono ?_
            rintro x wd ⟨rfl, bd⟩
            obtain ⟨_, r1, _, r3, _⟩ := rq_cells (blk HR9.out bd)
            have HTd := hide (HTb.out.trans (Tn.of (S := AB p mb) bd))
            obtain ⟨x0, x1, x2⟩ := cko_cells (HCK.out wd HTd.out)
            have HHS := hide (has_one (.slice oj 1 cj') U V wd (HO9.out.below bd))
            have HF := hide (kW HBW.out (HLO.out wd (HTb.out.trans (Tn.of (S := AB p mb) bd))) HBW.out.size)
            clear bd HL9 HTb HR9 HO9 HTd
            go_wp2_with fail
            refine HHS.out.mono ?_
            rintro x we ⟨rfl, h9⟩
            rw [h9]
            clear h9
            go_wp2_with fail
            go_ret
            exact ⟨rfl, HF.out⟩
          · rw [hst] at HJR HVX
            obtain ⟨hl1, hl2⟩ := hl
            have hd1 : decide (M < 0) = false := decide_eq_false hl1
            have hd2 : decide (T < M) = true := decide_eq_true hl2
            have HVE := hide (fun W h1 h2 h3 => HVX.out J1 W h1 h2 h3 (by show ckTextR [(U, V)] _ _ = _; exact HCX.out _ _) (by show fd.tot [(U, V)] ≤ _; simp [fd.tot]; omega))
            clear HVX
            go_wp2_with fail
            refine HJR.out.mono ?_
            rintro x wa ⟨vj, rfl, hoj, bj⟩
            obtain ⟨oj, cj', rfl⟩ : ∃ oa cap, vj = .slice oa 1 cap := by
              obtain ⟨oa, cap, hv, _⟩ := lies_of_own hoj
              exact ⟨oa, cap, hv⟩
            have HTa := hide (HT.out.trans (Tn.of (S := AB p mb) bj))
            have HOJ : Hid (wa.ownsRow wr.heap.size 37 2 (.slice oj 1 cj') 1 (lst.cl [(U, V)])) := hoj
            have hwr : p < wr.heap.size ∧ mb < wr.heap.size := ⟨lt_of HP.out, HJ.out.lt⟩
            have HV9 := hide (HVE.out wa (HLO.out wa HTa.out) (blk HP.out bj) (HJ.out.below bj))
            clear hoj bj HJR HP HJ HT HB cb5 cM
            go_wp2_with fail
            refine HV9.out.mono ?_
            rintro x wb ⟨v9, rfl, ho9, ht9⟩
            obtain ⟨oa9, cap9, rfl⟩ : ∃ oa cap, v9 = .slice oa 2 cap := by
              obtain ⟨oa, cap, hv, _⟩ := lies_of_own ho9
              rw [hd_some HJ0.out] at hv
              exact ⟨oa, cap, hv⟩
            have a9 := al wb (rqO getB ⟨#[47, 120]⟩ 1 (.slice oa9 2 cap9) emB false)
            have HTb := hide ((HTa.out.trans ht9).trans (Tn.of (S := AB p mb) a9))
            have HL9 := hide (HLK.out (.slice oa9 2 cap9) (hdL J1) _ ((lies_of_own ho9).below a9) (by rw [hd_some HJ0.out]; show (2 : Nat) ≤ _; decide) (by rw [hd_some HJ0.out]; intro q hq; simp at hq; rcases hq with rfl | rfl; (show (4 : Nat) ≤ _; decide); (show (6 : Nat) ≤ _; decide)))
            rw [look_some HJ0.out] at HL9
            obtain ⟨_, r1, _, r3, _⟩ := rq_cells (heap_at wb (rqO getB ⟨#[47, 120]⟩ 1 (.slice oa9 2 cap9) emB false))
            have HR9 := hide (heap_at wb (rqO getB ⟨#[47, 120]⟩ 1 (.slice oa9 2 cap9) emB false))
            have HO9 : Hid (Lies (wb.alloc (rqO getB ⟨#[47, 120]⟩ 1 (.slice oa9 2 cap9) emB false)) (.slice oj 1 cj') [(U, V)]) := (lies_of_own (l := [(U, V)]) (own_heap HOJ.out fun g hg => ht9.block g (own_cells HOJ.out hg).1 (fun h => by have := bk.own_ge HOJ.out g hg; rcases h with h | h <;> omega))).below a9
            clear ho9 ht9 a9 HV9 HTa HOJ
            go_wp2_with fail
            refine HL9.out.mono ?_
            rintro x wd ⟨rfl, bd⟩
            obtain ⟨_, r1, _, r3, _⟩ := rq_cells (blk HR9.out bd)
            have HTd := hide (HTb.out.trans (Tn.of (S := AB p mb) bd))
            obtain ⟨x0, x1, x2⟩ := cko_cells (HCK.out wd HTd.out)
            have HHS := hide (has_one (.slice oj 1 cj') U V wd (HO9.out.below bd))
            have HF := hide (kW HBW.out (HLO.out wd (HTb.out.trans (Tn.of (S := AB p mb) bd))) HBW.out.size)
            clear bd HL9 HTb HR9 HO9 HTd
            go_wp2_with fail
            refine HHS.out.mono ?_
            rintro x we ⟨rfl, h9⟩
            rw [h9]
            clear h9
            go_wp2_with fail
            go_ret
            exact ⟨rfl, HF.out⟩
        · rw [hst] at HJR HVX
          obtain ⟨hl1, hl2⟩ := hl
          have hd1 : decide (M < 0) = false := decide_eq_false hl1
          have hd2 : decide (T < M) = false := decide_eq_false hl2
          have HVE := hide (fun W h1 h2 h3 => HVX.out emB W h1 h2 h3 rfl (by decide))
          clear HVX
          go_wp2_with fail
          refine HJR.out.mono ?_
          rintro x wa ⟨vj, rfl, hoj, bj⟩
          obtain ⟨oj, cj', rfl⟩ : ∃ oa cap, vj = .slice oa 0 cap := by
            obtain ⟨oa, cap, hv, _⟩ := lies_of_own hoj
            exact ⟨oa, cap, hv⟩
          have HTa := hide (HT.out.trans (Tn.of (S := AB p mb) bj))
          have HV9 := hide (HVE.out wa (HLO.out wa HTa.out) (blk HP.out bj) (HJ.out.below bj))
          clear hoj bj HJR HP HJ HT HB cb5 cM
          go_wp2_with fail
          refine HV9.out.mono ?_
          rintro x wb ⟨v9, rfl, ho9, ht9⟩
          obtain ⟨oa9, cap9, rfl⟩ : ∃ oa cap, v9 = .slice oa 1 cap := by
            obtain ⟨oa, cap, hv, _⟩ := lies_of_own ho9
            exact ⟨oa, cap, hv⟩
          have a9 := al wb (rqO getB ⟨#[47, 120]⟩ 1 (.slice oa9 1 cap9) emB false)
          have HTb := hide ((HTa.out.trans ht9).trans (Tn.of (S := AB p mb) a9))
          have HL9 := hide (HLK.out (.slice oa9 1 cap9) (hdL emB) _ ((lies_of_own ho9).below a9) (by decide) (by decide))
          rw [look_none0] at HL9
          obtain ⟨_, r1, _, r3, _⟩ := rq_cells (heap_at wb (rqO getB ⟨#[47, 120]⟩ 1 (.slice oa9 1 cap9) emB false))
          have HR9 := hide (heap_at wb (rqO getB ⟨#[47, 120]⟩ 1 (.slice oa9 1 cap9) emB false))
          clear ho9 ht9 a9 HV9 HTa
          go_wp2_with fail
          refine HL9.out.mono ?_
          rintro x wd ⟨rfl, bd⟩
          obtain ⟨_, r1, _, r3, _⟩ := rq_cells (blk HR9.out bd)
          have HF := hide (kW HBW.out (HLO.out wd (HTb.out.trans (Tn.of (S := AB p mb) bd))) HBW.out.size)
          clear bd HL9 HTb HR9
          go_wp2_with fail
          go_ret
          exact ⟨rfl, HF.out⟩
end Go.Proofs.YtlefalplljgkeaaGreatDoor.ag
