import Derived.Test.YtefdofmllgofeaaGreatDoorMAgTk
import Derived.Test.YtefdofmllgofeaaGreatDoorMAgPg
import Derived.Test.YtefdofmllgofeaaGreatDoorMAgWord
import Derived.Test.YtefdofmllgofeaaGreatDoorMAgWord2
import Derived.Test.YtefdofmllgofeaaGreatDoorMStrBase
import Derived.Test.YtefdofmllgofeaaGreatDoorMPickWalk
import Derived.Test.YtefdofmllgofeaaGreatDoorMErrWalks
namespace Go.Proofs.YtefdofmllgofeaaGreatDoor.ag
open Go.ChangeShapes Go.WideShapes Go.ChangeAt Go.RowKit Go.Proofs.YtefdofmllgofeaaGreatDoor.common Go.Maps Go.WideElems
open Go.Proofs.YtefdofmllgofeaaGreatDoor.lst (PB lowB lies_of_own)
open Go.Proofs.YtefdofmllgofeaaGreatDoor.fd (Ev ckTextR X Env6)
open Go.Proofs.YtefdofmllgofeaaGreatDoor.errw (Errs)
attribute [local go_sem ↓] Go.wp_at_zero Go.wp_at_succ

/-- numbers in a slice -/
def LiesI (w : World) (v : Value) (l : List Int) : Prop :=
  ∃ oa cap, v = .slice oa l.length cap ∧ ∀ i (h : i < l.length), ∃ b o, oa = some ⟨b, o, none⟩ ∧ b < w.heap.size ∧ w.cell? ⟨b, o + i, none⟩ = some (.int .i64 l[i])
abbrev hpO (vT vS : Value) (now : Int) : Obj := .cells #[vT, vS, .int .i64 now] 25
theorem hp_cells {w : World} {B : Nat} {vT vS : Value} {now : Int} (h : w.heap[B]? = some (hpO vT vS now)) : w.cell? ⟨B, 0, none⟩ = some vT ∧ w.cell? ⟨B, 1, none⟩ = some vS ∧ w.cell? ⟨B, 2, none⟩ = some (.int .i64 now) := by
  refine ⟨?_, ?_, ?_⟩ <;> simp [World.cell?, h]
/-- the agent behind k answers -/
def ax (t : Int) (k : Nat) : Ax := ⟨t, emB, .slice none 0 0, .slice none 0 0, false, emB, decide (k ≤ 10), if k ≤ 10 then k else 10⟩
theorem ax_next {t : Int} {k : Nat} (h : k < 10) : ({ (ax t k).bare with t := t, wt := true, hp := (ax t k).hp + 1 } : Ax) = ax t (k + 1) := by
  unfold ax Ax.bare
  simp [show k ≤ 10 by omega, show k + 1 ≤ 10 by omega]
theorem ax_last {t : Int} : ({ (ax t 10).bare with t := t } : Ax) = ax t 11 := by
  unfold ax Ax.bare
  simp
theorem tmod_nat (k n : Nat) : (k : Int).tmod (n : Int) = ((k % n : Nat) : Int) := by
  rw [Int.tmod_eq_emod_of_nonneg (by omega)]; rfl
abbrev locB : ByteArray := ⟨#[108, 111, 99, 97, 116, 105, 111, 110]⟩
abbrev slB : ByteArray := ⟨#[47]⟩
abbrev agB : ByteArray := ⟨#[47, 97, 103, 97, 105, 110]⟩
abbrev moB : ByteArray := ⟨#[47, 109, 111, 114, 101]⟩
theorem ck_nil (xm xt : Value) : ckTextR (([] : List Ck).map pc) xm xt = .tuple #[.string emB, .nilIface] := rfl
/-- a list's block and the world, for a region -/
abbrev Sv (B : Nat) (vT : Value) (a : Addr) (u : Value) (W Y : World) : Prop := Y.cell? ⟨B, 0, none⟩ = some vT ∧ Y.cell? a = some u ∧ Hid (Below W.heap.size W Y)
theorem sv_drew {B : Nat} {vT u : Value} {a : Addr} {W Y : World} (h : Sv B vT a u W Y) : Sv B vT a u W Y.drew := ⟨h.1, h.2.1, h.2.2.out.drew⟩
theorem sv_keep {B : Nat} {vT u : Value} {a : Addr} {W Y Z : World} (hB : B < W.heap.size) (ha : a.block < W.heap.size) (h : Sv B vT a u W Y) (hb : Below Y.heap.size Y Z) : Sv B vT a u W Z := by
  have h1 := h.2.2.out.size
  exact ⟨(hb.cell (p := ⟨B, 0, none⟩) (Nat.lt_of_lt_of_le hB h1)).trans h.1, (hb.cell (p := a) (Nat.lt_of_lt_of_le ha h1)).trans h.2.1, keepB h.2.2.out hb⟩
abbrev Sw (B : Nat) (vS : Value) (a : Addr) (u : Value) (W Y : World) : Prop := Y.cell? ⟨B, 1, none⟩ = some vS ∧ Y.cell? a = some u ∧ Hid (Below W.heap.size W Y)
theorem sw_drew {B : Nat} {vT u : Value} {a : Addr} {W Y : World} (h : Sw B vT a u W Y) : Sw B vT a u W Y.drew := ⟨h.1, h.2.1, h.2.2.out.drew⟩
theorem place_sl : place slB.data.toList = true := by decide
theorem place_ag : place agB.data.toList = true := by decide
theorem place_mo : place moB.data.toList = true := by decide

set_option maxRecDepth 100000 in
set_option maxHeartbeats 12800000 in
theorem lawHops (vT vS : Value) (lT : List ByteArray) (lS : List Int) (now : Int) (w : World) (hT : ss.Lies w vT lT) (hS : LiesI w vS lS) (hTz : ∀ s ∈ lT, s.size ≤ reachBytes) (hTl : lT.length ≤ 4611686018427387904) (hSl : lS.length ≤ 4611686018427387904) (hnow : now ≤ 9223372036854775807)
    (e : Nat → Addr) (hE : Errs w e) (hE6 : Env6 w (e 1)) :
    Calls Tryz.prog 3 #[.agg #[vT, vS, .int .i64 now]] w fun x w' => x = .returned (.bool true) ∧ Below w.heap.size w w' := by
  have b1 := al w (hpO vT vS now)
  have hbx := heap_at w (hpO vT vS now)
  obtain ⟨W1, hW1⟩ : ∃ W1, W1 = w.alloc (hpO vT vS now) := ⟨_, rfl⟩
  rw [← hW1] at b1 hbx
  have hE1 := hE.below b1
  have HE0 : Hid (En0 W1 (e 2) (e 1) (e 11)) := ⟨⟨hE1.cell 2 (by decide), hE1.cell 1 (by decide)⟩, hE6.below b1, hE1.cell 11 (by decide)⟩
  have HER := hide hE1
  have HT1 := hide (hT.below b1)
  have HS1 : Hid (LiesI W1 vS lS) := by
    obtain ⟨oa, cap, hv, hc⟩ := hS
    refine ⟨oa, cap, hv, fun i hi => ?_⟩
    obtain ⟨b, o, h1, h2, h3⟩ := hc i hi
    exact ⟨b, o, h1, Nat.lt_of_lt_of_le h2 b1.size, (b1.cell (p := ⟨b, o + i, none⟩) h2).trans h3⟩
  have HBW := hide b1
  have HBX := hide hbx
  have HW1 := hide hW1
  have HBL : Hid (w.heap.size < W1.heap.size) := lt_of hbx
  have HTZ := hide hTz
  have HTN : Hid (Rng64 (max now (max now 0)) ∧ Rng64 (max now 0)) := ⟨⟨by omega, by omega⟩, ⟨by omega, by omega⟩⟩
  have HNW := hide (fun W => new_any W)
  have ht0 : max now (max now 0) = max now 0 := by omega
  obtain ⟨oT, cT, nT, hnT, rfl⟩ : ∃ oa cap n, n = lT.length ∧ vT = .slice oa n cap := by obtain ⟨oa, cap, hv, _⟩ := hT; exact ⟨oa, cap, _, rfl, hv⟩
  obtain ⟨oS, cS, nS, hnS, rfl⟩ : ∃ oa cap n, n = lS.length ∧ vS = .slice oa n cap := by obtain ⟨oa, cap, hv, _⟩ := hS; exact ⟨oa, cap, _, rfl, hv⟩
  have HNT := hide hnT
  have HNS := hide hnS
  rw [← hnT] at hTl
  rw [← hnS] at hSl
  clear hT hS hTz hE hE6 hE1 b1 hbx hW1 hnT hnS
  go_enter Tryz.func3, Tryz.ntmps3
  go_wp2_with fail
  rw [← HW1.out]
  refine (HNW.out W1).mono ?_
  rintro x w2 ⟨p, mb, rfl, hp2, hj2, hpg, hmg, b2⟩
  have HP2 := hide hp2
  have HJ2 := hide hj2
  have HPG := hide (And.intro hpg hmg)
  have HB2 := hide b2
  have HGB : Hid (p ≠ 3 ∧ p ≠ 0 ∧ mb ≠ 3 ∧ mb ≠ 0) := by
    have e1 := HE0.out.env.many.lt
    have e2 := HE0.out.env.text.lt
    exact ⟨by omega, by omega, by omega, by omega⟩
  have HLO : Hid (∀ W, Tn (AB p mb) w2 W → Below W1.heap.size W1 W) := fun W hW => HB2.out.trans (hW.below (n := W1.heap.size) (fun k hk => hk.elim (fun e => e ▸ HPG.out.1) (fun e => e ▸ HPG.out.2)) HB2.out.size)
  have HBC : Hid (∀ W, Below W1.heap.size W1 W → W.cell? ⟨w.heap.size, 0, none⟩ = some (.slice oT nT cT) ∧ W.cell? ⟨w.heap.size, 1, none⟩ = some (.slice oS nS cS) ∧ W.cell? ⟨w.heap.size, 2, none⟩ = some (.int .i64 now)) := fun W hW => hp_cells (blk HBX.out hW)
  have HVI := hide (fun (u : ByteArray) (x : Ax) W (hb : Below W1.heap.size W1 W) (h : W.heap[p]? = some (agO x mb)) (hj : Jar W mb []) (hn : Rng64 (max now x.t)) (hu : place u.data.toList = true) (hus : u.size ≤ 4611686018427387904) =>
    visit_any p mb x [] now u W h hj (fun c h => absurd h (by simp)) hn (by simp [still]) hu hus emB .nilIface (e 2) (e 1) (ck_nil _ _) (by simp [still, fd.tot]) (HE0.out.env.below hb) HGB.out)
  have HTH := hide (fun (st : Int) (n u : ByteArray) (fb : Nat) (x : Ax) W (hb : Below W1.heap.size W1 W) (h : W.heap[p]? = some (agO x mb)) (hw : x.wt = true) (hj : Jar W mb []) (hn : Rng64 (max now x.t)) (hhp : 0 ≤ x.hp ∧ x.hp ≤ 1000) (hst : st = 302 ∨ st = 303) (hf : W.heap[fb]? = some (prO n u)) (hnm : lowB n = lowB loB) (hns : n.size ≤ 140737488355328) (hu : place u.data.toList = true) (hus : u.size ≤ 4611686018427387904) =>
    take_hop W1 (e 2) (e 1) (e 11) HE0.out p mb x [] now st n u fb emB false W hb HPG.out h hw hj (fun c h => absurd h (by simp)) hn (by simp [still]) hhp hst hf hnm hns hu hus emB .nilIface (ck_nil _ _) (by simp [still, fd.tot]))
  have HTL := hide (fun (x : Ax) W (hb : Below W1.heap.size W1 W) (h : W.heap[p]? = some (agO x mb)) (hw : x.wt = false) => take_lost p mb x now 200 (.slice none 0 0) emB false W h hw (e 11) (HE0.out.lost.below hb))
  have HPB := hide (fun (x : Ax) W (h : W.heap[p]? = some (agO x mb)) (h0 : x.ti = emB) (h1 : x.lv = .slice none 0 0) (h2 : x.fv = .slice none 0 0) => page_bare p mb x W h h0 h1 h2)
  have HN3 := hide (fun W (hb : Below W1.heap.size W1 W) => errw.num_2 W e (HER.out.below hb))
  have HN12 := hide (fun W (hb : Below W1.heap.size W1 W) => errw.num_11 W e (HER.out.below hb))
  have HSZ := hide (fun W => sameZ_any W)
  clear hp2 hj2 hpg hmg b2 HNW
  obtain ⟨_, _, cn⟩ := HBC.out w2 HB2.out
  have HV := hide (HVI.out slB zA w2 HB2.out HP2.out HJ2.out HTN.out.2 place_sl (by decide))
  go_wp2_with fail
  refine HV.out.mono ?_
  rintro x w3 ⟨v3, rfl, hp3, hj3, ho3, ht3⟩
  obtain ⟨oa3, cap3, rfl⟩ : ∃ oa cap, v3 = .slice oa (hdL emB).length cap := by
    obtain ⟨oa, cap, hv, _⟩ := lies_of_own ho3
    exact ⟨oa, cap, hv⟩
  obtain ⟨W3, hW3⟩ : ∃ W3, W3 = w3.alloc (rqO getB slB 1 (.slice oa3 (hdL emB).length cap3) emB false) := ⟨_, rfl⟩
  have b3 : Below w3.heap.size w3 W3 := by rw [hW3]; exact al _ _
  have HP3 : Hid (W3.heap[p]? = some (agO (ax (max now 0) 0) mb)) := blk hp3 b3
  have HJ3 : Hid (Jar W3 mb []) := hj3.below b3
  have HT3 : Hid (Tn (AB p mb) w2 W3) := ht3.trans (Tn.of b3)
  have HW3 := hide hW3
  clear hp3 hj3 ho3 ht3 b3 hW3 HV cn
  go_wp2_with fail
  rw [← HW3.out]
  go_loopw [6] (fun i wr => ∃ k : Nat, k ≤ 11 ∧ i = .int .i64 k ∧ Hid (wr.heap[p]? = some (agO (ax (max now 0) k) mb)) ∧ Hid (Jar wr mb []) ∧ Hid (Tn (AB p mb) w2 wr)) (fun i _ => 11 - (intOf i).toNat)
  case atStart => exact ⟨0, by omega, rfl, HP3, HJ3, HT3⟩
  case round =>
    obtain ⟨k, hk, rfl, HP, HJ, HT⟩ := hrel
    clear HP3 HJ3 HT3 HW3 HP2 HJ2
    have HB := hide (HLO.out wr HT.out)
    obtain ⟨cb0, cb1, cb2⟩ := HBC.out wr HB.out
    have k0 : (0 : Int) ≤ (k : Int) := Int.natCast_nonneg _
    by_cases hlt : k ≤ 10
    · have hki : (k : Int) ≤ 10 := by omega
      have hxw : (ax (max now 0) k).wt = true := by unfold ax; simp [hlt]
      have hxh : (ax (max now 0) k).hp = (k : Int) := by unfold ax; simp [hlt]
      have hxt : max now (ax (max now 0) k).t = max now 0 := ht0
      have HX := hide (And.intro hxw (And.intro hxh hxt))
      clear hxw hxh hxt
      by_cases hTe : 0 < nT
      · have hTp : (0 : Int) < (nT : Int) := by omega
        have hmod := tmod_nat k nT
        have hmod2 : (k : Int) % (nT : Int) = ((k % nT : Nat) : Int) := rfl
        have hml : k % nT < lT.length := by rw [← HNT.out]; exact Nat.mod_lt _ (by omega)
        have hml2 : k % nT < nT := Nat.mod_lt _ (by omega)
        have hmi : ((k % nT : Nat) : Int) < (nT : Int) := by omega
        have hm0 : (0 : Int) ≤ ((k % nT : Nat) : Int) := Int.natCast_nonneg _
        have hnz : ¬ (nT : Int) = 0 := by omega
        obtain ⟨bT, aT, sT, rfl, hbT, hcT, hsm⟩ : ∃ b o s, oT = some ⟨b, o, none⟩ ∧ b < W1.heap.size ∧ W1.cell? ⟨b, o + k % nT, none⟩ = some (.string s) ∧ s ∈ lT := by
          obtain ⟨oa, cap, hv, hc⟩ := HT1.out
          obtain ⟨b, o, h1, h2, h3⟩ := hc _ hml
          exact ⟨b, o, _, (Value.slice.inj hv).1.trans h1, h2, h3, List.getElem_mem _⟩
        have hsz : sT.size ≤ reachBytes := HTZ.out _ hsm
        have hce : wr.cell? ⟨bT, aT + k % nT, none⟩ = some (.string sT) := (HB.out.cell (p := ⟨bT, aT + k % nT, none⟩) hbT).trans hcT
        have hlw : bT < wr.heap.size ∧ w.heap.size < wr.heap.size := ⟨Nat.lt_of_lt_of_le hbT HB.out.size, Nat.lt_of_lt_of_le HBL.out HB.out.size⟩
        have HWD := hide (fun W => word_any sT W hsz)
        have HS0 : Sv w.heap.size (.slice (some ⟨bT, aT, none⟩) nT cT) ⟨bT, aT + k % nT, none⟩ (.string sT) wr wr.drew := ⟨cb0, hce, (Below.refl _ _).drew⟩
        clear hcT hbT HT1 HTZ hTe hml hml2 HNT hsm
        have hnz2 : ¬ nT = 0 := by omega
        generalize k % nT = mT at *
        go_upto_region 12 with fail
        go_region_held3 (fun Y => Y.cell? ⟨w.heap.size, 0, none⟩ = some (.slice (some ⟨bT, aT, none⟩) nT cT) ∧ Y.cell? ⟨bT, aT + mT, none⟩ = some (.string sT) ∧ Hid (Below wr.heap.size wr Y))
          (first
            | assumption
            | exact sv_keep hlw.2 hlw.1 (by assumption) (by assumption)
            | exact sv_drew (by assumption))
          (first
            | (go_at_call 6; refine (HWD.out _).mono ?_; rintro y wa ⟨U, rfl, hU, hUs, hU0, ba⟩; have hct1 : ¬ 9223372036854775807 < 1 + U.size := (by unfold reachBytes at hsz; omega); have hct2 : ¬ (9223372036854775807 : Int) < 1 + (U.size : Int) := (by unfold reachBytes at hsz; omega)))
        obtain ⟨V, hV⟩ : ∃ V, V = slB ++ U := ⟨_, rfl⟩
        have HPL : Hid (place V.data.toList = true) := by rw [hV]; exact place_word U hU
        have HVS : Hid (V.size ≤ 4611686018427387904) := by show _ ≤ _; rw [hV, ByteArray.size_append]; unfold reachBytes at hsz; have : slB.size = 1 := rfl; omega
        have bq : Below wr.heap.size wr wa := Below.trans ((Below.refl _ _).drew) ba
        rw [← hV]
        have HTa := hide (HT.out.trans (Tn.of bq))
        have HPa := hide (blk HP.out bq)
        have HJa := hide (HJ.out.below bq)
        clear hV hU hUs hU0 ba bq hct1 hct2 hnz hnz2 hmod hmod2 hmi hm0 hce hlw HS0 HWD hsz HT HP HJ cb0 cb1 cb2 HB
        by_cases hSe : 0 < nS
        · have hSp : (0 : Int) < (nS : Int) := by omega
          have smod := tmod_nat k nS
          have smod2 : (k : Int) % (nS : Int) = ((k % nS : Nat) : Int) := rfl
          have sml : k % nS < lS.length := by rw [← HNS.out]; exact Nat.mod_lt _ (by omega)
          have sml2 : k % nS < nS := Nat.mod_lt _ (by omega)
          have smi : ((k % nS : Nat) : Int) < (nS : Int) := by omega
          have sm0 : (0 : Int) ≤ ((k % nS : Nat) : Int) := Int.natCast_nonneg _
          have snz : ¬ (nS : Int) = 0 := by omega
          obtain ⟨bS, aS, sS, rfl, hbS, hcS⟩ : ∃ b o s, oS = some ⟨b, o, none⟩ ∧ b < W1.heap.size ∧ W1.cell? ⟨b, o + k % nS, none⟩ = some (.int .i64 s) := by
            obtain ⟨oa, cap, hv, hc⟩ := HS1.out
            obtain ⟨b, o, h1, h2, h3⟩ := hc _ sml
            exact ⟨b, o, _, (Value.slice.inj hv).1.trans h1, h2, h3⟩
          have HBa := hide (HLO.out wa HTa.out)
          obtain ⟨_, ca1, _⟩ := HBC.out wa HBa.out
          have sce : wa.cell? ⟨bS, aS + k % nS, none⟩ = some (.int .i64 sS) := (HBa.out.cell (p := ⟨bS, aS + k % nS, none⟩) hbS).trans hcS
          have HPK := hide (fun W => kitw.pick_all sS 2 W (by decide) (by decide))
          obtain ⟨P, hP⟩ : ∃ P, P = kitw.pick sS 2 := ⟨_, rfl⟩
          have hPb : 0 ≤ P ∧ P < 2 := by rw [hP]; exact ⟨(kitw.pick_bounds sS 2).1, (kitw.pick_bounds sS 2).2 (by decide)⟩
          rw [← hP] at HPK
          have swp : IntKind.i64.wrap (302 + P) = 302 + P := bk.wrap_le _ (by omega) (by omega)
          have swq : wrap64 (302 + P) = 302 + P := by unfold wrap64; omega
          have HST : Hid (302 + P = 302 ∨ 302 + P = 303) := by show _ ∨ _; omega
          have HS9 : Sw w.heap.size (.slice (some ⟨bS, aS, none⟩) nS cS) ⟨bS, aS + k % nS, none⟩ (.int .i64 sS) wa wa.drew := ⟨ca1, sce, (Below.refl _ _).drew⟩
          clear hcS hbS HS1 hSe sml sml2 hP hPb HNS
          have snz2 : ¬ nS = 0 := by omega
          generalize k % nS = mS at *
          go_upto_region 15 with fail
          go_region_held3 (fun Y => Y.cell? ⟨w.heap.size, 1, none⟩ = some (.slice (some ⟨bS, aS, none⟩) nS cS) ∧ Y.cell? ⟨bS, aS + mS, none⟩ = some (.int .i64 sS) ∧ Hid (Below wa.heap.size wa Y))
            (first
              | assumption
              | exact sw_drew (by assumption))
            (first
              | (go_at_call 7; refine (HPK.out _).mono ?_; rintro y wb ⟨rfl, rfl⟩))
          have HTb := hide HTa.out.drew
          have HPb : Hid (wa.drew.heap[p]? = some (agO (ax (max now 0) k) mb)) := HPa.out
          have HJb : Hid (Jar wa.drew mb []) := HJa.out.turn (S := fun _ => False) ((Tn.refl _ _).drew) (fun h => h)
          clear HS9 sce ca1 snz snz2 smod smod2 smi sm0 HPK HBa swp swq
          generalize 302 + P = ST at *
          generalize hWD : wa.drew = WD at *
          clear hWD
          have HBb := hide (HLO.out WD HTb.out)
          obtain ⟨_, _, cn⟩ := HBC.out WD HBb.out
          have HK := hide (HTH.out ST locB V WD.heap.size (ax (max now 0) k) (WD.alloc (prO locB V)) (kW HBb.out (al _ _) HBb.out.size) (blk HPb.out (al _ _)) HX.out.1 (HJb.out.below (al _ _)) (by rw [HX.out.2.2]; exact HTN.out.2) (by rw [HX.out.2.1]; omega) HST.out (heap_at _ _) (by decide) (by decide) HPL.out HVS.out)
          rw [HX.out.2.2] at HK
          have HTc := hide (HTb.out.trans (Tn.of (S := AB p mb) (al WD (prO locB V))))
          clear HBb HPL HVS HST
          go_wp2_with fail
          refine HK.out.mono ?_
          rintro x w5 h5
          rcases h5 with ⟨hh, rfl, hp5, hj5, ht5⟩ | ⟨hh, v5, rfl, hp5, hj5, ho5, ht5⟩
          · rw [HX.out.2.1] at hh
            obtain rfl : k = 10 := by omega
            have HTd := hide ((HTc.out.trans ht5).trans (Tn.of (S := AB p mb) (al w5 zR)))
            rw [ax_last] at hp5
            have HPd := hide (blk hp5 (al w5 zR))
            have HJd : Hid (Jar (w5.alloc zR) mb []) := Jar.below hj5 (al w5 zR)
            obtain ⟨r0, r1, r2, r3, r4, r5⟩ := rq_cells (heap_at w5 zR)
            have HZ9 := hide (HSZ.out (w5.alloc zR))
            clear hp5 hj5 ht5 hh HTc HK cn
            go_wp2_with fail
            refine HZ9.out.mono ?_
            rintro x w6 ⟨rfl, b6⟩
            have HTe := hide (HTd.out.trans (Tn.of b6))
            have HPe := hide (blk HPd.out b6)
            have HJe := hide (HJd.out.below b6)
            have HNe := hide (HN3.out w6 (HLO.out w6 HTe.out))
            clear b6 HTd HPd HJd HZ9 r0 r1 r2 r3 r4 r5
            go_wp2_with fail
            refine HNe.out.mono ?_
            rintro x w7 ⟨rfl, h7⟩
            rw [h7]
            clear h7
            go_wp2_with fail
            go_roundw
            case rel =>
              first
                | exact ⟨11, by omega, by go_num, HPe, HJe, HTe⟩
                | ((repeat apply Exists.intro); exact ⟨⟨11, by omega, by go_num, HPe, HJe, HTe⟩, rfl⟩)
            case measure => simp [intOf]
          · rw [HX.out.2.1] at hh
            have hk10 : k < 10 := by omega
            have hki2 : ¬ (k : Int) = 10 := by omega
            have hkd : ((k : Int) == 10) = false := beq_false_of_ne hki2
            rw [ax_next hk10] at hp5
            obtain ⟨oa5, cap5, rfl⟩ : ∃ oa cap, v5 = .slice oa (hdL emB).length cap := by
              obtain ⟨oa, cap, hv, _⟩ := lies_of_own ho5
              exact ⟨oa, cap, hv⟩
            have HTd := hide ((HTc.out.trans ht5).trans (Tn.of (S := AB p mb) (al w5 (rqO getB V 1 (.slice oa5 (hdL emB).length cap5) emB false))))
            have HPd := hide (blk hp5 (al w5 (rqO getB V 1 (.slice oa5 (hdL emB).length cap5) emB false)))
            have HJd : Hid (Jar (w5.alloc (rqO getB V 1 (.slice oa5 (hdL emB).length cap5) emB false)) mb []) := Jar.below hj5 (al w5 _)
            obtain ⟨r0, r1, _⟩ := rq_cells (heap_at w5 (rqO getB V 1 (.slice oa5 (hdL emB).length cap5) emB false))
            clear hp5 hj5 ht5 hh HTc HK cn ho5
            go_wp2_with fail
            go_roundw
            case rel =>
              first
                | exact ⟨k + 1, by omega, by go_num, HPd, HJd, HTd⟩
                | ((repeat apply Exists.intro); exact ⟨⟨k + 1, by omega, by go_num, HPd, HJd, HTd⟩, rfl⟩)
            case measure => simp [intOf]; omega
        · have hSp : ¬ (0 : Int) < (nS : Int) := by omega
          have hSd : decide ((0 : Int) < (nS : Int)) = false := decide_eq_false hSp
          have HBa := hide (HLO.out wa HTa.out)
          obtain ⟨_, ca1, _⟩ := HBC.out wa HBa.out
          have HST : Hid ((302 : Int) = 302 ∨ (302 : Int) = 303) := Or.inl rfl
          clear HS1 hSe HNS
          go_upto_region 16 with fail
          have HTb := HTa
          have HPb := HPa
          have HJb := HJa
          clear HBa ca1
          have HBb := hide (HLO.out wa HTb.out)
          obtain ⟨_, _, cn⟩ := HBC.out wa HBb.out
          have HK := hide (HTH.out 302 locB V wa.heap.size (ax (max now 0) k) (wa.alloc (prO locB V)) (kW HBb.out (al _ _) HBb.out.size) (blk HPb.out (al _ _)) HX.out.1 (HJb.out.below (al _ _)) (by rw [HX.out.2.2]; exact HTN.out.2) (by rw [HX.out.2.1]; omega) HST.out (heap_at _ _) (by decide) (by decide) HPL.out HVS.out)
          rw [HX.out.2.2] at HK
          have HTc := hide (HTb.out.trans (Tn.of (S := AB p mb) (al wa (prO locB V))))
          clear HBb HPL HVS HST
          go_wp2_with fail
          refine HK.out.mono ?_
          rintro x w5 h5
          rcases h5 with ⟨hh, rfl, hp5, hj5, ht5⟩ | ⟨hh, v5, rfl, hp5, hj5, ho5, ht5⟩
          · rw [HX.out.2.1] at hh
            obtain rfl : k = 10 := by omega
            have HTd := hide ((HTc.out.trans ht5).trans (Tn.of (S := AB p mb) (al w5 zR)))
            rw [ax_last] at hp5
            have HPd := hide (blk hp5 (al w5 zR))
            have HJd : Hid (Jar (w5.alloc zR) mb []) := Jar.below hj5 (al w5 zR)
            obtain ⟨r0, r1, r2, r3, r4, r5⟩ := rq_cells (heap_at w5 zR)
            have HZ9 := hide (HSZ.out (w5.alloc zR))
            clear hp5 hj5 ht5 hh HTc HK cn
            go_wp2_with fail
            refine HZ9.out.mono ?_
            rintro x w6 ⟨rfl, b6⟩
            have HTe := hide (HTd.out.trans (Tn.of b6))
            have HPe := hide (blk HPd.out b6)
            have HJe := hide (HJd.out.below b6)
            have HNe := hide (HN3.out w6 (HLO.out w6 HTe.out))
            clear b6 HTd HPd HJd HZ9 r0 r1 r2 r3 r4 r5
            go_wp2_with fail
            refine HNe.out.mono ?_
            rintro x w7 ⟨rfl, h7⟩
            rw [h7]
            clear h7
            go_wp2_with fail
            go_roundw
            case rel =>
              first
                | exact ⟨11, by omega, by go_num, HPe, HJe, HTe⟩
                | ((repeat apply Exists.intro); exact ⟨⟨11, by omega, by go_num, HPe, HJe, HTe⟩, rfl⟩)
            case measure => simp [intOf]
          · rw [HX.out.2.1] at hh
            have hk10 : k < 10 := by omega
            have hki2 : ¬ (k : Int) = 10 := by omega
            have hkd : ((k : Int) == 10) = false := beq_false_of_ne hki2
            rw [ax_next hk10] at hp5
            obtain ⟨oa5, cap5, rfl⟩ : ∃ oa cap, v5 = .slice oa (hdL emB).length cap := by
              obtain ⟨oa, cap, hv, _⟩ := lies_of_own ho5
              exact ⟨oa, cap, hv⟩
            have HTd := hide ((HTc.out.trans ht5).trans (Tn.of (S := AB p mb) (al w5 (rqO getB V 1 (.slice oa5 (hdL emB).length cap5) emB false))))
            have HPd := hide (blk hp5 (al w5 (rqO getB V 1 (.slice oa5 (hdL emB).length cap5) emB false)))
            have HJd : Hid (Jar (w5.alloc (rqO getB V 1 (.slice oa5 (hdL emB).length cap5) emB false)) mb []) := Jar.below hj5 (al w5 _)
            obtain ⟨r0, r1, _⟩ := rq_cells (heap_at w5 (rqO getB V 1 (.slice oa5 (hdL emB).length cap5) emB false))
            clear hp5 hj5 ht5 hh HTc HK cn ho5
            go_wp2_with fail
            go_roundw
            case rel =>
              first
                | exact ⟨k + 1, by omega, by go_num, HPd, HJd, HTd⟩
                | ((repeat apply Exists.intro); exact ⟨⟨k + 1, by omega, by go_num, HPd, HJd, HTd⟩, rfl⟩)
            case measure => simp [intOf]; omega
      · have hTp : ¬ (0 : Int) < (nT : Int) := by omega
        have hTd : decide ((0 : Int) < (nT : Int)) = false := decide_eq_false hTp
        obtain ⟨V, hV⟩ : ∃ V, V = slB := ⟨_, rfl⟩
        have HPL : Hid (place V.data.toList = true) := by rw [hV]; exact place_sl
        have HVS : Hid (V.size ≤ 4611686018427387904) := by show _ ≤ _; rw [hV]; decide
        have HTa := HT
        have HPa := HP
        have HJa := HJ
        clear HT1 HTZ hTe HNT
        go_upto_region 14 with fail
        rw [show Value.string { data := #[47] } = Value.string V from by rw [hV]]
        clear hV HT HP HJ cb0 cb1 cb2 HB
        by_cases hSe : 0 < nS
        · have hSp : (0 : Int) < (nS : Int) := by omega
          have smod := tmod_nat k nS
          have smod2 : (k : Int) % (nS : Int) = ((k % nS : Nat) : Int) := rfl
          have sml : k % nS < lS.length := by rw [← HNS.out]; exact Nat.mod_lt _ (by omega)
          have sml2 : k % nS < nS := Nat.mod_lt _ (by omega)
          have smi : ((k % nS : Nat) : Int) < (nS : Int) := by omega
          have sm0 : (0 : Int) ≤ ((k % nS : Nat) : Int) := Int.natCast_nonneg _
          have snz : ¬ (nS : Int) = 0 := by omega
          obtain ⟨bS, aS, sS, rfl, hbS, hcS⟩ : ∃ b o s, oS = some ⟨b, o, none⟩ ∧ b < W1.heap.size ∧ W1.cell? ⟨b, o + k % nS, none⟩ = some (.int .i64 s) := by
            obtain ⟨oa, cap, hv, hc⟩ := HS1.out
            obtain ⟨b, o, h1, h2, h3⟩ := hc _ sml
            exact ⟨b, o, _, (Value.slice.inj hv).1.trans h1, h2, h3⟩
          have HBa := hide (HLO.out wr HTa.out)
          obtain ⟨_, ca1, _⟩ := HBC.out wr HBa.out
          have sce : wr.cell? ⟨bS, aS + k % nS, none⟩ = some (.int .i64 sS) := (HBa.out.cell (p := ⟨bS, aS + k % nS, none⟩) hbS).trans hcS
          have HPK := hide (fun W => kitw.pick_all sS 2 W (by decide) (by decide))
          obtain ⟨P, hP⟩ : ∃ P, P = kitw.pick sS 2 := ⟨_, rfl⟩
          have hPb : 0 ≤ P ∧ P < 2 := by rw [hP]; exact ⟨(kitw.pick_bounds sS 2).1, (kitw.pick_bounds sS 2).2 (by decide)⟩
          rw [← hP] at HPK
          have swp : IntKind.i64.wrap (302 + P) = 302 + P := bk.wrap_le _ (by omega) (by omega)
          have swq : wrap64 (302 + P) = 302 + P := by unfold wrap64; omega
          have HST : Hid (302 + P = 302 ∨ 302 + P = 303) := by show _ ∨ _; omega
          have HS9 : Sw w.heap.size (.slice (some ⟨bS, aS, none⟩) nS cS) ⟨bS, aS + k % nS, none⟩ (.int .i64 sS) wr wr.drew := ⟨ca1, sce, (Below.refl _ _).drew⟩
          clear hcS hbS HS1 hSe sml sml2 hP hPb HNS
          have snz2 : ¬ nS = 0 := by omega
          generalize k % nS = mS at *
          go_upto_region 15 with fail
          go_region_held3 (fun Y => Y.cell? ⟨w.heap.size, 1, none⟩ = some (.slice (some ⟨bS, aS, none⟩) nS cS) ∧ Y.cell? ⟨bS, aS + mS, none⟩ = some (.int .i64 sS) ∧ Hid (Below wr.heap.size wr Y))
            (first
              | assumption
              | exact sw_drew (by assumption))
            (first
              | (go_at_call 7; refine (HPK.out _).mono ?_; rintro y wb ⟨rfl, rfl⟩))
          have HTb := hide HTa.out.drew
          have HPb : Hid (wr.drew.heap[p]? = some (agO (ax (max now 0) k) mb)) := HPa.out
          have HJb : Hid (Jar wr.drew mb []) := HJa.out.turn (S := fun _ => False) ((Tn.refl _ _).drew) (fun h => h)
          clear HS9 sce ca1 snz snz2 smod smod2 smi sm0 HPK HBa swp swq
          generalize 302 + P = ST at *
          generalize hWD : wr.drew = WD at *
          clear hWD
          have HBb := hide (HLO.out WD HTb.out)
          obtain ⟨_, _, cn⟩ := HBC.out WD HBb.out
          have HK := hide (HTH.out ST locB V WD.heap.size (ax (max now 0) k) (WD.alloc (prO locB V)) (kW HBb.out (al _ _) HBb.out.size) (blk HPb.out (al _ _)) HX.out.1 (HJb.out.below (al _ _)) (by rw [HX.out.2.2]; exact HTN.out.2) (by rw [HX.out.2.1]; omega) HST.out (heap_at _ _) (by decide) (by decide) HPL.out HVS.out)
          rw [HX.out.2.2] at HK
          have HTc := hide (HTb.out.trans (Tn.of (S := AB p mb) (al WD (prO locB V))))
          clear HBb HPL HVS HST
          go_wp2_with fail
          refine HK.out.mono ?_
          rintro x w5 h5
          rcases h5 with ⟨hh, rfl, hp5, hj5, ht5⟩ | ⟨hh, v5, rfl, hp5, hj5, ho5, ht5⟩
          · rw [HX.out.2.1] at hh
            obtain rfl : k = 10 := by omega
            have HTd := hide ((HTc.out.trans ht5).trans (Tn.of (S := AB p mb) (al w5 zR)))
            rw [ax_last] at hp5
            have HPd := hide (blk hp5 (al w5 zR))
            have HJd : Hid (Jar (w5.alloc zR) mb []) := Jar.below hj5 (al w5 zR)
            obtain ⟨r0, r1, r2, r3, r4, r5⟩ := rq_cells (heap_at w5 zR)
            have HZ9 := hide (HSZ.out (w5.alloc zR))
            clear hp5 hj5 ht5 hh HTc HK cn
            go_wp2_with fail
            refine HZ9.out.mono ?_
            rintro x w6 ⟨rfl, b6⟩
            have HTe := hide (HTd.out.trans (Tn.of b6))
            have HPe := hide (blk HPd.out b6)
            have HJe := hide (HJd.out.below b6)
            have HNe := hide (HN3.out w6 (HLO.out w6 HTe.out))
            clear b6 HTd HPd HJd HZ9 r0 r1 r2 r3 r4 r5
            go_wp2_with fail
            refine HNe.out.mono ?_
            rintro x w7 ⟨rfl, h7⟩
            rw [h7]
            clear h7
            go_wp2_with fail
            go_roundw
            case rel =>
              first
                | exact ⟨11, by omega, by go_num, HPe, HJe, HTe⟩
                | ((repeat apply Exists.intro); exact ⟨⟨11, by omega, by go_num, HPe, HJe, HTe⟩, rfl⟩)
            case measure => simp [intOf]
          · rw [HX.out.2.1] at hh
            have hk10 : k < 10 := by omega
            have hki2 : ¬ (k : Int) = 10 := by omega
            have hkd : ((k : Int) == 10) = false := beq_false_of_ne hki2
            rw [ax_next hk10] at hp5
            obtain ⟨oa5, cap5, rfl⟩ : ∃ oa cap, v5 = .slice oa (hdL emB).length cap := by
              obtain ⟨oa, cap, hv, _⟩ := lies_of_own ho5
              exact ⟨oa, cap, hv⟩
            have HTd := hide ((HTc.out.trans ht5).trans (Tn.of (S := AB p mb) (al w5 (rqO getB V 1 (.slice oa5 (hdL emB).length cap5) emB false))))
            have HPd := hide (blk hp5 (al w5 (rqO getB V 1 (.slice oa5 (hdL emB).length cap5) emB false)))
            have HJd : Hid (Jar (w5.alloc (rqO getB V 1 (.slice oa5 (hdL emB).length cap5) emB false)) mb []) := Jar.below hj5 (al w5 _)
            obtain ⟨r0, r1, _⟩ := rq_cells (heap_at w5 (rqO getB V 1 (.slice oa5 (hdL emB).length cap5) emB false))
            clear hp5 hj5 ht5 hh HTc HK cn ho5
            go_wp2_with fail
            go_roundw
            case rel =>
              first
                | exact ⟨k + 1, by omega, by go_num, HPd, HJd, HTd⟩
                | ((repeat apply Exists.intro); exact ⟨⟨k + 1, by omega, by go_num, HPd, HJd, HTd⟩, rfl⟩)
            case measure => simp [intOf]; omega
        · have hSp : ¬ (0 : Int) < (nS : Int) := by omega
          have hSd : decide ((0 : Int) < (nS : Int)) = false := decide_eq_false hSp
          have HBa := hide (HLO.out wr HTa.out)
          obtain ⟨_, ca1, _⟩ := HBC.out wr HBa.out
          have HST : Hid ((302 : Int) = 302 ∨ (302 : Int) = 303) := Or.inl rfl
          clear HS1 hSe HNS
          go_upto_region 16 with fail
          have HTb := HTa
          have HPb := HPa
          have HJb := HJa
          clear HBa ca1
          have HBb := hide (HLO.out wr HTb.out)
          obtain ⟨_, _, cn⟩ := HBC.out wr HBb.out
          have HK := hide (HTH.out 302 locB V wr.heap.size (ax (max now 0) k) (wr.alloc (prO locB V)) (kW HBb.out (al _ _) HBb.out.size) (blk HPb.out (al _ _)) HX.out.1 (HJb.out.below (al _ _)) (by rw [HX.out.2.2]; exact HTN.out.2) (by rw [HX.out.2.1]; omega) HST.out (heap_at _ _) (by decide) (by decide) HPL.out HVS.out)
          rw [HX.out.2.2] at HK
          have HTc := hide (HTb.out.trans (Tn.of (S := AB p mb) (al wr (prO locB V))))
          clear HBb HPL HVS HST
          go_wp2_with fail
          refine HK.out.mono ?_
          rintro x w5 h5
          rcases h5 with ⟨hh, rfl, hp5, hj5, ht5⟩ | ⟨hh, v5, rfl, hp5, hj5, ho5, ht5⟩
          · rw [HX.out.2.1] at hh
            obtain rfl : k = 10 := by omega
            have HTd := hide ((HTc.out.trans ht5).trans (Tn.of (S := AB p mb) (al w5 zR)))
            rw [ax_last] at hp5
            have HPd := hide (blk hp5 (al w5 zR))
            have HJd : Hid (Jar (w5.alloc zR) mb []) := Jar.below hj5 (al w5 zR)
            obtain ⟨r0, r1, r2, r3, r4, r5⟩ := rq_cells (heap_at w5 zR)
            have HZ9 := hide (HSZ.out (w5.alloc zR))
            clear hp5 hj5 ht5 hh HTc HK cn
            go_wp2_with fail
            refine HZ9.out.mono ?_
            rintro x w6 ⟨rfl, b6⟩
            have HTe := hide (HTd.out.trans (Tn.of b6))
            have HPe := hide (blk HPd.out b6)
            have HJe := hide (HJd.out.below b6)
            have HNe := hide (HN3.out w6 (HLO.out w6 HTe.out))
            clear b6 HTd HPd HJd HZ9 r0 r1 r2 r3 r4 r5
            go_wp2_with fail
            refine HNe.out.mono ?_
            rintro x w7 ⟨rfl, h7⟩
            rw [h7]
            clear h7
            go_wp2_with fail
            go_roundw
            case rel =>
              first
                | exact ⟨11, by omega, by go_num, HPe, HJe, HTe⟩
                | ((repeat apply Exists.intro); exact ⟨⟨11, by omega, by go_num, HPe, HJe, HTe⟩, rfl⟩)
            case measure => simp [intOf]
          · rw [HX.out.2.1] at hh
            have hk10 : k < 10 := by omega
            have hki2 : ¬ (k : Int) = 10 := by omega
            have hkd : ((k : Int) == 10) = false := beq_false_of_ne hki2
            rw [ax_next hk10] at hp5
            obtain ⟨oa5, cap5, rfl⟩ : ∃ oa cap, v5 = .slice oa (hdL emB).length cap := by
              obtain ⟨oa, cap, hv, _⟩ := lies_of_own ho5
              exact ⟨oa, cap, hv⟩
            have HTd := hide ((HTc.out.trans ht5).trans (Tn.of (S := AB p mb) (al w5 (rqO getB V 1 (.slice oa5 (hdL emB).length cap5) emB false))))
            have HPd := hide (blk hp5 (al w5 (rqO getB V 1 (.slice oa5 (hdL emB).length cap5) emB false)))
            have HJd : Hid (Jar (w5.alloc (rqO getB V 1 (.slice oa5 (hdL emB).length cap5) emB false)) mb []) := Jar.below hj5 (al w5 _)
            obtain ⟨r0, r1, _⟩ := rq_cells (heap_at w5 (rqO getB V 1 (.slice oa5 (hdL emB).length cap5) emB false))
            clear hp5 hj5 ht5 hh HTc HK cn ho5
            go_wp2_with fail
            go_roundw
            case rel =>
              first
                | exact ⟨k + 1, by omega, by go_num, HPd, HJd, HTd⟩
                | ((repeat apply Exists.intro); exact ⟨⟨k + 1, by omega, by go_num, HPd, HJd, HTd⟩, rfl⟩)
            case measure => simp [intOf]; omega
    · obtain rfl : k = 11 := by omega
      have HBe := HB
      have hx11 : (ax (max now 0) 11).wt = false := rfl
      have HPV : Hid (Calls Tryz.prog 11 #[ptr p] wr fun e w' => e = .returned (.tuple #[pgV, .bool false]) ∧ Below wr.heap.size wr w') := HPB.out (ax (max now 0) 11) wr HP.out rfl rfl rfl
      clear cb0 cb1 cb2 HT1 HS1 HTZ
      go_wp2_with fail
      refine HPV.out.mono ?_
      rintro x w5 ⟨rfl, b5⟩
      have b5' : Below wr.heap.size wr (w5.alloc (.cells #[.string emB, .slice none 0 0, .slice none 0 0] 47)) := kW b5 (al w5 _) b5.size
      have HT5 := hide (HT.out.trans (Tn.of (S := AB p mb) b5'))
      have HP5 := hide (blk HP.out b5')
      have HJ5 := hide (HJ.out.below b5')
      have HB5 := hide (HLO.out _ HT5.out)
      obtain ⟨_, _, cn5⟩ := HBC.out _ HB5.out
      have HL5 := hide (HTL.out (ax (max now 0) 11) _ HB5.out HP5.out hx11)
      clear b5 b5' HPV HP HJ HT HB HBe
      go_wp2_with fail
      refine HL5.out.mono ?_
      rintro x w6 ⟨rfl, b6⟩
      have b6' : Below (w5.alloc (.cells #[.string emB, .slice none 0 0, .slice none 0 0] 47)).heap.size (w5.alloc (.cells #[.string emB, .slice none 0 0, .slice none 0 0] 47)) (w6.alloc zR) := kW b6 (al w6 _) b6.size
      have HT6 := hide (HT5.out.trans (Tn.of (S := AB p mb) b6'))
      have HP6 := hide (blk HP5.out b6')
      have HJ6 := hide (HJ5.out.below b6')
      have HB6 := hide (HLO.out _ HT6.out)
      obtain ⟨_, _, cn6⟩ := HBC.out _ HB6.out
      have HV6 := hide (HVI.out agB (ax (max now 0) 11) _ HB6.out HP6.out HJ6.out (by show Rng64 (max now (max now 0)); exact HTN.out.1) place_ag (by decide))
      clear b6 b6' HL5 HP5 HJ5 HT5 HB5 cn5
      go_wp2_with fail
      refine HV6.out.mono ?_
      rintro x w7 ⟨v7, rfl, hp7, hj7, ho7, ht7⟩
      obtain ⟨oa7, cap7, rfl⟩ : ∃ oa cap, v7 = .slice oa (hdL emB).length cap := by
        obtain ⟨oa, cap, hv, _⟩ := lies_of_own ho7
        exact ⟨oa, cap, hv⟩
      have HT7 := hide ((HT6.out.trans ht7).trans (Tn.of (S := AB p mb) (al w7 (rqO getB agB 1 (.slice oa7 (hdL emB).length cap7) emB false))))
      have HP7 := hide (blk hp7 (al w7 (rqO getB agB 1 (.slice oa7 (hdL emB).length cap7) emB false)))
      have HJ7 : Hid (Jar (w7.alloc (rqO getB agB 1 (.slice oa7 (hdL emB).length cap7) emB false)) mb []) := Jar.below hj7 (al w7 _)
      have HB7 := hide (HLO.out _ HT7.out)
      obtain ⟨_, _, cn7⟩ := HBC.out _ HB7.out
      have hf7 : ((w7.alloc (rqO getB agB 1 (.slice oa7 (hdL emB).length cap7) emB false)).alloc (prO loB moB)).heap[w7.heap.size + 1]? = some (prO loB moB) := by
        have h := heap_at (w7.alloc (rqO getB agB 1 (.slice oa7 (hdL emB).length cap7) emB false)) (prO loB moB)
        rw [World.size_alloc] at h; exact h
      have HK7 := hide (HTH.out 303 loB moB (w7.heap.size + 1) _ ((w7.alloc (rqO getB agB 1 (.slice oa7 (hdL emB).length cap7) emB false)).alloc (prO loB moB)) (kW HB7.out (al _ _) HB7.out.size) (blk HP7.out (al _ _)) rfl (HJ7.out.below (al _ _)) (by show Rng64 (max now (max now (max now 0))); rw [ht0, ht0]; exact HTN.out.2) ⟨by show (0 : Int) ≤ 0; decide, by show (0 : Int) ≤ 1000; decide⟩ (Or.inr rfl) hf7 rfl (by decide) place_mo (by decide))
      have HTc := hide (HT7.out.trans (Tn.of (S := AB p mb) (al _ (prO loB moB))))
      clear hp7 hj7 ho7 ht7 HV6 HP6 HJ6 HT6 HB6 cn6 HP7 HJ7 HT7 HB7 hf7
      go_wp2_with fail
      refine HK7.out.mono ?_
      rintro x w8 h8
      rcases h8 with ⟨hh, rfl, _, _, ht8⟩ | ⟨hh, v8, rfl, _, _, ho8, ht8⟩
      · exact absurd hh (by show ¬ (10 : Int) ≤ 0; decide)
      · obtain ⟨oa8, cap8, rfl⟩ : ∃ oa cap, v8 = .slice oa (hdL emB).length cap := by
          obtain ⟨oa, cap, hv, _⟩ := lies_of_own ho8
          exact ⟨oa, cap, hv⟩
        have HT8 := hide ((HTc.out.trans ht8).trans (Tn.of (S := AB p mb) (al w8 (rqO getB moB 1 (.slice oa8 (hdL emB).length cap8) emB false))))
        have HB8 := hide (HLO.out _ HT8.out)
        have HN8 := hide (HN12.out _ HB8.out)
        have HF := hide (kW HBW.out HB8.out HBW.out.size)
        clear hh ho8 ht8 HTc HK7 cn7
        go_wp2_with fail
        refine HN8.out.mono ?_
        rintro x w9 ⟨rfl, h9⟩
        rw [h9]
        clear h9
        go_wp2_with fail
        go_ret
        exact ⟨rfl, HF.out⟩
end Go.Proofs.YtefdofmllgofeaaGreatDoor.ag
