import Derived.Test.YticncaoecoehkaaDoorWlScan
import Derived.Test.YticncaoecoehkaaDoorWlRw
import Derived.Test.YticncaoecoehkaaDoorWlRefS
import Derived.Test.YticncaoecoehkaaDoorAppKeep
namespace Go.Proofs.YticncaoecoehkaaDoor.wl
open Go.ChangeShapes Go.WideShapes Go.ChangeAt Go.RowKit Go.Proofs.YticncaoecoehkaaDoor.common Go.Proofs.YticncaoecoehkaaDoor.dk

set_option maxRecDepth 100000 in
set_option maxHeartbeats 3200000 in
theorem frames_callN (v1 : Value) (K bd N : Nat) (l : List UInt8) (hl : l.length ≤ 4611686018427387904) (v : Value) (W : World) (hbx : Boxed W bd 22 v) (hR : Rc W v l) (hK : 0 < l.length → ∀ a m c, v = .slice (some a) m c → a.block < K) (ht : crcw.Tab W) (hG : 13 < K) (hN : N ≤ W.heap.size) (hKW : K ≤ W.heap.size)
    (J Jx : List It → World → Prop) (hJb : ∀ pre A A', J pre A → Below A.heap.size A A' → J pre A')
    (hY : ∀ pre x A, J pre A → Kp K bd W A → ps (pre ++ [x]) <+: Wl.scan l → Fresh N l.length pre x A → Calls Tryd.prog 24 #[.int .i64 (x.e : Int), x.v, v1] A fun e A' => (e = .returned (.bool true) ∧ J (pre ++ [x]) A' ∧ Kp K bd A A') ∨ (e = .returned (.bool false) ∧ Jx (pre ++ [x]) A'))
    (h0 : J [] W) :
    Calls Tryd.prog 46 #[.func (.func 24) #[] #[v1], .pointer (some ⟨bd, 0, none⟩)] W fun e W' => e = .returned (.tuple #[]) ∧ ((∃ xs, ps xs = Wl.scan l ∧ J xs W') ∨ (∃ pre, Jx pre W')) := by
  have HENV : Hid (∀ Y, Kp K bd W Y → Boxed Y bd 22 v ∧ Rc Y v l ∧ crcw.Tab Y) := fun Y hY => by
    refine ⟨(hY.2 bd (Or.inr rfl)).trans hbx, ?_, fun i hi => ?_⟩
    · obtain ⟨oa, cap, rfl, hc, hr⟩ := hR
      refine ⟨oa, cap, rfl, hc, fun h0 => ?_⟩
      obtain ⟨g, o, rfl, hg, hr⟩ := hr h0
      exact ⟨g, o, rfl, Nat.lt_of_lt_of_le hg hY.1, range_block hr (hY.2 g (Or.inl (hK h0 _ _ _ rfl)))⟩
    · rw [← ht i hi]
      exact World.cell?_of_block (hY.2 _ (Or.inl hG))
  obtain ⟨oa, cap, rfl, hcap, _⟩ := hR
  have HN := hide hN
  have HK1 : Hid (Kp K bd W W) := ⟨Nat.le_refl _, fun _ _ => rfl⟩
  have HKW : Hid (∀ k, k < K ∨ k = bd → k < W.heap.size) := fun k hk => by
    rcases hk with h | h
    · omega
    · rw [h]; exact (Array.getElem?_eq_some_iff.1 hbx).1
  clear hbx ht hG hK hN
  go_enter Tryd.func46, Tryd.ntmps46
  go_wp2_with fail
  go_loopw [3] (fun i wr => ∃ (pre : List It) (r : List UInt8), l = Wl.flat (ps pre) ++ r ∧ (∀ q ∈ ps pre, Wl.fit q.length = true) ∧ i = .int .i64 ((Wl.flat (ps pre)).length : Int) ∧ Kp K bd W wr ∧ N ≤ wr.heap.size ∧ (∀ y ∈ pre, y.g < wr.heap.size) ∧ J pre wr) (fun i _ => l.length - (intOf i).toNat)
  case atStart => exact ⟨[], l, rfl, by simp [ps], rfl, HK1.out, HN.out, by simp, h0⟩
  case round =>
    obtain ⟨pre, r, hlr, hft, rfl, hkp, hN, hpg, hJ⟩ := hrel
    obtain ⟨hbx, hRc, htb⟩ := HENV.out wr hkp
    have cb := hbx.cell
    obtain ⟨e, he⟩ : ∃ e, e = (Wl.flat (ps pre)).length := ⟨_, rfl⟩
    have hel : e ≤ l.length := by rw [he, hlr, List.length_append]; omega
    have hrd : l.drop e = r := by rw [he, hlr, List.drop_left]
    have k0 : (0 : Int) ≤ (e : Int) := Int.natCast_nonneg _
    have k1 : (e : Int) ≤ (l.length : Int) := by omega
    have k2 : (l.length : Int) ≤ (cap : Int) := by omega
    have HFI : Hid (∀ oa', (∀ g o, oa = some ⟨g, o, none⟩ → ¬ cap = e → oa' = some ⟨g, o + e, none⟩) → Calls Tryd.prog 47 #[.slice oa' (l.length - e) (cap - e)] wr fun e w' => ∃ v', e = .returned (.tuple #[v', .bool (fiB r)]) ∧ (fiB r = false → v' = .slice none 0 0) ∧ (fiB r = true → ∃ g, wr.heap.size ≤ g ∧ v' = .slice (some ⟨g, 0, none⟩) (fiL r).length (fiL r).length ∧ Nw w' g (fiL r)) ∧ Below wr.heap.size wr w') := fun oa' ho => by
      have h1 := Rc.from hRc e hel oa' ho
      rw [hrd] at h1
      exact first_any wr _ r h1 (by rw [← hrd, List.length_drop]; omega) htb
    rw [← he]
    have HLR := hide hlr
    have HFT := hide hft
    have HE := hide he
    have HRD := hide hrd
    have HJ := hide hJ
    have HKP := hide hkp
    have HNW := hide hN
    have HPG := hide hpg
    have HBX := hide hbx
    clear hlr hft he hrd hkp hN hpg hbx hRc htb
    by_cases hce : cap = e
    · have hr0 : r = [] := by rw [← HRD.out]; exact List.drop_eq_nil_of_le (by omega)
      have hfb : fiB r = false := by rw [hr0]; rfl
      have hf0 : Wl.first r = none := by rw [hr0]; exact Wl.first_nil
      subst hce
      have hcc : cap - cap = 0 := Nat.sub_self _
      have hF := HFI.out oa (fun g o _ h => absurd rfl h)
      rw [hfb, hcc, show l.length - cap = 0 by omega] at hF
      have HF := hide hF
      clear hF HFI
      go_wp2_with fail
      refine HF.out.mono ?_
      rintro r' w2 ⟨v', rfl, hv0, _, b2⟩
      obtain rfl := hv0 (by trivial)
      go_wp2_with fail
      refine bodyPost_ret (results_none rfl _ _ _) rfl ?_
      exact ⟨rfl, .inl ⟨pre, (Wl.scan_eq ⟨HLR.out, HFT.out, hf0⟩).symm, hJb _ _ _ HJ.out b2⟩⟩
    · have hce' : ¬ cap - e = 0 := by omega
      have hF := HFI.out (Option.map (fun x : Addr => x.add e) oa) (fun g o h _ => by rw [h]; show some (Addr.add _ _) = _; rw [Addr.add_mid])
      have HF := hide hF
      clear hF HFI
      go_wp2_with fail
      refine HF.out.mono ?_
      rintro r' w2 ⟨v', rfl, hv0, hv1, b2⟩
      cases hfb : fiB r with
      | false =>
        have hf0 : Wl.first r = none := by
          unfold fiB at hfb
          cases hq : Wl.first r with
          | none => rfl
          | some q => rw [hq] at hfb; cases hfb
        obtain rfl := hv0 hfb
        go_wp2_with fail
        refine bodyPost_ret (results_none rfl _ _ _) rfl ?_
        exact ⟨rfl, .inl ⟨pre, (Wl.scan_eq ⟨HLR.out, HFT.out, hf0⟩).symm, hJb _ _ _ HJ.out b2⟩⟩
      | true =>
        obtain ⟨g, hg, rfl, hnw⟩ := hv1 hfb
        obtain ⟨p, hp⟩ : ∃ p, p = fiL r := ⟨_, rfl⟩
        have hf0 : Wl.first r = some p := by
          unfold fiB at hfb
          unfold fiL at hp
          cases hq : Wl.first r with
          | none => rw [hq] at hfb; cases hfb
          | some q => rw [hq] at hp; rw [hp]; rfl
        rw [← hp] at hnw ⊢
        obtain ⟨hpf, hpr⟩ := Wl.first_some hf0
        have hple := Wl.first_le hf0
        have hpl := (Wl.fit_iff _).1 hpf
        obtain ⟨E, hE⟩ : ∃ E, E = e + (8 + p.length) := ⟨_, rfl⟩
        have hrl : r.length = l.length - e := by rw [← HRD.out, List.length_drop]
        have hEi : (e : Int) + (8 + (p.length : Int)) = (E : Int) := by omega
        have hEl : E ≤ l.length := by omega
        have HJ2 := hJb _ _ _ HJ.out b2
        have hflat : Wl.flat (ps (pre ++ [⟨E, g, p⟩])) = Wl.flat (ps pre) ++ Wl.fr p := by rw [ps_snoc, Wl.flat_snoc]
        have hE2 : E = (Wl.flat (ps (pre ++ [⟨E, g, p⟩]))).length := by rw [hflat, List.length_append, Wl.fr_len, ← HE.out, hE]
        have hfresh : Fresh N l.length pre ⟨E, g, p⟩ w2 := ⟨hEl, hE2, hnw, fun y hy => Nat.lt_of_lt_of_le (HPG.out y hy) hg, Nat.le_trans HNW.out hg, hpf⟩
        have HKP2 : Hid (Kp K bd W w2) := ⟨Nat.le_trans HKP.out.1 b2.size, fun k hk => (b2.block k (Nat.lt_of_lt_of_le (HKW.out k hk) HKP.out.1)).trans (HKP.out.2 k hk)⟩
        have HG2 : Hid (g < w2.heap.size) := (Array.getElem?_eq_some_iff.1 hnw).1
        have HPG2 : Hid (∀ y ∈ pre ++ [(⟨E, g, p⟩ : It)], y.g < w2.heap.size) := fun y hy => by
          rcases List.mem_append.1 hy with h | h
          · exact Nat.lt_of_lt_of_le (HPG.out y h) b2.size
          · rw [List.mem_singleton.1 h]; exact HG2.out
        have HNW2 : Hid (N ≤ w2.heap.size) := Nat.le_trans HNW.out b2.size
        have HX : Hid (l = Wl.flat (ps (pre ++ [⟨E, g, p⟩])) ++ r.drop (8 + p.length)) := by
          show _ = _
          rw [hflat, List.append_assoc, ← hpr]; exact HLR.out
        have HFT2 : Hid (∀ q ∈ ps (pre ++ [(⟨E, g, p⟩ : It)]), Wl.fit q.length = true) := fun q hq => by
          rw [ps_snoc] at hq
          rcases List.mem_append.1 hq with h | h
          · exact HFT.out q h
          · rw [List.mem_singleton.1 h]; exact hpf
        have HE2 := hide hE2
        have hpre : ps (pre ++ [⟨E, g, p⟩]) <+: Wl.scan l := by
          obtain ⟨u, hu⟩ := Wl.scan_good (r.drop (8 + p.length))
          have h1 : Wl.Good l (ps (pre ++ [⟨E, g, p⟩]) ++ Wl.scan (r.drop (8 + p.length))) u := ⟨by rw [Wl.flat_append, List.append_assoc, ← hu.eq]; exact HX.out, fun q hq => by
            rcases List.mem_append.1 hq with h | h
            · exact HFT2.out q h
            · exact hu.fits q h, hu.torn⟩
          exact ⟨_, (Wl.scan_eq h1).symm⟩
        have HYY := hide (hY pre ⟨E, g, p⟩ w2 HJ2 HKP2.out hpre hfresh)
        simp only [It.v] at HYY
        clear hpre hp hfb hv0 hv1 hnw hf0 hpr hfresh hE2 hflat b2 hE
        go_wp2_with fail
        refine HYY.out.mono ?_
        rintro r' W3 (⟨rfl, hJ3, hk3⟩ | ⟨rfl, hJx3⟩)
        · go_wp2_with fail
          go_roundw
          case rel => exact ⟨pre ++ [⟨E, g, p⟩], r.drop (8 + p.length), HX.out, HFT2.out, by rw [← HE2.out], ⟨Nat.le_trans HKP2.out.1 hk3.1, fun k hk => (hk3.2 k hk).trans (HKP2.out.2 k hk)⟩, Nat.le_trans HNW2.out hk3.1, fun y hy => Nat.lt_of_lt_of_le (HPG2.out y hy) hk3.1, hJ3⟩
          case measure => simp [intOf]; omega
        · go_wp2_with fail
          refine bodyPost_ret (results_none rfl _ _ _) rfl ?_
          exact ⟨rfl, .inr ⟨_, hJx3⟩⟩
end Go.Proofs.YticncaoecoehkaaDoor.wl

namespace Go.Proofs.YticncaoecoehkaaDoor.wl
open Go.ChangeShapes Go.WideShapes Go.ChangeAt Go.RowKit Go.Proofs.YticncaoecoehkaaDoor.common Go.Proofs.YticncaoecoehkaaDoor.dk

/-- what lies in the law's list of what was handed to its function -/
def WkJ (N bw : Nat) (W0 : World) (pre : List It) (A : World) : Prop :=
  (∃ v, Boxed A bw 28 v ∧ A.ownsRow N 22 1 v pre.length (pre.map It.v)) ∧ Fr [bw] W0 A ∧ N ≤ A.heap.size ∧ Its A N pre
theorem wkJ_below {N bw : Nat} {W0 : World} {pre : List It} {A A' : World} (h : WkJ N bw W0 pre A) (hb : Below A.heap.size A A') : WkJ N bw W0 pre A' := by
  obtain ⟨⟨v, hv, hr⟩, hf, hs, hi⟩ := h
  exact ⟨⟨v, (hb.block _ (Array.getElem?_eq_some_iff.1 hv).1).trans hv, own_below hr hb⟩, hf.next hb, Nat.le_trans hs hb.size, its_keep hi fun x hx => hb.block _ (Array.getElem?_eq_some_iff.1 (hi.1 x hx).1).1⟩

set_option maxRecDepth 100000 in
set_option maxHeartbeats 3200000 in
theorem eachN_any (N bw K bd : Nat) (W0 A : World) (pre : List It) (x : It) (L : Nat) (hJ : WkJ N bw W0 pre A) (hx : Fresh N L pre x A) (hN : W0.heap.size = N) (hbw : bw < N) (hn : pre.length ≤ 1048576) (hK : K ≤ bw) (hbd : bd ≠ bw ∧ bd < N) :
    Calls Tryd.prog 24 #[.int .i64 (x.e : Int), x.v, .pointer (some ⟨bw, 0, none⟩)] A fun e A' => e = .returned (.bool true) ∧ WkJ N bw W0 (pre ++ [x]) A' ∧ Kp K bd A A' := by
  obtain ⟨i0, hi, hz0, hz1, hz2⟩ := info_parts infoL
  obtain ⟨⟨v, hv, hrow⟩, hf, hs, hits⟩ := hJ
  obtain ⟨fx0, fx1, fx2, fx3, fx4, fx5⟩ := hx
  have hc := hv.cell
  have hpos : ((0 : Int) < (x.e : Int)) := by
    have h1 : x.e = ends (pre ++ [x]) := fx1
    have h2 : ends (pre ++ [x]) = ends pre + (8 + x.p.length) := by unfold ends; rw [ps_snoc, Wl.flat_snoc, List.length_append, Wl.fr_len]
    omega
  have HV := hide hv
  have HROW := hide hrow
  have HF := hide hf
  have HI := hide hits
  have HN := hide hN
  obtain ⟨ov, cv, hov⟩ : ∃ ov cv, v = .slice ov pre.length cv := by
    rcases hrow.2 with ⟨rfl, h0⟩ | ⟨g, cap, cur, rfl, _⟩
    · exact ⟨none, 0, by rw [h0]⟩
    · exact ⟨_, cap, rfl⟩
  subst hov
  obtain ⟨xe, xg, xp⟩ := x
  simp only [It.v]
  have F2 := hide fx2
  have F3 := hide fx3
  have F4 := hide fx4
  clear hv hrow hf hits hN fx0 fx1 fx2 fx3 fx4 fx5
  go_enter Tryd.func24, Tryd.ntmps24
  go_wp2_with (at_builtin; refine wpList_append_own _ rfl _ _ 28 rfl N 22 i0 (.slice none 0 0) 1 24 Tryd.underlying28 hi hz0 hz1 hz2 rfl (by decide) _ _ _ rfl (HROW.out.alloc _) ⟨A.heap.size, 0, none⟩ 1 1 [.slice (some ⟨xg, 0, none⟩) xp.length xp.length] rfl rfl ?c1 ?c2 ?c3 ?c4 ?c5 ?_)
  try (case c1 => exact cell_one_new _ _ _)
  case c2 => first | rfl | (intro u hu; simp at hu; subst hu; rfl)
  case c3 => unfold maxLen; omega
  case c4 => omega
  case c5 => first | omega | (simp; omega)
  intro v' w1 hown' hgrow _
  have own : ∀ j, Value.ownBlock (.slice ov pre.length cv) = some j → N ≤ j := own_ge HROW.out
  have hv1 : Boxed w1 bw 28 (.slice ov pre.length cv) := (HV.out.alloc _).kept hgrow (fun ej => by have := own bw ej.symm; omega)
  have hc1 := hv1.cell
  have hf1 := hv1.frozen
  obtain ⟨g', cap', rfl⟩ := ownsRow_succ hown'
  have kept1 : ∀ j, j < A.heap.size → (∀ cs t' fr, A.heap[j]? = some (.cells cs t' fr) → t' ≠ 22 ∨ j < N) → w1.heap[j]? = A.heap[j]? := fun j hj hne => by
    rw [hgrow.block j (by simp; omega) (fun ej => ?_), Below.heap_alloc A _ j hj]
    rcases HROW.out.2 with ⟨h0, _⟩ | ⟨g, cap, cur, h0, hg, hgb, _⟩
    · rw [h0] at ej; cases ej
    · rw [h0] at ej
      cases ej
      rcases hne _ _ _ hgb with h | h
      · exact h rfl
      · exact absurd (show g < N from h) (by omega)
  have hsz1 : A.heap.size ≤ w1.heap.size := by have := hgrow.size; simp at this; omega
  have HFIN : Hid (WkJ N bw W0 (pre ++ [⟨xe, xg, xp⟩]) (w1.setCell ⟨bw, 0, none⟩ (.slice (some ⟨g', 0, none⟩) (pre.length + 1) cap')) ∧ Kp K bd A (w1.setCell ⟨bw, 0, none⟩ (.slice (some ⟨g', 0, none⟩) (pre.length + 1) cap'))) := by
    have hblk : ∀ j, j < A.heap.size → j ≠ bw → (∀ cs t' fr, A.heap[j]? = some (.cells cs t' fr) → t' ≠ 22 ∨ j < N) → (w1.setCell ⟨bw, 0, none⟩ (.slice (some ⟨g', 0, none⟩) (pre.length + 1) cap')).heap[j]? = A.heap[j]? := fun j hj hb hne => by
      rw [set_other _ _ _ _ (show j ≠ bw from hb)]; exact kept1 j hj hne
    have hnw : ∀ y : It, Nw A y.g y.p → N ≤ y.g → Nw (w1.setCell ⟨bw, 0, none⟩ (.slice (some ⟨g', 0, none⟩) (pre.length + 1) cap')) y.g y.p := fun y h1 h2 => by
      refine (hblk y.g (Array.getElem?_eq_some_iff.1 h1).1 (by omega) (fun cs t' fr h3 => Or.inl ?_)).trans h1
      have h1' : A.heap[y.g]? = some (.cells (y.p.map B).toArray 5 (0, 0)) := h1
      rw [h1'] at h3
      cases h3
      decide
    refine ⟨⟨⟨_, hv1.set _, ?_⟩, ?_, by rw [size_set]; omega, fun y hy => ?_, ?_⟩, by rw [size_set]; exact hsz1, fun k hk => ?_⟩
    · rw [List.length_append, List.map_append]
      exact ownsRow_setCell_below hown' hbw _
    · refine ⟨hgrow.os.trans HF.out.os, hgrow.tape.trans HF.out.tape, hgrow.output.trans HF.out.output, by rw [size_set]; exact Nat.le_trans HF.out.size hsz1, fun k hk hn => ?_⟩
      have h2 := HN.out
      rw [hblk k (Nat.lt_of_lt_of_le hk HF.out.size) (fun e => hn (by rw [e]; exact List.mem_singleton.2 rfl)) (fun _ _ _ _ => Or.inr (by omega))]
      exact HF.out.block k hk hn
    · rcases List.mem_append.1 hy with h | h
      · have h1 := HI.out.1 y h
        exact ⟨hnw y h1.1 h1.2, h1.2⟩
      · rw [List.mem_singleton.1 h]
        exact ⟨hnw ⟨xe, xg, xp⟩ F2.out F4.out, F4.out⟩
    · rw [List.pairwise_append]
      exact ⟨HI.out.2, List.pairwise_singleton _ _, fun a ha b hb => by rw [List.mem_singleton.1 hb]; exact F3.out a ha⟩
    · rcases hk with h | h
      · exact hblk k (by omega) (by omega) (fun _ _ _ _ => Or.inr (by omega))
      · exact hblk k (by omega) (by omega) (fun _ _ _ _ => Or.inr (by omega))
  clear own kept1 hown' hgrow hsz1 HV HROW
  go_wp2
  go_ret
  exact ⟨by simp; omega, HFIN.out⟩
end Go.Proofs.YticncaoecoehkaaDoor.wl

namespace Go.Proofs.YticncaoecoehkaaDoor.wl
open Go.ChangeShapes Go.WideShapes Go.ChangeAt Go.RowKit Go.Proofs.YticncaoecoehkaaDoor.common Go.Proofs.YticncaoecoehkaaDoor.dk

theorem eql_funcN (fn : Fn) (lb : Array Value) (W : World) : (binOp .eql 54 (.func fn #[] lb) .nilFunc).run Tryd.prog W = .ok (.bool false) W := by
  have h : (Op.equalIn (9999 + 1) 54 (.func fn #[] lb) .nilFunc).run Tryd.prog W = .ok false W := by
    rw [Op.equalIn]
    simp only [Sem.run_bind, run_underlying Tryd.underlying54, Result.andThen_ok]
    rfl
  simp only [binOp]
  simp only [Op.equal, Op.maxDepth, Sem.run_bind]
  rw [show (10000 : Nat) = 9999 + 1 from rfl, h]
  rfl
/-- the mark of the i-th payload, and what is put behind it -/
def mkB (j : Nat) : UInt8 := UInt8.ofNat (j % 250 + 1)
def bhB (j : Nat) : UInt8 := UInt8.ofNat (255 - j % 2)
theorem mkB_val (j : Nat) : ((mkB j).toNat : Int) = (j : Int) % 250 + 1 := by
  unfold mkB
  rw [UInt8.toNat_ofNat']
  omega
theorem bhB_val (j : Nat) : ((bhB j).toNat : Int) = 255 - (j : Int) % 2 := by
  unfold bhB
  rw [UInt8.toNat_ofNat']
  omega
theorem rise_append {a b : List It} (N : Nat) (ha : a.Pairwise (fun x y => x.g < y.g)) (hb : b.Pairwise (fun x y => x.g < y.g)) (h1 : ∀ x ∈ a, x.g < N) (h2 : ∀ x ∈ b, N ≤ x.g) : (a ++ b).Pairwise (fun x y => x.g < y.g) := by
  rw [List.pairwise_append]
  exact ⟨ha, hb, fun x hx y hy => Nat.lt_of_lt_of_le (h1 x hx) (h2 y hy)⟩
theorem rise_ne {its : List It} (h : its.Pairwise (fun x y => x.g < y.g)) (i j : Nat) (hi : i < its.length) (hj : j < its.length) (hne : i ≠ j) : its[i].g ≠ its[j].g := by
  rw [List.pairwise_iff_getElem] at h
  rcases Nat.lt_or_gt_of_ne hne with h1 | h1
  · have := h i j hi hj h1; omega
  · have := h j i hj hi h1; omega

theorem nw_set {w : World} {g k : Nat} {l : List UInt8} (h : Nw w g l) (c : UInt8) : Nw (w.setCell ⟨g, k, none⟩ (B c)) g (l.set k c) := by
  unfold Nw at h ⊢
  simp [World.setCell, Array.getElem?_modify, h, List.map_set]
theorem nw_cell {w : World} {g : Nat} {l : List UInt8} (h : Nw w g l) (k : Nat) (hk : k < l.length) : w.cell? ⟨g, k, none⟩ = some (B l[k]) ∧ w.frozen? ⟨g, k, none⟩ = false := by
  have h' : w.heap[g]? = some (.cells (l.map B).toArray 5 (0, 0)) := h
  refine ⟨?_, free_of h' k⟩
  rw [cell_of h' k]
  simp [hk]
/-- what lies in a payload's block while it is written over -/
def half (p : List UInt8) (k : Nat) (m : UInt8) : List UInt8 := List.replicate k m ++ p.drop k
theorem half_len (p : List UInt8) (k : Nat) (m : UInt8) (h : k ≤ p.length) : (half p k m).length = p.length := by simp [half]; omega
theorem half_zero (p : List UInt8) (m : UInt8) : half p 0 m = p := by simp [half]
theorem half_full (p : List UInt8) (m : UInt8) : half p p.length m = List.replicate p.length m := by simp [half]
theorem half_set (p : List UInt8) (k : Nat) (m : UInt8) (h : k < p.length) : (half p k m).set k m = half p (k + 1) m := by
  unfold half
  rw [List.set_append_right _ _ (by simp), List.length_replicate, Nat.sub_self, List.drop_eq_getElem_cons h, List.set_cons_zero, List.replicate_succ']
  simp
/-- payloads; those ahead of the i-th are written over -/
structure Mk (S : World) (its : List It) (i : Nat) (W : World) : Prop where
  fr : Fr (its.map It.g) S W
  nw : ∀ j (h : j < its.length), Nw W its[j].g (if j < i then List.replicate its[j].p.length (mkB j) else its[j].p)
theorem mk_start {S : World} {its : List It} (h : ∀ x ∈ its, Nw S x.g x.p) : Mk S its 0 S := ⟨Fr.refl _ _, fun j hj => by rw [if_neg (by omega)]; exact h _ (List.getElem_mem hj)⟩
theorem Mk.next {S : World} {its : List It} {i : Nat} {W W' : World} (h : Mk S its i W) (hr : its.Pairwise (fun x y => x.g < y.g)) (hi : i < its.length) (hn : Nw W' its[i].g (List.replicate its[i].p.length (mkB i))) (hf : Fr [its[i].g] W W') : Mk S its (i + 1) W' := by
  refine ⟨h.fr.trans hf (fun k hk => Or.inl ?_), fun j hj => ?_⟩
  · rw [List.mem_singleton.1 hk]
    exact List.mem_map.2 ⟨_, List.getElem_mem hi, rfl⟩
  · by_cases hji : j = i
    · subst hji
      rw [if_pos (by omega)]
      exact hn
    · have h1 := h.nw j hj
      have e : (if j < i + 1 then List.replicate its[j].p.length (mkB j) else its[j].p) = if j < i then List.replicate its[j].p.length (mkB j) else its[j].p := by
        by_cases hl : j < i
        · rw [if_pos hl, if_pos (by omega)]
        · rw [if_neg hl, if_neg (by omega)]
      rw [e]
      refine (hf.block _ (Array.getElem?_eq_some_iff.1 h1).1 (fun hm => ?_)).trans h1
      exact rise_ne hr j i hj hi hji (List.mem_singleton.1 hm)
/-- what a payload has become behind its end -/
def grn (j : Nat) (x : It) : List UInt8 := List.replicate x.p.length (mkB j) ++ List.replicate 64 (bhB j)
theorem own_slot {w : World} {base : Nat} {v : Value} {l : List UInt8} (h : w.ownsRow base 5 1 v l.length (l.map B)) (hl : 0 < l.length) : ∃ g cap, v = .slice (some ⟨g, 0, none⟩) l.length cap ∧ g < w.heap.size ∧ ∀ k (hk : k < l.length), w.cell? ⟨g, k, none⟩ = some (B l[k]) := by
  obtain ⟨g, cap, e, hg, _⟩ := own_cell h 0 (by simpa using hl)
  refine ⟨g, cap, e, hg, fun k hk => ?_⟩
  obtain ⟨g', cap', e', _, hc⟩ := own_cell h k (by simpa using hk)
  rw [e] at e'
  cases e'
  rw [hc]
  simp
/-- a payload while bytes are put behind it, k of them -/
structure Gw (wo : World) (x : It) (m b : UInt8) (k : Nat) (u : Value) (wr : World) : Prop where
  row : wr.ownsRow 0 5 1 u (x.p.length + k) ((List.replicate x.p.length m ++ List.replicate k b).map B)
  zero : k = 0 → u = x.v
  new : 0 < k → ∀ g, u.ownBlock = some g → wo.heap.size ≤ g
  low : Below wo.heap.size wo wr
theorem grn_len (j : Nat) (x : It) : (grn j x).length = x.p.length + 64 := by simp [grn]
theorem grn_lo (j : Nat) (x : It) (k : Nat) (h : k < x.p.length) (h2 : k < (grn j x).length) : (grn j x)[k] = mkB j := by
  simp only [grn]
  rw [List.getElem_append_left (by simpa using h)]
  simp
theorem grn_hi (j : Nat) (x : It) (k : Nat) (h : ¬ k < x.p.length) (h2 : k < (grn j x).length) : (grn j x)[k] = bhB j := by
  simp only [grn]
  rw [List.getElem_append_right (by simpa using h)]
  exact List.getElem_replicate _
theorem own_up {w : World} {base : Nat} {e : TypeId} {size : Nat} {v : Value} {n : Nat} {xs : List Value} (h : w.ownsRow 0 e size v n xs) (hb : ∀ g, v.ownBlock = some g → base ≤ g) : w.ownsRow base e size v n xs := by
  refine ⟨h.1, ?_⟩
  rcases h.2 with hh | ⟨g, cap, cur, rfl, _, hn⟩
  · exact Or.inl hh
  · exact Or.inr ⟨g, cap, cur, rfl, hb g rfl, hn⟩
theorem gw_start {wo : World} {x : It} {m b : UInt8} (h : Nw wo x.g (List.replicate x.p.length m)) (hl : x.p.length ≤ 8192) : Gw wo x m b 0 x.v wo := by
  refine ⟨?_, fun _ => rfl, fun h => absurd h (Nat.lt_irrefl 0), Below.refl _ _⟩
  have := h.own 0 (Nat.zero_le _) (by unfold maxLen; simp; omega)
  simp only [List.length_replicate] at this
  simpa [It.v] using this
theorem Gw.next {wo : World} {x : It} {m b : UInt8} {k : Nat} {u : Value} {wr : World} {tmp : Obj} {v' : Value} {w1 : World} (h : Gw wo x m b k u wr)
    (hown : w1.ownsRow 0 5 1 v' (x.p.length + k + 1) ((List.replicate x.p.length m ++ List.replicate k b).map B ++ [B b]))
    (hd : (∃ g cap, u = .slice (some ⟨g, 0, none⟩) (x.p.length + k) cap ∧ v' = .slice (some ⟨g, 0, none⟩) (x.p.length + k + 1) cap ∧ (wr.alloc tmp).grownBy w1 (some g)) ∨ (v'.ownBlock = some (wr.alloc tmp).heap.size ∧ (wr.alloc tmp).grownBy w1 none)) : Gw wo x m b (k + 1) v' w1 := by
  have hlo := h.low.size
  have hal := h.low.alloc hlo tmp
  have hz : (wr.alloc tmp).heap.size = wr.heap.size + 1 := by simp
  have hk : ∀ g cap, u = .slice (some ⟨g, 0, none⟩) (x.p.length + k) cap → v' = .slice (some ⟨g, 0, none⟩) (x.p.length + k + 1) cap → wo.heap.size ≤ g := fun g cap h1 h2 => by
    by_cases h0 : k = 0
    · have h3 := h.zero h0
      rw [h1] at h3
      unfold It.v at h3
      injection h3 with h4 h5 h6
      rcases hown.2 with ⟨h7, _⟩ | ⟨g', cap', cur, h7, _, _, h8, _⟩
      · rw [h2] at h7; cases h7
      · rw [h2] at h7
        injection h7 with _ _ h9
        omega
    · exact h.new (by omega) g (by rw [h1]; rfl)
  refine ⟨?_, fun h => absurd h (by omega), fun _ g hg => ?_, ?_⟩
  · rw [List.replicate_succ', ← List.append_assoc, List.map_append]
    exact hown
  · rcases hd with ⟨g', cap, h1, h2, h3⟩ | ⟨h1, h2⟩
    · rw [h2] at hg
      cases hg
      exact hk _ _ h1 h2
    · rw [h1] at hg
      cases hg
      omega
  · rcases hd with ⟨g', cap, h1, h2, h3⟩ | ⟨h1, h2⟩
    · exact hal.grown h3 (by omega) (fun j e => by cases e; exact hk _ _ h1 h2)
    · exact hal.grown h2 (by omega) (fun j e => by cases e)
end Go.Proofs.YticncaoecoehkaaDoor.wl

namespace Go.Proofs.YticncaoecoehkaaDoor.wl
open Go.ChangeShapes Go.WideShapes Go.ChangeAt Go.RowKit Go.Proofs.YticncaoecoehkaaDoor.common Go.Proofs.YticncaoecoehkaaDoor.dk

set_option maxRecDepth 100000 in
set_option maxHeartbeats 12800000 in
theorem lawNew (w : World) (v : Value) (l : List UInt8) (h : Rc w v l) (hl : l.length ≤ 1048576) (ht : crcw.Tab w) (e : Nat → Addr) (he : Ed w w.heap.size e) :
    Calls Tryd.prog 5 #[v] w fun r' w' => r' = .returned (.bool true) ∧ Below w.heap.size w w' := by
  obtain ⟨i8, hi8, hy0, hy1, hy2⟩ := info_parts info8
  obtain ⟨iL, hiL, hq0, hq1, hq2⟩ := info_parts infoL
  have HTE : Hid (∀ Y, Below w.heap.size w Y → crcw.Tab Y) := fun Y hY => ht.below hY ht.lt
  have HEE : Hid (∀ Y K, Below w.heap.size w Y → w.heap.size ≤ K → K ≤ Y.heap.size → Ed Y K e) := fun Y K hY h1 h2 => ⟨(he.below hY).arg, (he.below hY).dead, h2, Nat.lt_of_lt_of_le he.lt.1 h1, Nat.lt_of_lt_of_le he.lt.2 h1⟩
  have HR := hide h
  have HEA : Hid (1 < w.heap.size) := he.lt.1
  have HTL : Hid (13 < w.heap.size) := ht.lt
  obtain ⟨oa, ca, rfl, hca, hdb⟩ := h
  have HDB : Hid (0 < l.length → ∀ a m c, Value.slice oa l.length ca = .slice (some a) m c → a.block < w.heap.size) := fun h0 a m c e => by
    obtain ⟨g, o, e2, hg, _⟩ := hdb h0
    rw [e2] at e
    cases e
    exact hg
  obtain ⟨A, hA⟩ : ∃ A, A = l.take (Wl.good l) := ⟨_, rfl⟩
  have hgl := Wl.good_le l
  have hAl : A.length = Wl.good l := by rw [hA, List.length_take]; omega
  have hAf : A = Wl.flat (Wl.scan l) := by rw [hA]; exact Wl.good_take l
  have hsA : Wl.scan A = Wl.scan l := by rw [hAf]; exact Wl.scan_flat _ (Wl.scan_fits l)
  have hgA : Wl.good A = A.length := by unfold Wl.good; rw [hsA, ← hAf]
  have hAb : A.length ≤ 1048576 := by omega
  have hAn : (Wl.scan l).length ≤ 1048576 := by
    have h1 : (Wl.scan l).length ≤ (Wl.flat (Wl.scan l)).length := by
      generalize Wl.scan l = L
      induction L with
      | nil => exact Nat.le_refl _
      | cons a r ih => rw [Wl.flat_cons, List.length_append, Wl.fr_len, List.length_cons]; omega
    rw [← hAf] at h1; omega
  have hAq : ∀ q ∈ Wl.scan l, q.length ≤ 8192 ∧ 0 < q.length := fun q hq => by have := (Wl.fit_iff _).1 (Wl.scan_fits l q hq); omega
  have HSA := hide hsA
  have HGA := hide hgA
  have HAQ := hide hAq
  have HAN := hide hAn
  have hkA : kpS (plain A 1073741824) (Wl.good A) A.length = (plain A 1073741824, 0) := by
    have := keep_plain A 1073741824
    rw [hgA, List.take_length] at this
    rw [hgA]; exact this
  have hkl : kpS (plain l 1073741824) (Wl.good l) l.length = (plain A 1073741824, 0) := by rw [hA]; exact keep_plain l 1073741824
  have HKA := hide hkA
  have HKL := hide hkl
  have HCP := hide (copy_any w _ l HR.out.rd (by omega))
  clear ht he hA hAl hAf hsA hgA hAq hkA hkl hgl hdb hAn
  go_enter Tryd.func5, Tryd.ntmps5
  go_wp2_with fail
  refine HCP.out.mono ?_
  rintro r' w1 ⟨vw, rfl, hown, b1⟩
  obtain ⟨ow, cw, rfl⟩ := (rd_own hown).len
  have HWAS := hide hown
  have HB1 := hide b1
  have HOP := hide (open_any w1 _ l 1073741824 (HR.out.rd.below b1) (by omega))
  have hroom : roomOf 1073741824 = 1073741824 := by decide
  rw [hroom] at HOP
  have HZ1 : Hid (w.heap.size ≤ w1.heap.size) := b1.size
  clear HCP hown b1 hroom
  go_wp2_with fail
  refine HOP.out.mono ?_
  rintro r' w2 ⟨p, F, rfl, hD2, hF2, b2⟩
  have HB2 := hide b2
  have HD2 := hide hD2
  have HF2 := hide hF2
  have HBG := hide (begun_any w2 (HTE.out _ (keepD HB1.out b2)) _ (HEE.out w2 w.heap.size (keepD HB1.out b2) (Nat.le_refl _) (keepD HB1.out b2).size).arg (Nat.lt_of_lt_of_le HEA.out (keepD HB1.out b2).size))
  clear HOP hD2 hF2 b2
  go_wp2_with fail
  refine HBG.out.mono ?_
  rintro r' w3 ⟨rfl, b3⟩
  have HB3 : Hid (Below w1.heap.size w1 w3) := keepD HB2.out b3
  have HD3 := hide (HD2.out.below b3)
  have HZ23 : Hid (w2.heap.size ≤ w3.heap.size) := b3.size
  have HSC := hide (scan_any w3 _ l (HR.out.below (keepD HB1.out HB3.out)) (by omega) (HTE.out _ (keepD HB1.out HB3.out)))
  clear HBG b3
  go_wp2_with fail
  refine HSC.out.mono ?_
  rintro r' w4 ⟨v0, its0, rfl, hps0, hown0, hits0, b4⟩
  have HB4 : Hid (Below w1.heap.size w1 w4) := keepD HB3.out b4
  have HD4 := hide (HD3.out.below b4)
  have HT0 : Hid (Tl w4 F v0 its0) := ⟨own_mono' hown0 (Nat.zero_le _), fun x hx => (hits0.1 x hx).1, fun b hb hm => by
      have h1 := own_ge hown0 b hb
      have h2 := HD2.out.lt b hm
      have h3 := HZ23.out
      omega, fun x hx hm => by
      have h1 := (hits0.1 x hx).2
      have h2 := HD2.out.lt _ hm
      have h3 := HZ23.out
      omega⟩
  have HP0 : Hid (∀ x ∈ its0, w3.heap.size ≤ x.g ∧ x.g < w4.heap.size) := fun x hx => ⟨(hits0.1 x hx).2, (Array.getElem?_eq_some_iff.1 (hits0.1 x hx).1).1⟩
  have HW0 := hide hits0.2
  have HPS0 := hide hps0
  have HZ34 : Hid (w3.heap.size ≤ w4.heap.size) := b4.size
  have HE4 := hide (HEE.out w4 w1.heap.size (keepD HB1.out HB4.out) HZ1.out HB4.out.size)
  have HKT : Hid (13 < w1.heap.size) := Nat.lt_of_lt_of_le HTL.out HZ1.out
  have HOP1 := hide (openL_ok w4 w1.heap.size p F (plain l 1073741824) HD4.out e HE4.out HF2.out (fine_plain l _ (by omega) (by decide)) (HTE.out _ (keepD HB1.out HB4.out)) (plain l 1073741824) rfl (fine_plain l _ (by omega) (by decide)) (trunc_plain l _ (by omega) (by decide)) (by show l.length ≤ _; omega) _ HKL.out HKT.out)
  clear HSC hps0 hown0 hits0 b4 HD2 HD3
  go_wp2_with fail
  refine HOP1.out.mono ?_
  rintro r' w5 ⟨g1, F1, v1, its1, rfl, hlg1, hps1, hown1, hits1, hf1, hs1, hg1, hap1, hap1'⟩
  have HT0' := hide (HT0.out.fr hf1 hs1)
  have HT1 : Hid (Tl w5 F1 v1 its1) := ⟨own_mono' hown1 (Nat.zero_le _), fun x hx => (hits1.1 x hx).1, hap1, hap1'⟩
  have HP1 : Hid (∀ x ∈ its1, w4.heap.size ≤ x.g ∧ x.g < w5.heap.size) := fun x hx => ⟨(hits1.1 x hx).2, (Array.getElem?_eq_some_iff.1 (hits1.1 x hx).1).1⟩
  have HW1 := hide hits1.2
  have HPS1 := hide hps1
  have HF1 := hide (mem_up hs1 HF2.out HB4.out.size)
  have HB5 : Hid (Below w1.heap.size w1 w5) := HB4.out.trans (hf1.below HF2.out HB4.out.size)
  have HD5 := hide hlg1.1
  have HZ45 : Hid (w4.heap.size ≤ w5.heap.size) := hf1.size
  have HLK := hide (look_any w5 p F1 (plain A 1073741824) hlg1.1 (by show A.length ≤ _; omega))
  clear HOP1 hlg1 hps1 hown1 hits1 hf1 hs1 hg1 hap1 hap1' HT0 HE4 HD4
  go_wp2_with fail
  refine HLK.out.mono ?_
  rintro r' w6 ⟨vo, rfl, hans6, b6⟩
  have HON : Hid (Bs w6 F1 vo A) := ans_bs hans6
  have HPO : Hid (∀ a n c, vo = .slice (some a) n c → w5.heap.size ≤ a.block ∧ a.block < w6.heap.size) := fun a n c e => by
    refine ⟨?_, (HON.out.far a n c e).2⟩
    rcases hans6 with ⟨h1, _⟩ | ⟨g, h1, h2, _⟩
    · rw [h1] at e; cases e
    · rw [h1] at e; cases e; exact h2
  obtain ⟨oO, cO, hvO⟩ := HON.out.rc.rd.len
  subst hvO
  have HT0 := hide (HT0'.out.below b6)
  have HT1' := hide (HT1.out.below b6)
  have HD6 := hide (HD5.out.below b6)
  have HB6 : Hid (Below w1.heap.size w1 w6) := keepD HB5.out b6
  have HZ56 : Hid (w5.heap.size ≤ w6.heap.size) := b6.size
  have HSC := hide (scan_any w6 _ l (HR.out.below (keepD HB1.out HB6.out)) (by omega) (HTE.out _ (keepD HB1.out HB6.out)))
  clear HLK hans6 b6 HT0' HT1 HD5
  go_wp2_with fail
  refine HSC.out.mono ?_
  rintro r' w7 ⟨v2, its2, rfl, hps2, hown2, hits2, b7⟩
  have HT0' := hide (HT0.out.below b7)
  have HT1 := hide (HT1'.out.below b7)
  have HON' := hide (HON.out.below b7)
  have HD7 := hide (HD6.out.below b7)
  have HB7 : Hid (Below w1.heap.size w1 w7) := keepD HB6.out b7
  have HT2 : Hid (Tl w7 F1 v2 its2) := ⟨own_mono' hown2 (Nat.zero_le _), fun x hx => (hits2.1 x hx).1, fun b hb hm => by
      have h1 := own_ge hown2 b hb
      have h2 := HD6.out.lt b hm
      omega, fun x hx hm => by
      have h1 := (hits2.1 x hx).2
      have h2 := HD6.out.lt _ hm
      omega⟩
  have HP2 : Hid (∀ x ∈ its2, w6.heap.size ≤ x.g ∧ x.g < w7.heap.size) := fun x hx => ⟨(hits2.1 x hx).2, (Array.getElem?_eq_some_iff.1 (hits2.1 x hx).1).1⟩
  have HW2 := hide hits2.2
  have HPS2 := hide hps2
  have HZ67 : Hid (w6.heap.size ≤ w7.heap.size) := b7.size
  have HE7 := hide (HEE.out w7 w1.heap.size (keepD HB1.out HB7.out) HZ1.out HB7.out.size)
  have HOP2 := hide (openL_ok w7 w1.heap.size p F1 (plain A 1073741824) HD7.out e HE7.out HF1.out (fine_plain A _ (by omega) (by decide)) (HTE.out _ (keepD HB1.out HB7.out)) (plain A 1073741824) rfl (fine_plain A _ (by omega) (by decide)) (trunc_plain A _ (by omega) (by decide)) (by show A.length ≤ _; omega) _ HKA.out HKT.out)
  clear HSC hps2 hown2 hits2 b7 HT0 HT1' HON HD6
  go_wp2_with fail
  refine HOP2.out.mono ?_
  rintro r' w8 ⟨g2, F2, v3, its3, rfl, hlg2, hps3, hown3, hits3, hf2, hs2, hg2, hap2, hap2'⟩
  have HT0 := hide (HT0'.out.fr hf2 hs2)
  have HT1' := hide (HT1.out.fr hf2 hs2)
  have HT2' := hide (HT2.out.fr hf2 hs2)
  have HT3 : Hid (Tl w8 F2 v3 its3) := ⟨own_mono' hown3 (Nat.zero_le _), fun x hx => (hits3.1 x hx).1, hap2, hap2'⟩
  have HON := hide (HON'.out.fr hf2 hs2)
  have HP3 : Hid (∀ x ∈ its3, w7.heap.size ≤ x.g ∧ x.g < w8.heap.size) := fun x hx => ⟨(hits3.1 x hx).2, (Array.getElem?_eq_some_iff.1 (hits3.1 x hx).1).1⟩
  have HW3 := hide hits3.2
  have HPS3 : Hid (ps its3 = Wl.scan l) := by show _ = _; rw [hps3]; exact HSA.out
  have HFF := hide (mem_up hs2 HF1.out HB7.out.size)
  have HB8 : Hid (Below w1.heap.size w1 w8) := HB7.out.trans (hf2.below HF1.out HB7.out.size)
  have HD8 := hide hlg2.1
  have HZ78 : Hid (w7.heap.size ≤ w8.heap.size) := hf2.size
  have HFR := hide (frames_any oa l.length ca (w8.alloc (.cells #[.slice none 0 0] 28)))
  clear HOP2 hlg2 hps3 hown3 hits3 hf2 hs2 hg2 hap2 hap2' HT0' HT1 HT2 HON' HE7 HD7
  go_wp2_with fail
  refine HFR.out.mono ?_
  rintro r' w9 ⟨rfl, hw9⟩
  have hef := eql_funcN (.func 46) #[.pointer (some ⟨w8.heap.size + 1, 0, none⟩)] w9
  have hz9 : w9.heap.size = w8.heap.size + 2 := by rw [hw9]; simp
  have b9 : Below w8.heap.size w8 w9 := by rw [hw9]; exact ((Below.refl _ w8).alloc (Nat.le_refl _) _).alloc (by simp) _
  have hbw : Boxed w9 w8.heap.size 28 (.slice none 0 0) := by rw [hw9]; exact (Boxed.new w8 28 (.slice none 0 0)).alloc _
  have hbd : Boxed w9 (w8.heap.size + 1) 22 (.slice oa l.length ca) := by
    rw [hw9]
    have := Boxed.new (w8.alloc (.cells #[.slice none 0 0] 28)) 22 (.slice oa l.length ca)
    rwa [World.size_alloc] at this
  have HZ9 := hide hz9
  have HB9 := hide b9
  have HBW9 : Hid (Below w.heap.size w w9) := (keepD HB1.out HB8.out).trans (b9.mono (keepD HB1.out HB8.out).size)
  have HFC := hide (frames_callN (.pointer (some ⟨w8.heap.size, 0, none⟩)) w.heap.size (w8.heap.size + 1) w9.heap.size l (by omega) (.slice oa l.length ca) w9 hbd (HR.out.below HBW9.out) HDB.out (HTE.out _ HBW9.out) HTL.out (Nat.le_refl _) HBW9.out.size
    (fun pre A => WkJ w9.heap.size w8.heap.size w9 pre A) (fun _ _ => False) (fun pre A A' hJ hb => wkJ_below hJ hb)
    (fun pre x A hJ _ hpre hfr => (eachN_any w9.heap.size w8.heap.size w.heap.size (w8.heap.size + 1) w9 A pre x l.length hJ hfr rfl (by omega) (by
      have h1 := hpre.length_le
      have h2 := HAN.out
      simp [ps] at h1
      omega) (keepD HB1.out HB8.out).size ⟨by omega, by omega⟩).mono (fun e A' h => Or.inl h))
    ⟨⟨_, hbw, World.ownsRow_nil _ _ _ _⟩, Fr.refl _ _, Nat.le_refl _, by simp, List.Pairwise.nil⟩)
  clear HFR hw9 hz9 b9 hbw hbd
  go_wp2_with fail
  refine HFC.out.mono ?_
  rintro r' w10 ⟨rfl, hor⟩
  obtain ⟨its4, hps4, ⟨v4, hv4, hrow4⟩, hf4, hs4, hits4⟩ : ∃ xs, ps xs = Wl.scan l ∧ WkJ w9.heap.size w8.heap.size w9 xs w10 := by
    rcases hor with h | ⟨_, h⟩
    · exact h
    · exact h.elim
  have hb10 : Below w8.heap.size w8 w10 := HB9.out.trans (hf4.below (fun k hk => by rw [List.mem_singleton.1 hk]; exact Nat.le_refl _) (by have := HZ9.out; omega))
  have HB10 := hide hb10
  have HC4 : ∀ X, Below w10.heap.size w10 X → X.cell? ⟨w8.heap.size, 0, none⟩ = some v4 := fun X hX => by
    rw [World.cell?_of_block (hX.block w8.heap.size hv4.lt)]; exact hv4.cell
  have HT4 : Hid (Tl w10 [] v4 its4) := ⟨own_mono' hrow4 (Nat.zero_le _), fun x hx => (hits4.1 x hx).1, fun b _ => by simp, fun x _ => by simp⟩
  have HP4 : Hid (∀ x ∈ its4, w8.heap.size ≤ x.g ∧ x.g < w10.heap.size) := fun x hx => ⟨by have := (hits4.1 x hx).2; have := HZ9.out; omega, (Array.getElem?_eq_some_iff.1 (hits4.1 x hx).1).1⟩
  have HW4 := hide hits4.2
  have HPS4 := hide hps4
  have HLN : Hid (its0.length ≤ 1048576 ∧ its1.length ≤ 1048576 ∧ its2.length ≤ 1048576 ∧ its3.length ≤ 1048576 ∧ its4.length ≤ 1048576) := by
    have hh : ∀ xs : List It, ps xs = Wl.scan l → xs.length ≤ 1048576 := fun xs hx => by
      have h1 := congrArg List.length hx
      have h2 := HAN.out
      simp [ps] at h1
      omega
    exact ⟨hh _ HPS0.out, hh _ HPS1.out, hh _ HPS2.out, hh _ HPS3.out, hh _ HPS4.out⟩
  have hpl : ∀ xs : List It, (ps xs).length = xs.length := fun xs => by simp [ps]
  have HR0 := hide ((HT0.out.below hb10).rw (G := []) (fun _ _ => by simp))
  have HR1 := hide ((HT1'.out.below hb10).rw (G := []) (fun _ _ => by simp))
  have HR2 := hide ((HT2'.out.below hb10).rw (G := []) (fun _ _ => by simp))
  have HR3 := hide ((HT3.out.below hb10).rw (G := []) (fun _ _ => by simp))
  have HR4 := hide (HT4.out.rw (G := []) (fun _ _ => by simp))
  have HBA : Hid (∀ Z, Below w10.heap.size w10 Z → Calls Tryd.prog 26 #[v0, v1] Z fun r' w' => ∃ v, r' = .returned v ∧ Rw w' [] v (its0.map It.v ++ its1.map It.v) (ps its0 ++ ps its1) ∧ (∀ b, v.ownBlock = some b → Z.heap.size ≤ b) ∧ Below Z.heap.size Z w') := fun Z hZ =>
    behind_any Z [] v0 v1 _ _ _ _ (HR0.out.below hZ) (HR1.out.below hZ) (by simp) (by have := HLN.out; rw [hpl, hpl]; omega)
  have HBB : Hid (∀ Z, Below w10.heap.size w10 Z → Calls Tryd.prog 26 #[v2, v3] Z fun r' w' => ∃ v, r' = .returned v ∧ Rw w' [] v (its2.map It.v ++ its3.map It.v) (ps its2 ++ ps its3) ∧ (∀ b, v.ownBlock = some b → Z.heap.size ≤ b) ∧ Below Z.heap.size Z w') := fun Z hZ =>
    behind_any Z [] v2 v3 _ _ _ _ (HR2.out.below hZ) (HR3.out.below hZ) (by simp) (by have := HLN.out; rw [hpl, hpl]; omega)
  have HBC : Hid (∀ Z va vb, Rw Z [] va (its0.map It.v ++ its1.map It.v) (ps its0 ++ ps its1) → Rw Z [] vb (its2.map It.v ++ its3.map It.v) (ps its2 ++ ps its3) → Calls Tryd.prog 26 #[va, vb] Z fun r' w' => ∃ v, r' = .returned v ∧ Rw w' [] v (its0.map It.v ++ its1.map It.v ++ (its2.map It.v ++ its3.map It.v)) (ps its0 ++ ps its1 ++ (ps its2 ++ ps its3)) ∧ (∀ b, v.ownBlock = some b → Z.heap.size ≤ b) ∧ Below Z.heap.size Z w') := fun Z va vb ha hb =>
    behind_any Z [] va vb _ _ _ _ ha hb (by simp) (by have := HLN.out; rw [List.length_append, List.length_append, hpl, hpl, hpl, hpl]; omega)
  have HBD : Hid (∀ Z vc, Below w10.heap.size w10 Z → Rw Z [] vc (its0.map It.v ++ its1.map It.v ++ (its2.map It.v ++ its3.map It.v)) (ps its0 ++ ps its1 ++ (ps its2 ++ ps its3)) → Calls Tryd.prog 26 #[vc, v4] Z fun r' w' => ∃ v, r' = .returned v ∧ Rw w' [] v (its0.map It.v ++ its1.map It.v ++ (its2.map It.v ++ its3.map It.v) ++ its4.map It.v) (ps its0 ++ ps its1 ++ (ps its2 ++ ps its3) ++ ps its4) ∧ (∀ b, v.ownBlock = some b → Z.heap.size ≤ b) ∧ Below Z.heap.size Z w') := fun Z vc hZ hc =>
    behind_any Z [] vc v4 _ _ _ _ hc (HR4.out.below hZ) (by simp) (by have := HLN.out; simp only [List.length_append, hpl]; omega)
  clear HFC hor hps4 hv4 hrow4 hf4 hs4 hits4 hb10 hef
  go_wp2_with fail
  go_region_held3 (fun Z => Below w10.heap.size w10 Z)
    (first
      | exact Below.refl _ _
      | assumption
      | exact keepD (by assumption) (by assumption)
      | exact Below.drew (by assumption)
      | exact (Below.refl _ _).drew)
    (first
      | (go_at_call 26; with_reducible refine (HBA.out _ (by assumption)).mono ?_; rintro x' w11 ⟨va, rfl, rwa, owa, ba⟩)
      | (go_at_call 26; with_reducible refine (HBB.out _ (by assumption)).mono ?_; rintro x' w12 ⟨vb, rfl, rwb, owb, bb⟩)
      | (go_at_call 26; with_reducible refine (HBC.out _ _ _ (rwa.below (by assumption)) rwb).mono ?_; rintro x' w13 ⟨vc, rfl, rwc, owc, bc⟩)
      | (go_at_call 26; with_reducible refine (HBD.out _ _ (by assumption) rwc).mono ?_; rintro x' w14 ⟨vl, rfl, rwd, owd, bd⟩))
  have hb14 : Below w10.heap.size w10 w14 := by assumption
  have HB14 := hide hb14
  obtain ⟨its, hits⟩ : ∃ its, its = its0 ++ its1 ++ (its2 ++ its3) ++ its4 := ⟨_, rfl⟩
  have hus : its0.map It.v ++ its1.map It.v ++ (its2.map It.v ++ its3.map It.v) ++ its4.map It.v = its.map It.v := by rw [hits]; simp only [List.map_append]
  have hlen : its.length ≤ 5242880 := by rw [hits]; simp only [List.length_append]; have := HLN.out; omega
  have hrow : w14.ownsRow 0 22 1 vl its.length (its.map It.v) := by
    have := rwd.row
    rw [hus, List.length_map] at this
    exact this
  have HOWN : Hid (∀ b, vl.ownBlock = some b → w10.heap.size ≤ b) := fun b hb => by
    have h0 := owd b hb
    have h1 := bc.size
    have h2 := bb.size
    have h3 : w10.heap.size ≤ w11.heap.size := ba.size
    omega
  have HX : Hid (∀ x ∈ its, Nw w14 x.g x.p ∧ w3.heap.size ≤ x.g ∧ x.g < w10.heap.size ∧ 0 < x.p.length ∧ x.p.length ≤ 8192) := fun x hx => by
    have z1 := HZ34.out
    have z2 := HZ45.out
    have z3 := HZ56.out
    have z4 := HZ67.out
    have z5 := HZ78.out
    have z6 := HB10.out.size
    have hq : ∀ xs : List It, ps xs = Wl.scan l → x ∈ xs → 0 < x.p.length ∧ x.p.length ≤ 8192 := fun xs h1 h2 => by
      have h3 : x.p ∈ ps xs := List.mem_map.2 ⟨x, h2, rfl⟩
      rw [h1] at h3
      have := HAQ.out _ h3
      omega
    have hb : Below w8.heap.size w8 w14 := keepD HB10.out hb14
    rw [hits] at hx
    simp only [List.mem_append] at hx
    rcases hx with ((h | h) | (h | h)) | h
    · have hp := HP0.out x h
      exact ⟨(HT0.out.nw x h).below hb, by omega, by omega, hq _ HPS0.out h⟩
    · have hp := HP1.out x h
      exact ⟨(HT1'.out.nw x h).below hb, by omega, by omega, hq _ HPS1.out h⟩
    · have hp := HP2.out x h
      exact ⟨(HT2'.out.nw x h).below hb, by omega, by omega, hq _ HPS2.out h⟩
    · have hp := HP3.out x h
      exact ⟨(HT3.out.nw x h).below hb, by omega, by omega, hq _ HPS3.out h⟩
    · have hp := HP4.out x h
      exact ⟨(HT4.out.nw x h).below hb14, by omega, by omega, hq _ HPS4.out h⟩
  have HRISE : Hid (its.Pairwise (fun x y => x.g < y.g)) := by
    have z1 := HZ34.out
    have z2 := HZ45.out
    have z3 := HZ56.out
    have z4 := HZ67.out
    have z5 := HZ78.out
    show List.Pairwise _ _
    rw [hits]
    refine rise_append w8.heap.size (rise_append w5.heap.size (rise_append w4.heap.size HW0.out HW1.out ?_ ?_) (rise_append w7.heap.size HW2.out HW3.out ?_ ?_) ?_ ?_) HW4.out ?_ ?_
    · intro x hx; have := HP0.out x hx; omega
    · intro x hx; have := HP1.out x hx; omega
    · intro x hx; have := HP2.out x hx; omega
    · intro x hx; have := HP3.out x hx; omega
    · intro x hx
      rcases List.mem_append.1 hx with h | h
      · have := HP0.out x h; omega
      · have := HP1.out x h; omega
    · intro x hx
      rcases List.mem_append.1 hx with h | h
      · have := HP2.out x h; omega
      · have := HP3.out x h; omega
    · intro x hx
      rcases List.mem_append.1 hx with h | h
      · rcases List.mem_append.1 h with h | h
        · have := HP0.out x h; omega
        · have := HP1.out x h; omega
      · rcases List.mem_append.1 h with h | h
        · have := HP2.out x h; omega
        · have := HP3.out x h; omega
    · intro x hx; have := HP4.out x hx; omega
  have HFIN : Hid (∀ W, Fr (its.map It.g) w14 W → Rc W (.slice oa l.length ca) l ∧ Rc W (.slice ow l.length cw) l ∧ Rc W (.slice oO A.length cO) A ∧ Dk W p F2 (plain A 1073741824) ∧ crcw.Tab W ∧ Below w.heap.size w W) := fun W hf => by
    have z0 := HB3.out.size
    have z1 := HZ34.out
    have z2 := HZ45.out
    have z3 := HZ56.out
    have z4 := HZ67.out
    have z5 := HZ78.out
    have z6 := HB10.out.size
    have z7 := hb14.size
    have hb : Below w8.heap.size w8 w14 := keepD HB10.out hb14
    have h1 : Below w1.heap.size w14 W := hf.below (fun k hk => by
      obtain ⟨x, hx, rfl⟩ := List.mem_map.1 hk
      have := (HX.out x hx).2.1
      omega) (by omega)
    have h2 : Below w1.heap.size w1 W := (HB8.out.trans (hb.mono HB8.out.size)).trans h1
    have h3 : Below w.heap.size w W := keepD HB1.out h2
    have hon : Bs w14 (its.map It.g) (.slice oO A.length cO) A := by
      refine ⟨(HON.out.below hb).rc, fun a n c e => ⟨fun hm => ?_, ((HON.out.below hb).far a n c e).2⟩⟩
      obtain ⟨x, hx, he⟩ := List.mem_map.1 hm
      have hq := HPO.out a n c e
      rw [hits] at hx
      simp only [List.mem_append] at hx
      rcases hx with ((h | h) | (h | h)) | h
      · have := HP0.out x h; omega
      · have := HP1.out x h; omega
      · have := HP2.out x h; omega
      · have := HP3.out x h; omega
      · have := HP4.out x h; omega
    refine ⟨HR.out.below h3, (rc_own HWAS.out).below h2, (hon.fr hf (fun _ hk => Or.inl hk)).rc, (HD8.out.below hb).other hf (fun k hk hm => ?_), HTE.out _ h3, h3⟩
    obtain ⟨x, hx, he⟩ := List.mem_map.1 hm
    rw [hits] at hx
    simp only [List.mem_append] at hx
    rcases hx with ((h | h) | (h | h)) | h
    · exact HT0.out.aside x h (he ▸ hk)
    · exact HT1'.out.aside x h (he ▸ hk)
    · exact HT2'.out.aside x h (he ▸ hk)
    · exact HT3.out.aside x h (he ▸ hk)
    · have h5 := HP4.out x h
      have h6 := HD8.out.lt k hk
      omega
  have HROWF : Hid (∀ W, Fr (its.map It.g) w14 W → W.ownsRow 0 22 1 vl its.length (its.map It.v)) := fun W hf => own_frF hrow hf (fun b hb hm => by
    obtain ⟨x, hx, he⟩ := List.mem_map.1 hm
    have h1 := HOWN.out b hb
    have h2 := (HX.out x hx).2.2.1
    omega)
  obtain ⟨ol, cl, hvl⟩ : ∃ ol cl, vl = .slice ol its.length cl := by
    rcases hrow.2 with ⟨h0, h1⟩ | ⟨g, cap, cur, h0, _⟩
    · exact ⟨none, 0, by rw [h0, h1]⟩
    · exact ⟨_, cap, h0⟩
  subst hvl
  clear hb14 hits hus hrow rwa owa ba rwb owb bb rwc owc bc rwd owd bd HC4 hpl HR0 HR1 HR2 HR3 HR4 HBA HBB HBC HBD HT0 HT1' HT2' HT3 HT4 HP0 HP1 HP2 HP3 HP4 HW0 HW1 HW2 HW3 HW4 HPS0 HPS1 HPS2 HPS3 HPS4 HLN HON HPO HD8 HB10 HB8 HB9 HZ9 HBW9 HFF HB14
  go_wp2
  go_loopw [22] (fun i wr => ∃ k : Nat, k ≤ its.length ∧ i = .int .i64 k ∧ Mk w14 its k wr) (fun i _ => its.length - (intOf i).toNat)
  case atStart => exact ⟨0, Nat.zero_le _, rfl, mk_start (fun x hx => (HX.out x hx).1)⟩
  case round =>
    obtain ⟨i, hi, rfl, hmk⟩ := hrel
    have HMK := hide hmk
    clear hmk
    by_cases hlt : i < its.length
    · obtain ⟨gl, cl', hvl, hgl, hcl⟩ := own_cell (HROWF.out _ HMK.out.fr) i (by rw [List.length_map]; exact hlt)
      cases hvl
      rw [List.getElem_map] at hcl
      have HGL : Hid (w10.heap.size ≤ gl) := HOWN.out gl rfl
      have HXI := hide (HX.out its[i] (List.getElem_mem hlt))
      have hnwi := HMK.out.nw i hlt
      rw [if_neg (Nat.lt_irrefl i)] at hnwi
      have HNX : Hid (∀ W, Nw W its[i].g (List.replicate its[i].p.length (mkB i)) → Fr [its[i].g] wr W → Mk w14 its (i + 1) W) := fun W h1 h2 => HMK.out.next HRISE.out hlt h1 h2
      generalize its[i]'hlt = x at *
      obtain ⟨xe, xg, xp⟩ := x
      simp only [It.v] at hcl
      have HNI := hide hnwi
      have HCL := hide hcl
      have i0 : (0 : Int) ≤ (i : Int) := Int.natCast_nonneg _
      have i1 : (i : Int) < (its.length : Int) := by omega
      have hxl : xp.length ≤ 8192 := HXI.out.2.2.2.2
      clear hnwi
      go_wp2
      go_loopw [23] (fun kk wq => ∃ k : Nat, k ≤ xp.length ∧ kk = .int .i64 k ∧ Nw wq xg (half xp k (mkB i)) ∧ Fr [xg] wr wq) (fun kk _ => xp.length - (intOf kk).toNat)
      case atStart => exact ⟨0, Nat.zero_le _, rfl, by rw [half_zero]; exact HNI.out, Fr.refl _ _⟩
      case round =>
        obtain ⟨k, hk, rfl, hnw, hfr⟩ := hrel
        have hc1 : wr.cell? ⟨gl, i, none⟩ = some (.slice (some ⟨xg, 0, none⟩) xp.length xp.length) := by
          rw [World.cell?_of_block (hfr.block gl hgl (fun hm => by
            have h1 := HXI.out.2.2.1
            have h2 := HGL.out
            have h3 : gl = xg := List.mem_singleton.1 hm
            omega))]
          exact HCL.out
        by_cases hlk : k < xp.length
        · obtain ⟨hc2, hf2⟩ := nw_cell hnw k (by rw [half_len _ _ _ hk]; exact hlk)
          have k0 : (0 : Int) ≤ (k : Int) := Int.natCast_nonneg _
          have k1 : (k : Int) < (xp.length : Int) := by omega
          have hmv := mkB_val i
          have HNW := hide hnw
          have HFR := hide hfr
          clear hnw hfr
          go_wp2
          rw [← hmv]
          have R1 := nw_set (k := k) HNW.out (mkB i)
          rw [half_set _ _ _ hlk] at R1
          have R2 := HFR.out.set ⟨xg, k, none⟩ (B (mkB i)) (Or.inl (List.mem_singleton.2 rfl))
          go_roundw
          case rel => exact ⟨k + 1, by omega, by go_num, R1, R2⟩
          case measure => simp [intOf]; omega
        · obtain rfl : k = xp.length := by omega
          rw [half_full] at hnw
          have HMN := hide (HNX.out _ hnw hfr)
          clear hnw hfr
          go_wp2
          go_roundw
          case rel => exact ⟨i + 1, by omega, by go_num, HMN.out⟩
          case measure => simp [intOf]; omega
    · obtain rfl : i = its.length := by omega
      have HM1 : Hid (∀ j (h : j < its.length), Nw wr its[j].g (List.replicate its[j].p.length (mkB j))) := fun j h => by
        have := HMK.out.nw j h
        rw [if_pos h] at this
        exact this
      have HF1' := hide HMK.out.fr
      clear HMK
      obtain ⟨W1, hW1⟩ : ∃ W1, W1 = wr := ⟨_, rfl⟩
      rw [← hW1] at HM1 HF1'
      have HE1 := hide hW1
      have HB20 : Hid (Below W1.heap.size W1 wr) := by show Below _ _ _; rw [← hW1]; exact Below.refl _ _
      clear hW1
      go_wp2
      go_loopw [24, 25] (fun vg iv wr => ∃ (i : Nat) (us : List Value), i ≤ its.length ∧ us.length = i ∧ iv = .int .i64 i ∧ wr.ownsRow W1.heap.size 22 1 vg us.length us ∧ (∀ j (h1 : j < us.length) (h2 : j < its.length), wr.ownsRow W1.heap.size 5 1 us[j] (grn j its[j]).length ((grn j its[j]).map B)) ∧ Below W1.heap.size W1 wr) (fun _ i _ => its.length - (intOf i).toNat)
      case atStart => exact ⟨0, [], Nat.zero_le _, rfl, rfl, World.ownsRow_nil _ _ _ _, fun j h1 => absurd h1 (Nat.not_lt_zero _), HB20.out⟩
      case round =>
        obtain ⟨i, us, hi, hus, rfl, hown, hrows, hnx⟩ := hrel
        by_cases hlt : i < its.length
        · obtain ⟨gl, cl', hvl, hgl, hcl⟩ := own_cell (own_below (HROWF.out _ HF1'.out) hnx) i (by rw [List.length_map]; exact hlt)
          cases hvl
          rw [List.getElem_map] at hcl
          have hpx : 0 < its[i].p.length ∧ its[i].p.length ≤ 8192 := ⟨(HX.out its[i] (List.getElem_mem hlt)).2.2.2.1, (HX.out its[i] (List.getElem_mem hlt)).2.2.2.2⟩
          have HST := hide (gw_start (b := bhB i) ((HM1.out i hlt).below hnx) hpx.2)
          have HGR : Hid (∀ j (h : j < its.length), j = i → grn j its[j] = List.replicate its[i].p.length (mkB i) ++ List.replicate 64 (bhB i)) := fun j h e => by subst e; rfl
          generalize its[i]'hlt = x at *
          obtain ⟨xe, xg, xp⟩ := x
          simp only [It.v] at hcl HST
          have HO := hide hown
          have HRW := hide hrows
          have HNX2 := hide hnx
          have HUS := hide hus
          have i0 : (0 : Int) ≤ (i : Int) := Int.natCast_nonneg _
          have i1 : (i : Int) < (its.length : Int) := by omega
          have hbv := bhB_val i
          have hbn : ((255 : Int) - (i : Int) % 2) % 256 = 255 - (i : Int) % 2 := by omega
          obtain ⟨Wo, hWo⟩ : ∃ Wo, Wo = wr := ⟨_, rfl⟩
          have HST' : Hid (Gw Wo ⟨xe, xg, xp⟩ (mkB i) (bhB i) 0 (.slice (some ⟨xg, 0, none⟩) xp.length xp.length) wr) := by
            show Gw _ _ _ _ _ _ _
            rw [hWo]; exact HST.out
          rw [← hWo] at HO HRW HNX2
          have hzo : W1.heap.size ≤ Wo.heap.size := HNX2.out.size
          clear hown hrows hnx hus HST hWo
          go_wp2
          go_loopw [26, 27] (fun u kv wq => ∃ k : Nat, k ≤ 64 ∧ kv = .int .i64 k ∧ Gw Wo ⟨xe, xg, xp⟩ (mkB i) (bhB i) k u wq) (fun _ kv _ => 64 - (intOf kv).toNat)
          case atStart => exact ⟨0, by decide, rfl, HST'.out⟩
          case round =>
            obtain ⟨k, hk, rfl, hgw⟩ := hrel
            by_cases hlk : k < 64
            · have HGW := hide hgw
              have hrw := hgw.row
              have k1 : (k : Int) < 64 := by omega
              clear hgw
              go_wp2_with (at_builtin; refine ak.wpList_append_keep _ rfl _ _ 22 rfl 0 5 i8 (.int .u8 0) 1 1 Tryd.underlying22 hi8 hy0 hy1 hy2 rfl (by decide) _ _ _ rfl (hrw.alloc _) ⟨wr.heap.size, 0, none⟩ 1 [B (bhB i)] rfl rfl ?c1 ?c2 ?c3 ?c4 ?c5 ?_)
              case c2 => first | rfl | (intro u hu; simp at hu; subst hu; rfl)
              case c3 => unfold maxLen; omega
              case c4 => omega
              try (case c5 => omega)
              case c1 => intro j u h; rw [← hbv]; exact h
              intro v' w1 hown' hd
              have R1 : Hid (Gw Wo ⟨xe, xg, xp⟩ (mkB i) (bhB i) (k + 1) v' w1) := HGW.out.next (tmp := .cells #[Value.int .u8 (255 - (i : Int) % 2)] 5) (by simpa using hown') (by simpa using hd)
              clear hown' hd HGW hrw
              go_wp2
              go_roundw
              case rel => exact ⟨k + 1, by omega, by go_num, R1.out⟩
              case measure => simp [intOf]; omega
            · have k2 : ¬ ((k : Int) < 64) := by omega
              have h64 : k = 64 := by omega
              rw [h64] at hgw
              have HPN : Hid (wr.ownsRow W1.heap.size 5 1 u26 (List.replicate xp.length (mkB i) ++ List.replicate 64 (bhB i)).length ((List.replicate xp.length (mkB i) ++ List.replicate 64 (bhB i)).map B)) := by
                have h1 := own_up hgw.row (base := W1.heap.size) (fun g hg => Nat.le_trans hzo (hgw.new (by decide) g hg))
                have h2 : (List.replicate xp.length (mkB i) ++ List.replicate 64 (bhB i)).length = xp.length + 64 := by simp
                show World.ownsRow _ _ _ _ _ _ _
                rw [h2]
                exact h1
              have HLW := hide (hgw.low)
              have HO2 := hide (own_below HO.out hgw.low)
              have HX2 : Hid (Below W1.heap.size W1 wr) := HNX2.out.trans (hgw.low.mono hzo)
              have HRW2 : Hid (∀ j (h1 : j < us.length) (h2 : j < its.length), wr.ownsRow W1.heap.size 5 1 us[j] (grn j its[j]).length ((grn j its[j]).map B)) := fun j h1 h2 => own_below (HRW.out j h1 h2) hgw.low
              obtain ⟨og, cg, rfl⟩ := (rd_own HPN.out).len
              have hsz2 := HX2.out.size
              have hul : us.length ≤ 5242880 := by have := HUS.out; omega
              clear hgw h64 HO HRW
              go_wp2_with (at_builtin; refine wpList_append_own _ rfl _ _ 28 rfl W1.heap.size 22 iL (.slice none 0 0) 1 24 Tryd.underlying28 hiL hq0 hq1 hq2 rfl (by decide) _ _ _ rfl (HO2.out.alloc _) ⟨wr.heap.size, 0, none⟩ 1 1 [.slice og (List.replicate xp.length (mkB i) ++ List.replicate 64 (bhB i)).length cg] rfl rfl ?d1 ?d2 ?d3 ?d4 ?d5 ?_)
              try (case d1 => first | exact fun j u h => h | exact cell_one_new _ _ _)
              try (case d5 => first | omega | (simp; omega))
              case d2 => rfl
              case d3 => unfold maxLen; omega
              case d4 => omega
              intro v3 w3 hown' hgrow _
              have hl64 : (List.replicate xp.length (mkB i) ++ List.replicate 64 (bhB i)).length = xp.length + 64 := by simp
              rw [hl64] at HPN
              have R1 : Hid (w3.ownsRow W1.heap.size 22 1 v3 (us ++ [Value.slice og (xp.length + 64) cg]).length (us ++ [Value.slice og (xp.length + 64) cg])) := by
                show World.ownsRow _ _ _ _ _ _ _
                rw [List.length_append]; exact hown'
              have R2 : Hid (Below W1.heap.size W1 w3) := HX2.out.trans (grown_below _ hsz2 HO2.out hgrow)
              have R3 : Hid (∀ j (h1 : j < (us ++ [Value.slice og (xp.length + 64) cg]).length) (h2 : j < its.length), w3.ownsRow W1.heap.size 5 1 (us ++ [Value.slice og (xp.length + 64) cg])[j] (grn j its[j]).length ((grn j its[j]).map B)) := fun j h1 h2 => by
                by_cases hj : j < us.length
                · rw [List.getElem_append_left hj]
                  exact own_grown (HRW2.out j hj h2) HO2.out (by decide) hgrow
                · have hju : j = us.length := by rw [List.length_append] at h1; simp only [List.length_cons, List.length_nil] at h1; omega
                  have hji : j = i := by rw [hju]; exact HUS.out
                  rw [HGR.out j h2 hji, List.getElem_append_right (by omega), hl64]
                  simp only [hju, Nat.sub_self, List.getElem_cons_zero]
                  exact own_grown HPN.out HO2.out (by decide) hgrow
              clear hown' hgrow HO2 HX2 HRW2 HPN
              go_wp2
              go_roundw
              case rel => exact ⟨i + 1, us ++ [.slice og (xp.length + 64) cg], by omega, by rw [List.length_append, HUS.out]; rfl, by go_num, R1.out, R3.out, R2.out⟩
              case measure => simp [intOf]; omega
        · obtain rfl : i = its.length := by omega
          obtain ⟨W2, hW2⟩ : ∃ W2, W2 = wr := ⟨_, rfl⟩
          rw [← hW2] at hown hrows hnx
          have HO := hide hown
          have HRW := hide hrows
          have HNX := hide hnx
          have HUS := hide hus
          have HB30 : Hid (Below W2.heap.size W2 wr) := by show Below _ _ _; rw [← hW2]; exact Below.refl _ _
          have HM2 : Hid (∀ j (h : j < its.length), Nw W2 its[j].g (List.replicate its[j].p.length (mkB j))) := fun j h => (HM1.out j h).below hnx
          have HR2 : Hid (W2.ownsRow 0 22 1 (.slice ol its.length cl) its.length (its.map It.v)) := own_below (HROWF.out _ HF1'.out) hnx
          obtain ⟨on, cn, hun⟩ : ∃ on cn, u24 = .slice on its.length cn := by
            rcases hown.2 with ⟨h0, h1⟩ | ⟨g, cap, cur, h0, _⟩
            · exact ⟨none, 0, by rw [h0, ← hus, h1]⟩
            · exact ⟨_, cap, by rw [h0, hus]⟩
          subst hun
          clear hown hrows hnx hus hW2
          go_wp2
          go_loopw [28] (fun iv wr => ∃ i : Nat, i ≤ its.length ∧ iv = .int .i64 i ∧ Below W2.heap.size W2 wr) (fun iv _ => its.length - (intOf iv).toNat)
          case atStart => exact ⟨0, Nat.zero_le _, rfl, HB30.out⟩
          case round =>
            obtain ⟨i, hi, rfl, hnx⟩ := hrel
            by_cases hlt : i < its.length
            · have hiu : i < us.length := by rw [HUS.out]; exact hlt
              obtain ⟨gl, cl', hvl, hgl, hcl⟩ := own_cell HR2.out i (by rw [List.length_map]; exact hlt)
              cases hvl
              rw [List.getElem_map] at hcl
              obtain ⟨gn, cn', hvn, hgn, hcn⟩ := own_cell HO.out i hiu
              injection hvn with hv1 hv2 hv3
              subst hv1
              have hrw := HRW.out i hiu hlt
              obtain ⟨gu, cu, hvu, hgu, hcu⟩ := own_slot hrw (by rw [grn_len]; omega)
              rw [hvu, grn_len] at hcn
              have hnw := HM2.out i hlt
              have hlo : ∀ k (h : k < its[i].p.length), W2.cell? ⟨gu, k, none⟩ = some (B (mkB i)) := fun k h => by
                have h2 : k < (grn i its[i]).length := by rw [grn_len]; omega
                rw [hcu k h2, grn_lo i its[i] k h h2]
              have hhi : ∀ k, ¬ k < its[i].p.length → k < its[i].p.length + 64 → W2.cell? ⟨gu, k, none⟩ = some (B (bhB i)) := fun k h h3 => by
                have h2 : k < (grn i its[i]).length := by rw [grn_len]; omega
                rw [hcu k h2, grn_hi i its[i] k h h2]
              have hpl : its[i].p.length ≤ 8192 := (HX.out its[i] (List.getElem_mem hlt)).2.2.2.2
              clear hcu hvu hrw
              generalize its[i]'hlt = x at *
              obtain ⟨xe, xg, xp⟩ := x
              simp only [It.v] at hcl
              simp only at hlo hhi hpl hnw hcn
              have hal : ∀ k (h : k < xp.length), W2.cell? ⟨xg, k, none⟩ = some (B (mkB i)) := fun k h => by
                have h1 := (nw_cell hnw k (by simpa using h)).1
                simpa using h1
              have hxg : xg < W2.heap.size := (Array.getElem?_eq_some_iff.1 hnw).1
              have HCE : Hid (∀ Y, Below W2.heap.size W2 Y → Y.cell? ⟨gl, i, none⟩ = some (.slice (some ⟨xg, 0, none⟩) xp.length xp.length) ∧ Y.cell? ⟨gn, i, none⟩ = some (.slice (some ⟨gu, 0, none⟩) (xp.length + 64) cu) ∧ (∀ k, k < xp.length → Y.cell? ⟨xg, k, none⟩ = some (B (mkB i)) ∧ Y.cell? ⟨gu, k, none⟩ = some (B (mkB i))) ∧ (∀ k, ¬ k < xp.length → k < xp.length + 64 → Y.cell? ⟨gu, k, none⟩ = some (B (bhB i)))) := fun Y hY =>
                ⟨by rw [World.cell?_of_block (hY.block _ hgl)]; exact hcl, by rw [World.cell?_of_block (hY.block _ hgn)]; exact hcn, fun k h => ⟨by rw [World.cell?_of_block (hY.block _ hxg)]; exact hal k h, by rw [World.cell?_of_block (hY.block _ hgu)]; exact hlo k h⟩, fun k h h2 => by rw [World.cell?_of_block (hY.block _ hgu)]; exact hhi k h h2⟩
              have HNW2 := hide hnx
              have i0 : (0 : Int) ≤ (i : Int) := Int.natCast_nonneg _
              have i1 : (i : Int) < (its.length : Int) := by omega
              have hmv := mkB_val i
              have hbv := bhB_val i
              clear hcl hcn hal hlo hhi hnx hnw
              go_wp2
              go_loopw [29] (fun kv wq => ∃ k : Nat, k ≤ xp.length ∧ kv = .int .i64 k ∧ Below W2.heap.size W2 wq) (fun kv _ => xp.length - (intOf kv).toNat)
              case atStart => exact ⟨0, Nat.zero_le _, rfl, HNW2.out⟩
              case round =>
                obtain ⟨k, hk, rfl, hnx⟩ := hrel
                obtain ⟨c1, c2, c3, c4⟩ := HCE.out wr hnx
                have k0 : (0 : Int) ≤ (k : Int) := Int.natCast_nonneg _
                by_cases hlk : k < xp.length
                · have k1 : (k : Int) < (xp.length : Int) := by omega
                  have k3 : (k : Int) < (xp.length : Int) + 64 := by omega
                  obtain ⟨c5, c6⟩ := c3 k hlk
                  have HN3 := hide hnx
                  clear c3 c4 hnx
                  go_wp2
                  go_roundw
                  case rel => exact ⟨k + 1, by omega, by go_num, HN3.out⟩
                  case measure => simp [intOf]; omega
                · have k1 : ¬ ((k : Int) < (xp.length : Int)) := by omega
                  have HN3 := hide hnx
                  clear c3 c4 hnx
                  go_wp2
                  go_loopw [30] (fun kv wq => ∃ k : Nat, xp.length ≤ k ∧ k ≤ xp.length + 64 ∧ kv = .int .i64 k ∧ Below W2.heap.size W2 wq) (fun kv _ => xp.length + 64 - (intOf kv).toNat)
                  case atStart => exact ⟨xp.length, Nat.le_refl _, by omega, rfl, HN3.out⟩
                  case round =>
                    obtain ⟨m, hm0, hm, rfl, hnx⟩ := hrel
                    obtain ⟨c1, c2, c3, c4⟩ := HCE.out wr hnx
                    have m0 : (0 : Int) ≤ (m : Int) := Int.natCast_nonneg _
                    have HN4 := hide hnx
                    by_cases hlm : m < xp.length + 64
                    · have m1 : (m : Int) < (xp.length : Int) + 64 := by omega
                      have c5 := c4 m (by omega) hlm
                      clear c3 c4 hnx
                      go_wp2
                      go_roundw
                      case rel => exact ⟨m + 1, by omega, by omega, by go_num, HN4.out⟩
                      case measure => simp [intOf]; omega
                    · have m1 : ¬ ((m : Int) < (xp.length : Int) + 64) := by omega
                      clear c3 c4 hnx
                      go_wp2
                      go_roundw
                      case rel => exact ⟨i + 1, by omega, by go_num, HN4.out⟩
                      case measure => simp [intOf]; omega
            · have i1 : ¬ ((i : Int) < (its.length : Int)) := by omega
              have hfz : Fr (its.map It.g) w14 wr := (HF1'.out.next HNX.out).next (hnx.mono (Nat.le_refl _))
              obtain ⟨e1, e2, e3, e4, e5, e6⟩ := HFIN.out wr hfz
              have HE1 := hide e1
              have HE2 := hide e2
              have HE3 := hide e3
              have HE5 := hide e5
              have HE6 := hide e6
              have HLK := hide (look_any wr p F2 (plain A 1073741824) e4 (by show A.length ≤ _; omega))
              clear e1 e2 e3 e4 e5 e6 hfz hnx HRW HO HR2 HM2 HUS HNX HX HRISE HROWF HFIN HM1 HF1'
              go_wp2_with fail
              refine HLK.out.mono ?_
              rintro r' y1 ⟨vs, rfl, hans, b1⟩
              have HST := hide (ans_rc hans)
              obtain ⟨os, cs, hvs⟩ := HST.out.rd.len
              subst hvs
              have HY1 := hide b1
              have HSC := hide (scan_any y1 _ l (HE1.out.below b1) (by omega) (HTE.out _ (keepD HE6.out b1)))
              clear HLK hans b1
              go_wp2_with fail
              refine HSC.out.mono ?_
              rintro r' y2 ⟨v5, its5, rfl, hps5, hown5, hits5, b2⟩
              have HLS := hide (ls_itsW hown5 hits5)
              rw [hps5] at HLS
              have HY2 : Hid (Below wr.heap.size wr y2) := keepD HY1.out b2
              have HST2 := hide (HST.out.below b2)
              have HRS := hide (refScan_any y2 _ l (HE2.out.below HY2.out) (by omega))
              clear HSC hps5 hown5 hits5 b2 HST
              go_wp2_with fail
              refine HRS.out.mono ?_
              rintro r' y3 ⟨v6, rfl, hls6, b3⟩
              have HY3 : Hid (Below wr.heap.size wr y3) := keepD HY2.out b3
              have HST3 := hide (HST2.out.below b3)
              have HS1 := hide (same_any y3 _ _ (Wl.scan l) (HLS.out.below b3) hls6 (by have := HAN.out; omega) (fun q hq => by have := HAQ.out q hq; omega))
              clear HRS hls6 b3 HST2 HLS
              go_wp2_with fail
              refine HS1.out.mono ?_
              rintro r' y4 ⟨rfl, b4⟩
              have HY4 : Hid (Below wr.heap.size wr y4) := keepD HY3.out b4
              have HST4 := hide (HST3.out.below b4)
              have HS2 := hide (sameBytes_eq y4 _ _ l (HE1.out.below HY4.out).rd (HE2.out.below HY4.out).rd (by omega))
              clear HS1 b4 HST3
              go_wp2_with fail
              refine HS2.out.mono ?_
              rintro r' y5 ⟨rfl, b5⟩
              have HY5 : Hid (Below wr.heap.size wr y5) := keepD HY4.out b5
              have HS3 := hide (sameBytes_eq y5 _ _ A (HE3.out.below HY5.out).rd (HST4.out.below b5).rd (by omega))
              clear HS2 b5
              go_wp2_with fail
              refine HS3.out.mono ?_
              rintro r' y6 ⟨rfl, b6⟩
              have HFI : Hid (Below w.heap.size w y6) := keepD HE6.out (keepD HY5.out b6)
              clear HS3 b6
              go_wp2
              go_ret
              exact ⟨rfl, HFI.out⟩
end Go.Proofs.YticncaoecoehkaaDoor.wl
