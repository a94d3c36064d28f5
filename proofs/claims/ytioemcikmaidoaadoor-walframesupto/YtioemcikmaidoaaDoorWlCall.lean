import Derived.Test.YtioemcikmaidoaaDoorWlEach
namespace Go.Proofs.YtioemcikmaidoaaDoor.wl
open Go.ChangeShapes Go.WideShapes Go.ChangeAt Go.RowKit Go.Proofs.YtioemcikmaidoaaDoor.common Go.Proofs.YtioemcikmaidoaaDoor.dk

set_option maxRecDepth 100000 in
set_option maxHeartbeats 3200000 in
theorem frames_call (v1 v2 v3 v4 v5 v6 v7 : Value) (K bd N : Nat) (l : List UInt8) (hl : l.length ≤ 4611686018427387904) (v : Value) (W : World) (hbx : Boxed W bd 22 v) (hR : Rc W v l) (hK : 0 < l.length → ∀ a m c, v = .slice (some a) m c → a.block < K) (ht : crcw.Tab W) (hG : 13 < K) (hN : N ≤ W.heap.size) (hKW : K ≤ W.heap.size)
    (J Jx : List It → World → Prop) (hJb : ∀ pre A A', J pre A → Below A.heap.size A A' → J pre A')
    (hY : ∀ pre x A, J pre A → Kp K bd W A → ps (pre ++ [x]) <+: Wl.scan l → Fresh N l.length pre x A → Calls Tryd.prog 15 #[.int .i64 (x.e : Int), x.v, v1, v2, v3, v4, v5, v6, v7] A fun e A' => (e = .returned (.bool true) ∧ J (pre ++ [x]) A' ∧ Kp K bd A A') ∨ (e = .returned (.bool false) ∧ Jx (pre ++ [x]) A'))
    (h0 : J [] W) :
    Calls Tryd.prog 25 #[.func (.func 15) #[] #[v1, v2, v3, v4, v5, v6, v7], .pointer (some ⟨bd, 0, none⟩)] W fun e W' => e = .returned (.tuple #[]) ∧ ((∃ xs, ps xs = Wl.scan l ∧ J xs W') ∨ (∃ pre, Jx pre W')) := by
  have HENV : Hid (∀ Y, Kp K bd W Y → Boxed Y bd 22 v ∧ Rc Y v l ∧ crcw.Tab Y) := fun Y hY => by
    refine ⟨(hY.2 bd (Or.inr rfl)).trans hbx, ?_, fun i hi => ?_⟩
    · obtain ⟨oa, cap, rfl, hc, hr⟩ := hR
      refine ⟨oa, cap, rfl, hc, fun h0 => ?_⟩
      obtain ⟨g, o, rfl, hg, hr⟩ := hr h0
      exact ⟨g, o, rfl, Nat.lt_of_lt_of_le hg hY.1, range_block hr (hY.2 g (Or.inl (hK h0 _ _ _ rfl)))⟩
    · rw [← ht i hi]
      exact World.cell?_of_block (hY.2 _ (Or.inl hG))
  obtain ⟨oa, cap, rfl, hcap, _⟩ := hR
  have HN := hide hN
  have HK1 : Hid (Kp K bd W W) := ⟨Nat.le_refl _, fun _ _ => rfl⟩
  have HKW : Hid (∀ k, k < K ∨ k = bd → k < W.heap.size) := fun k hk => by
    rcases hk with h | h
    · omega
    · rw [h]; exact (Array.getElem?_eq_some_iff.1 hbx).1
  clear hbx ht hG hK hN
  go_enter Tryd.func25, Tryd.ntmps25
  go_wp2_with fail
  go_loopw [3] (fun i wr => ∃ (pre : List It) (r : List UInt8), l = Wl.flat (ps pre) ++ r ∧ (∀ q ∈ ps pre, Wl.fit q.length = true) ∧ i = .int .i64 ((Wl.flat (ps pre)).length : Int) ∧ Kp K bd W wr ∧ N ≤ wr.heap.size ∧ (∀ y ∈ pre, y.g < wr.heap.size) ∧ J pre wr) (fun i _ => l.length - (intOf i).toNat)
  case atStart => exact ⟨[], l, rfl, by simp [ps], rfl, HK1.out, HN.out, by simp, h0⟩
  case round =>
    obtain ⟨pre, r, hlr, hft, rfl, hkp, hN, hpg, hJ⟩ := hrel
    obtain ⟨hbx, hRc, htb⟩ := HENV.out wr hkp
    have cb := hbx.cell
    obtain ⟨e, he⟩ : ∃ e, e = (Wl.flat (ps pre)).length := ⟨_, rfl⟩
    have hel : e ≤ l.length := by rw [he, hlr, List.length_append]; omega
    have hrd : l.drop e = r := by rw [he, hlr, List.drop_left]
    have k0 : (0 : Int) ≤ (e : Int) := Int.natCast_nonneg _
    have k1 : (e : Int) ≤ (l.length : Int) := by omega
    have k2 : (l.length : Int) ≤ (cap : Int) := by omega
    have HFI : Hid (∀ oa', (∀ g o, oa = some ⟨g, o, none⟩ → ¬ cap = e → oa' = some ⟨g, o + e, none⟩) → Calls Tryd.prog 26 #[.slice oa' (l.length - e) (cap - e)] wr fun e w' => ∃ v', e = .returned (.tuple #[v', .bool (fiB r)]) ∧ (fiB r = false → v' = .slice none 0 0) ∧ (fiB r = true → ∃ g, wr.heap.size ≤ g ∧ v' = .slice (some ⟨g, 0, none⟩) (fiL r).length (fiL r).length ∧ Nw w' g (fiL r)) ∧ Below wr.heap.size wr w') := fun oa' ho => by
      have h1 := Rc.from hRc e hel oa' ho
      rw [hrd] at h1
      exact first_any wr _ r h1 (by rw [← hrd, List.length_drop]; omega) htb
    rw [← he]
    have HLR := hide hlr
    have HFT := hide hft
    have HE := hide he
    have HRD := hide hrd
    have HJ := hide hJ
    have HKP := hide hkp
    have HNW := hide hN
    have HPG := hide hpg
    have HBX := hide hbx
    clear hlr hft he hrd hkp hN hpg hbx hRc htb
    by_cases hce : cap = e
    · have hr0 : r = [] := by rw [← HRD.out]; exact List.drop_eq_nil_of_le (by omega)
      have hfb : fiB r = false := by rw [hr0]; rfl
      have hf0 : Wl.first r = none := by rw [hr0]; exact Wl.first_nil
      subst hce
      have hcc : cap - cap = 0 := Nat.sub_self _
      have hF := HFI.out oa (fun g o _ h => absurd rfl h)
      rw [hfb, hcc, show l.length - cap = 0 by omega] at hF
      have HF := hide hF
      clear hF HFI
      go_wp2_with fail
      refine HF.out.mono ?_
      rintro r' w2 ⟨v', rfl, hv0, _, b2⟩
      obtain rfl := hv0 (by trivial)
      go_wp2_with fail
      refine bodyPost_ret (results_none rfl _ _ _) rfl ?_
      exact ⟨rfl, .inl ⟨pre, (Wl.scan_eq ⟨HLR.out, HFT.out, hf0⟩).symm, hJb _ _ _ HJ.out b2⟩⟩
    · have hce' : ¬ cap - e = 0 := by omega
      have hF := HFI.out (Option.map (fun x : Addr => x.add e) oa) (fun g o h _ => by rw [h]; show some (Addr.add _ _) = _; rw [Addr.add_mid])
      have HF := hide hF
      clear hF HFI
      go_wp2_with fail
      refine HF.out.mono ?_
      rintro r' w2 ⟨v', rfl, hv0, hv1, b2⟩
      cases hfb : fiB r with
      | false =>
        have hf0 : Wl.first r = none := by
          unfold fiB at hfb
          cases hq : Wl.first r with
          | none => rfl
          | some q => rw [hq] at hfb; cases hfb
        obtain rfl := hv0 hfb
        go_wp2_with fail
        refine bodyPost_ret (results_none rfl _ _ _) rfl ?_
        exact ⟨rfl, .inl ⟨pre, (Wl.scan_eq ⟨HLR.out, HFT.out, hf0⟩).symm, hJb _ _ _ HJ.out b2⟩⟩
      | true =>
        obtain ⟨g, hg, rfl, hnw⟩ := hv1 hfb
        obtain ⟨p, hp⟩ : ∃ p, p = fiL r := ⟨_, rfl⟩
        have hf0 : Wl.first r = some p := by
          unfold fiB at hfb
          unfold fiL at hp
          cases hq : Wl.first r with
          | none => rw [hq] at hfb; cases hfb
          | some q => rw [hq] at hp; rw [hp]; rfl
        rw [← hp] at hnw ⊢
        obtain ⟨hpf, hpr⟩ := Wl.first_some hf0
        have hple := Wl.first_le hf0
        have hpl := (Wl.fit_iff _).1 hpf
        obtain ⟨E, hE⟩ : ∃ E, E = e + (8 + p.length) := ⟨_, rfl⟩
        have hrl : r.length = l.length - e := by rw [← HRD.out, List.length_drop]
        have hEi : (e : Int) + (8 + (p.length : Int)) = (E : Int) := by omega
        have hEl : E ≤ l.length := by omega
        have HJ2 := hJb _ _ _ HJ.out b2
        have hflat : Wl.flat (ps (pre ++ [⟨E, g, p⟩])) = Wl.flat (ps pre) ++ Wl.fr p := by rw [ps_snoc, Wl.flat_snoc]
        have hE2 : E = (Wl.flat (ps (pre ++ [⟨E, g, p⟩]))).length := by rw [hflat, List.length_append, Wl.fr_len, ← HE.out, hE]
        have hfresh : Fresh N l.length pre ⟨E, g, p⟩ w2 := ⟨hEl, hE2, hnw, fun y hy => Nat.lt_of_lt_of_le (HPG.out y hy) hg, Nat.le_trans HNW.out hg, hpf⟩
        have HKP2 : Hid (Kp K bd W w2) := ⟨Nat.le_trans HKP.out.1 b2.size, fun k hk => (b2.block k (Nat.lt_of_lt_of_le (HKW.out k hk) HKP.out.1)).trans (HKP.out.2 k hk)⟩
        have HG2 : Hid (g < w2.heap.size) := (Array.getElem?_eq_some_iff.1 hnw).1
        have HPG2 : Hid (∀ y ∈ pre ++ [(⟨E, g, p⟩ : It)], y.g < w2.heap.size) := fun y hy => by
          rcases List.mem_append.1 hy with h | h
          · exact Nat.lt_of_lt_of_le (HPG.out y h) b2.size
          · rw [List.mem_singleton.1 h]; exact HG2.out
        have HNW2 : Hid (N ≤ w2.heap.size) := Nat.le_trans HNW.out b2.size
        have HX : Hid (l = Wl.flat (ps (pre ++ [⟨E, g, p⟩])) ++ r.drop (8 + p.length)) := by
          show _ = _
          rw [hflat, List.append_assoc, ← hpr]; exact HLR.out
        have HFT2 : Hid (∀ q ∈ ps (pre ++ [(⟨E, g, p⟩ : It)]), Wl.fit q.length = true) := fun q hq => by
          rw [ps_snoc] at hq
          rcases List.mem_append.1 hq with h | h
          · exact HFT.out q h
          · rw [List.mem_singleton.1 h]; exact hpf
        have HE2 := hide hE2
        have hpre : ps (pre ++ [⟨E, g, p⟩]) <+: Wl.scan l := by
          obtain ⟨u, hu⟩ := Wl.scan_good (r.drop (8 + p.length))
          have h1 : Wl.Good l (ps (pre ++ [⟨E, g, p⟩]) ++ Wl.scan (r.drop (8 + p.length))) u := ⟨by rw [Wl.flat_append, List.append_assoc, ← hu.eq]; exact HX.out, fun q hq => by
            rcases List.mem_append.1 hq with h | h
            · exact HFT2.out q h
            · exact hu.fits q h, hu.torn⟩
          exact ⟨_, (Wl.scan_eq h1).symm⟩
        have HYY := hide (hY pre ⟨E, g, p⟩ w2 HJ2 HKP2.out hpre hfresh)
        simp only [It.v] at HYY
        clear hpre hp hfb hv0 hv1 hnw hf0 hpr hfresh hE2 hflat b2 hE
        go_wp2_with fail
        refine HYY.out.mono ?_
        rintro r' W3 (⟨rfl, hJ3, hk3⟩ | ⟨rfl, hJx3⟩)
        · go_wp2_with fail
          go_roundw
          case rel => exact ⟨pre ++ [⟨E, g, p⟩], r.drop (8 + p.length), HX.out, HFT2.out, by rw [← HE2.out], ⟨Nat.le_trans HKP2.out.1 hk3.1, fun k hk => (hk3.2 k hk).trans (HKP2.out.2 k hk)⟩, Nat.le_trans HNW2.out hk3.1, fun y hy => Nat.lt_of_lt_of_le (HPG2.out y hy) hk3.1, hJ3⟩
          case measure => simp [intOf]; omega
        · go_wp2_with fail
          refine bodyPost_ret (results_none rfl _ _ _) rfl ?_
          exact ⟨rfl, .inr ⟨_, hJx3⟩⟩
end Go.Proofs.YtioemcikmaidoaaDoor.wl
