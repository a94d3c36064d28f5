import Derived.Test.YticncaoecoehkaaDoorRangeNew
import Derived.Test.YticncaoecoehkaaDoorWlFirst
import Derived.Shelf.Abstract
import Derived.Shelf.RegionOpen
import Derived.OwnWalkIn
import Derived.TacticsInMore
import Derived.LoopNIn
import Derived.LoopIn
namespace Go.Proofs.YticncaoecoehkaaDoor.wl
open Go.ChangeShapes Go.WideShapes Go.ChangeAt Go.RowKit Go.Shelf Go.Proofs.YticncaoecoehkaaDoor.common Go.Proofs.YticncaoecoehkaaDoor.dk
attribute [local go_sem] Oper.semAt_some

/-- a frame that was handed out: where it ends, its payload's block, its payload -/
structure It where
  e : Nat
  g : Nat
  p : List UInt8
def It.v (x : It) : Value := .slice (some ⟨x.g, 0, none⟩) x.p.length x.p.length
def ps (l : List It) : List (List UInt8) := l.map It.p
/-- a frame that is about to be handed out, behind others -/
def Fresh (N L : Nat) (pre : List It) (x : It) (A : World) : Prop := x.e ≤ L ∧ x.e = (Wl.flat (ps (pre ++ [x]))).length ∧ Nw A x.g x.p ∧ (∀ y ∈ pre, y.g < x.g) ∧ N ≤ x.g ∧ Wl.fit x.p.length = true
/-- what the iterator needs: the memory below K, and its box -/
def Kp (K bd : Nat) (A C : World) : Prop := A.heap.size ≤ C.heap.size ∧ ∀ k, k < K ∨ k = bd → C.heap[k]? = A.heap[k]?
theorem ps_snoc (pre : List It) (x : It) : ps (pre ++ [x]) = ps pre ++ [x.p] := by simp [ps]
/-- bytes from a place on -/
theorem Rc.from {w : World} {oa : Option Addr} {cap : Nat} {l : List UInt8} (h : Rc w (.slice oa l.length cap) l) (k : Nat) (hk : k ≤ l.length) (oa' : Option Addr) (ho : ∀ g o, oa = some ⟨g, o, none⟩ → ¬ cap = k → oa' = some ⟨g, o + k, none⟩) : Rc w (.slice oa' (l.length - k) (cap - k)) (l.drop k) := by
  obtain ⟨oa2, c2, e, hc, hr⟩ := h
  cases e
  refine ⟨oa', cap - k, by rw [List.length_drop], by rw [List.length_drop]; omega, fun h0 => ?_⟩
  rw [List.length_drop] at h0
  obtain ⟨g, o, rfl, hg, hr⟩ := hr (by omega)
  refine ⟨g, o + k, ho g o rfl (by omega), hg, fun j u hu => ?_⟩
  have := hr (k + j) u (by rw [List.map_drop, List.getElem?_drop] at hu; exact hu)
  rwa [← Nat.add_assoc] at this

set_option maxRecDepth 100000 in
set_option maxHeartbeats 3200000 in
theorem frames_seq (n : Nat) (K bd N : Nat) (l : List UInt8) (hl : l.length ≤ 4611686018427387904) (v : Value) (W : World) (hbx : Boxed W bd 22 v) (hR : Rc W v l) (hK : 0 < l.length → ∀ a m c, v = .slice (some a) m c → a.block < K) (ht : crcw.Tab W) (hG : 13 < K) (hN : N ≤ W.heap.size) (hKW : K ≤ W.heap.size) :
    rgn.Seq Fence.wide n Tryd.prog 46 #[.pointer (some ⟨bd, 0, none⟩)] (fun x : It => #[.int .i64 (x.e : Int), x.v]) (Fresh N l.length) (Kp K bd) (fun xs => ps xs = Wl.scan l) W := by
  intro lp J W1 hk hJb hY h0
  have HENV : Hid (∀ Y, Kp K bd W Y → Boxed Y bd 22 v ∧ Rc Y v l ∧ crcw.Tab Y) := fun Y hY => by
    refine ⟨(hY.2 bd (Or.inr rfl)).trans hbx, ?_, fun i hi => ?_⟩
    · obtain ⟨oa, cap, rfl, hc, hr⟩ := hR
      refine ⟨oa, cap, rfl, hc, fun h0 => ?_⟩
      obtain ⟨g, o, rfl, hg, hr⟩ := hr h0
      exact ⟨g, o, rfl, Nat.lt_of_lt_of_le hg hY.1, range_block hr (hY.2 g (Or.inl (hK h0 _ _ _ rfl)))⟩
    · rw [← ht i hi]
      exact World.cell?_of_block (hY.2 _ (Or.inl hG))
  obtain ⟨oa, cap, rfl, hcap, _⟩ := hR
  have HN : Hid (N ≤ W1.heap.size) := Nat.le_trans hN hk.1
  have HK1 := hide hk
  have HKW : Hid (∀ k, k < K ∨ k = bd → k < W.heap.size) := fun k hk => by
    rcases hk with h | h
    · omega
    · rw [h]; exact (Array.getElem?_eq_some_iff.1 hbx).1
  clear hk hbx ht hG hK hN
  refine callsIn_of_wp Tryd.func46 rfl trivial ?_ rfl
  simp only [Tryd.ntmps46, List.size_toArray, List.length_cons, List.length_nil, Nat.reduceAdd, Nat.reduceSub, Array.replicate_succ, Array.replicate_zero, List.push_toArray, List.append_toArray, List.nil_append, List.cons_append]
  gi_wp2
  gi_loopw [3] (fun i wr => ∃ (pre : List It) (r : List UInt8), l = Wl.flat (ps pre) ++ r ∧ (∀ q ∈ ps pre, Wl.fit q.length = true) ∧ i = .int .i64 ((Wl.flat (ps pre)).length : Int) ∧ Kp K bd W wr ∧ N ≤ wr.heap.size ∧ (∀ y ∈ pre, y.g < wr.heap.size) ∧ J pre wr) (fun i _ => l.length - (intOf i).toNat)
  case atStart => exact ⟨[], l, rfl, by simp [ps], rfl, HK1.out, HN.out, by simp, h0⟩
  case round =>
    obtain ⟨pre, r, hlr, hft, rfl, hkp, hN, hpg, hJ⟩ := hrel
    obtain ⟨hbx, hRc, htb⟩ := HENV.out wr hkp
    have cb := hbx.cell
    obtain ⟨e, he⟩ : ∃ e, e = (Wl.flat (ps pre)).length := ⟨_, rfl⟩
    have hel : e ≤ l.length := by rw [he, hlr, List.length_append]; omega
    have hrd : l.drop e = r := by rw [he, hlr, List.drop_left]
    have k0 : (0 : Int) ≤ (e : Int) := Int.natCast_nonneg _
    have k1 : (e : Int) ≤ (l.length : Int) := by omega
    have k2 : (l.length : Int) ≤ (cap : Int) := by omega
    have HFI : Hid (∀ oa', (∀ g o, oa = some ⟨g, o, none⟩ → ¬ cap = e → oa' = some ⟨g, o + e, none⟩) → Calls Tryd.prog 47 #[.slice oa' (l.length - e) (cap - e)] wr fun e w' => ∃ v', e = .returned (.tuple #[v', .bool (fiB r)]) ∧ (fiB r = false → v' = .slice none 0 0) ∧ (fiB r = true → ∃ g, wr.heap.size ≤ g ∧ v' = .slice (some ⟨g, 0, none⟩) (fiL r).length (fiL r).length ∧ Nw w' g (fiL r)) ∧ Below wr.heap.size wr w') := fun oa' ho => by
      have h1 := Rc.from hRc e hel oa' ho
      rw [hrd] at h1
      exact first_any wr _ r h1 (by rw [← hrd, List.length_drop]; omega) htb
    rw [← he]
    have HLR := hide hlr
    have HFT := hide hft
    have HE := hide he
    have HRD := hide hrd
    have HJ := hide hJ
    have HKP := hide hkp
    have HNW := hide hN
    have HPG := hide hpg
    have HBX := hide hbx
    clear hlr hft he hrd hkp hN hpg hbx hRc htb
    by_cases hce : cap = e
    · have hr0 : r = [] := by rw [← HRD.out]; exact List.drop_eq_nil_of_le (by omega)
      have hfb : fiB r = false := by rw [hr0]; rfl
      have hf0 : Wl.first r = none := by rw [hr0]; exact Wl.first_nil
      subst hce
      have hcc : cap - cap = 0 := Nat.sub_self _
      have hF := HFI.out oa (fun g o _ h => absurd rfl h)
      rw [hfb, hcc, show l.length - cap = 0 by omega] at hF
      have HF := hide hF
      clear hF HFI
      gi_wp2
      refine ⟨trivial, fun h => (by cases h), (callsIn_wide.2 HF.out).mono ?_⟩
      rintro r' w2 ⟨v', rfl, hv0, _, b2⟩
      obtain rfl := hv0 (by trivial)
      gi_wp2
      refine bodyPost_ret (results_none rfl _ _ _) rfl ?_
      exact ⟨⟨_, rfl⟩, pre, (Wl.scan_eq ⟨HLR.out, HFT.out, hf0⟩).symm, hJb _ _ _ HJ.out b2⟩
    · have hce' : ¬ cap - e = 0 := by omega
      have hF := HFI.out (Option.map (fun x : Addr => x.add e) oa) (fun g o h _ => by rw [h]; show some (Addr.add _ _) = _; rw [Addr.add_mid])
      have HF := hide hF
      clear hF HFI
      gi_wp2
      refine ⟨trivial, fun h => (by cases h), (callsIn_wide.2 HF.out).mono ?_⟩
      rintro r' w2 ⟨v', rfl, hv0, hv1, b2⟩
      cases hfb : fiB r with
      | false =>
        have hf0 : Wl.first r = none := by
          unfold fiB at hfb
          cases hq : Wl.first r with
          | none => rfl
          | some q => rw [hq] at hfb; cases hfb
        obtain rfl := hv0 hfb
        gi_wp2
        refine bodyPost_ret (results_none rfl _ _ _) rfl ?_
        exact ⟨⟨_, rfl⟩, pre, (Wl.scan_eq ⟨HLR.out, HFT.out, hf0⟩).symm, hJb _ _ _ HJ.out b2⟩
      | true =>
        obtain ⟨g, hg, rfl, hnw⟩ := hv1 hfb
        obtain ⟨p, hp⟩ : ∃ p, p = fiL r := ⟨_, rfl⟩
        have hf0 : Wl.first r = some p := by
          unfold fiB at hfb
          unfold fiL at hp
          cases hq : Wl.first r with
          | none => rw [hq] at hfb; cases hfb
          | some q => rw [hq] at hp; rw [hp]; rfl
        rw [← hp] at hnw ⊢
        obtain ⟨hpf, hpr⟩ := Wl.first_some hf0
        have hple := Wl.first_le hf0
        have hpl := (Wl.fit_iff _).1 hpf
        obtain ⟨E, hE⟩ : ∃ E, E = e + (8 + p.length) := ⟨_, rfl⟩
        have hrl : r.length = l.length - e := by rw [← HRD.out, List.length_drop]
        have hEi : (e : Int) + (8 + (p.length : Int)) = (E : Int) := by omega
        have hEl : E ≤ l.length := by omega
        have HJ2 := hJb _ _ _ HJ.out b2
        have hflat : Wl.flat (ps (pre ++ [⟨E, g, p⟩])) = Wl.flat (ps pre) ++ Wl.fr p := by rw [ps_snoc, Wl.flat_snoc]
        have hE2 : E = (Wl.flat (ps (pre ++ [⟨E, g, p⟩]))).length := by rw [hflat, List.length_append, Wl.fr_len, ← HE.out, hE]
        have hfresh : Fresh N l.length pre ⟨E, g, p⟩ w2 := ⟨hEl, hE2, hnw, fun y hy => Nat.lt_of_lt_of_le (HPG.out y hy) hg, Nat.le_trans HNW.out hg, hpf⟩
        obtain ⟨fn, tmps, assign, body, hy, hR⟩ := hY pre ⟨E, g, p⟩ w2 HJ2 hfresh
        simp only [It.v] at hy hR
        have HKP2 : Hid (Kp K bd W w2) := ⟨Nat.le_trans HKP.out.1 b2.size, fun k hk => (b2.block k (Nat.lt_of_lt_of_le (HKW.out k hk) HKP.out.1)).trans (HKP.out.2 k hk)⟩
        have HG2 : Hid (g < w2.heap.size) := (Array.getElem?_eq_some_iff.1 hnw).1
        have HPG2 : Hid (∀ y ∈ pre ++ [(⟨E, g, p⟩ : It)], y.g < w2.heap.size) := fun y hy => by
          rcases List.mem_append.1 hy with h | h
          · exact Nat.lt_of_lt_of_le (HPG.out y h) b2.size
          · rw [List.mem_singleton.1 h]; exact HG2.out
        have HNW2 : Hid (N ≤ w2.heap.size) := Nat.le_trans HNW.out b2.size
        have HX : Hid (l = Wl.flat (ps (pre ++ [⟨E, g, p⟩])) ++ r.drop (8 + p.length)) := by
          show _ = _
          rw [hflat, List.append_assoc, ← hpr]; exact HLR.out
        have HFT2 : Hid (∀ q ∈ ps (pre ++ [(⟨E, g, p⟩ : It)]), Wl.fit q.length = true) := fun q hq => by
          rw [ps_snoc] at hq
          rcases List.mem_append.1 hq with h | h
          · exact HFT.out q h
          · rw [List.mem_singleton.1 h]; exact hpf
        have HE2 := hide hE2
        clear hp hfb hv0 hv1 hnw hf0 hpr hfresh hE2 hflat b2 hE
        gi_wp2
        refine ⟨fun h => (by cases h), hR.mono ?_⟩
        rintro r' W3 ⟨rfl, hJ3, hk3⟩
        gi_wp2
        refine ⟨⟨pre ++ [⟨E, g, p⟩], r.drop (8 + p.length), HX.out, HFT2.out, by rw [← HE2.out], ⟨Nat.le_trans HKP2.out.1 hk3.1, fun k hk => (hk3.2 k hk).trans (HKP2.out.2 k hk)⟩, Nat.le_trans HNW2.out hk3.1, fun y hy => Nat.lt_of_lt_of_le (HPG2.out y hy) hk3.1, hJ3⟩, ?_⟩
        simp [intOf]; omega
end Go.Proofs.YticncaoecoehkaaDoor.wl
