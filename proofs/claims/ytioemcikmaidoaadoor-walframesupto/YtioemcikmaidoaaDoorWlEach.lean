import Derived.Test.YtioemcikmaidoaaDoorWlSeq
import Derived.Test.YtioemcikmaidoaaDoorWlRefS
import Derived.Test.YtioemcikmaidoaaDoorWlRows
namespace Go.Proofs.YtioemcikmaidoaaDoor.wl
open Go.ChangeShapes Go.WideShapes Go.ChangeAt Go.RowKit Go.Proofs.YtioemcikmaidoaaDoor.common Go.Proofs.YtioemcikmaidoaaDoor.dk

theorem bx_cell {W : World} {b : Nat} {t : TypeId} {v : Value} (h : W.heap[b]? = some (.cells #[v] t (0, 0))) : W.cell? ⟨b, 0, none⟩ = some v ∧ W.frozen? ⟨b, 0, none⟩ = false := ⟨cell_of h 0, free_of h 0⟩
/-- the boxes of the body that change -/
structure Dy (A : World) (M : Nat) (ov : Bool) (k ρ st : Nat) : Prop where
  s : A.heap[M]? = some (.cells #[I st] 3 (0, 0))
  n : A.heap[M + 2]? = some (.cells #[I k] 3 (0, 0))
  r : A.heap[M + 3]? = some (.cells #[I ρ] 3 (0, 0))
  o : A.heap[M + 4]? = some (.cells #[.bool ov] 4 (0, 0))
  b : A.heap[M + 5]? = some (.cells #[.bool false] 4 (0, 0))
theorem Dy.keep {A C : World} {M k ρ st : Nat} {ov : Bool} (h : Dy A M ov k ρ st) (hk : ∀ j, M ≤ j → j < M + 6 → C.heap[j]? = A.heap[j]?) : Dy C M ov k ρ st :=
  ⟨(hk _ (by omega) (by omega)).trans h.s, (hk _ (by omega) (by omega)).trans h.n, (hk _ (by omega) (by omega)).trans h.r, (hk _ (by omega) (by omega)).trans h.o, (hk _ (by omega) (by omega)).trans h.b⟩
theorem Dy.size {A : World} {M k ρ st : Nat} {ov : Bool} (h : Dy A M ov k ρ st) : M + 6 ≤ A.heap.size := (Array.getElem?_eq_some_iff.1 h.b).1
theorem set_one {A : World} {b : Nat} {v : Value} {t : TypeId} (h : A.heap[b]? = some (.cells #[v] t (0, 0))) (u : Value) : (A.setCell ⟨b, 0, none⟩ u).heap[b]? = some (.cells #[u] t (0, 0)) := by
  simp [World.setCell, Array.getElem?_modify, h]
theorem Dy.setN {A : World} {M k ρ st : Nat} {ov : Bool} (h : Dy A M ov k ρ st) (k' : Nat) : Dy (A.setCell ⟨M + 2, 0, none⟩ (I k')) M ov k' ρ st :=
  ⟨(set_other _ _ _ _ (show M ≠ M + 2 by omega)).trans h.s, set_one h.n _, (set_other _ _ _ _ (show M + 3 ≠ M + 2 by omega)).trans h.r, (set_other _ _ _ _ (show M + 4 ≠ M + 2 by omega)).trans h.o, (set_other _ _ _ _ (show M + 5 ≠ M + 2 by omega)).trans h.b⟩
theorem Dy.setO {A : World} {M k ρ st : Nat} {ov : Bool} (h : Dy A M ov k ρ st) (ov' : Bool) : Dy (A.setCell ⟨M + 4, 0, none⟩ (.bool ov')) M ov' k ρ st :=
  ⟨(set_other _ _ _ _ (show M ≠ M + 4 by omega)).trans h.s, (set_other _ _ _ _ (show M + 2 ≠ M + 4 by omega)).trans h.n, (set_other _ _ _ _ (show M + 3 ≠ M + 4 by omega)).trans h.r, set_one h.o _, (set_other _ _ _ _ (show M + 5 ≠ M + 4 by omega)).trans h.b⟩
theorem Dy.setR {A : World} {M k ρ st : Nat} {ov : Bool} (h : Dy A M ov k ρ st) (ρ' : Nat) : Dy (A.setCell ⟨M + 3, 0, none⟩ (I ρ')) M ov k ρ' st :=
  ⟨(set_other _ _ _ _ (show M ≠ M + 3 by omega)).trans h.s, (set_other _ _ _ _ (show M + 2 ≠ M + 3 by omega)).trans h.n, set_one h.r _, (set_other _ _ _ _ (show M + 4 ≠ M + 3 by omega)).trans h.o, (set_other _ _ _ _ (show M + 5 ≠ M + 3 by omega)).trans h.b⟩

abbrev pt (b : Nat) : Value := .pointer (some ⟨b, 0, none⟩)
set_option maxRecDepth 100000 in
set_option maxHeartbeats 1600000 in
theorem each_any (A : World) (M be bw : Nat) (S : List (List UInt8)) (ve vw : Value) (k ρ st g : Nat) (p : List UInt8) (hk : k < S.length) (hSl : S.length ≤ 1048576) (hp : p = S[k]) (hpl : p.length ≤ 8192) (hfl : (Wl.flat S).length ≤ 4398046511104)
    (cbe : A.cell? ⟨be, 0, none⟩ = some ve) (cbw : A.cell? ⟨bw, 0, none⟩ = some vw) (hen : A.ownsRow 0 3 1 ve (en S).length ((en S).map I)) (hls : Ls A vw S) (hdy : Dy A M false k ρ st) (hnw : Nw A g p) (hg : M + 6 ≤ g) (hρ : ρ ≤ 1) (hst : st ≤ 4611686018427387904) :
    Calls Tryd.prog 15 #[I (Wl.flat (S.take (k + 1))).length, .slice (some ⟨g, 0, none⟩) p.length p.length, pt (M + 4), pt (M + 2), pt be, pt bw, pt (M + 5), pt (M + 3), pt M] A fun e A' =>
      e = .returned (.bool (!(decide (ρ = 0) && decide (k + 1 = st)))) ∧ Dy A' M (decide (ρ = 0) && decide (k + 1 = st)) (k + 1) ρ st ∧ Fr [M + 2, M + 4, g] A A' := by
  obtain ⟨E, hE⟩ : ∃ E, E = (Wl.flat (S.take (k + 1))).length := ⟨_, rfl⟩
  have hEl : E ≤ 4398046511104 := by
    have h1 : Wl.flat S = Wl.flat (S.take (k + 1)) ++ Wl.flat (S.drop (k + 1)) := by rw [← Wl.flat_append, List.take_append_drop]
    have h2 := congrArg List.length h1
    rw [List.length_append] at h2
    omega
  obtain ⟨ge, ce, hve, hge, hce⟩ := own_cell hen k (by rw [List.length_map, en_len]; exact hk)
  have hxe : ((en S).map I)[k]'(by rw [List.length_map, en_len]; exact hk) = I E := by rw [List.getElem_map, en_at S k hk, hE]
  rw [hxe] at hce
  rw [en_len] at hve
  obtain ⟨ow, cw, hvw, hrw⟩ := hls
  obtain ⟨gw, oo, how, hgw, hrw⟩ := hrw (by omega)
  obtain ⟨u, hcu, hru⟩ := hrw k hk
  rw [← hp] at hru
  obtain ⟨xo, xc, hxu⟩ := hru.len
  subst hve hvw how hxu
  have hsz := hdy.size
  have HS := hide (sameBytes_eq A (.slice (some ⟨g, 0, none⟩) p.length p.length) (.slice xo p.length xc) p (hnw.rd _) hru (by omega))
  have HOW := hide (ow_of (hnw.own (M + 6) hg (by unfold maxLen; omega)))
  have HDY := hide hdy
  have d1 := (bx_cell hdy.s).1
  have d2 := (bx_cell hdy.n).1
  have d3 := (bx_cell hdy.r).1
  have d4 := (bx_cell hdy.o).1
  have k0 : (0 : Int) ≤ (k : Int) := Int.natCast_nonneg _
  have k1 : (k : Int) < (S.length : Int) := by omega
  have k2 : decide ((k : Int) ≥ (S.length : Int)) = false := by rw [decide_eq_false_iff_not]; omega
  have k3 : decide ((S.length : Int) ≤ (k : Int)) = false := by rw [decide_eq_false_iff_not]; omega
  have k4 : ¬ (S.length : Int) ≤ (k : Int) := by omega
  obtain ⟨ov, hov⟩ : ∃ ov, ov = (decide (ρ = 0) && decide (k + 1 = st)) := ⟨_, rfl⟩
  rw [← hE, ← hov]
  have HOV := hide hov
  clear hov
  clear hE hxe hrw hru hp hen hnw hdy
  go_enter Tryd.func15, Tryd.ntmps15
  go_wp2_with (go_at_call 9; with_reducible refine HS.out.mono ?_; rintro r w1 ⟨rfl, b1⟩)
  have HB1 := hide b1
  have HOW1 := hide (HOW.out.below b1)
  have HDY1 := hide (HDY.out.keep (C := w1) (fun j h1 h2 => b1.block j (by omega)))
  obtain ⟨pl, hpn⟩ : ∃ pl, pl = p.length := ⟨_, rfl⟩
  have HPN := hide hpn
  rw [← hpn] at HOW1 hpl ⊢
  have HAS : Hid (A.heap.size ≤ w1.heap.size) := b1.size
  clear b1 hpn d1 d2 d3 d4 HS cbe cbw hce hcu HOW
  go_loopw [12] (fun i wr => ∃ j : Nat, j ≤ pl ∧ i = .int .i64 j ∧ ∃ x : List UInt8, x.length = pl ∧ Ow wr (M + 6) A.heap.size (.slice (some ⟨g, 0, none⟩) x.length pl) x ∧ Fr [g] w1 wr) (fun i _ => pl - (intOf i).toNat)
  case atStart => exact ⟨0, Nat.zero_le _, rfl, p, HPN.out.symm, by rw [← HPN.out]; exact HOW1.out, Fr.refl _ _⟩
  case round =>
    obtain ⟨j, hj, rfl, x, hx, hown, hfr⟩ := hrel
    by_cases hlt : j < pl
    · have hcl := hown.cell j (by omega)
      have q1 := hcl.1
      have f1 := hcl.2
      have hX := xor255 x[j]
      have HO := hide (hown.set j (x[j] ^^^ 255))
      have HX := hide hfr
      have HLx := hide hx
      have j0 : (0 : Int) ≤ (j : Int) := Int.natCast_nonneg _
      have j1 : (j : Int) < (pl : Int) := by omega
      clear hown hcl hfr
      generalize x[j] = c at *
      generalize hc' : c ^^^ 255 = c' at *
      clear hc' hx
      go_wp2
      go_roundw
      case rel => exact ⟨j + 1, by omega, by go_num, _, by rw [List.length_set]; exact HLx.out, HO.out, HX.out.set _ _ (Or.inl (by simp))⟩
      case measure => simp [intOf]; omega
    · obtain rfl : j = pl := by omega
      have HD := hide (HDY1.out.keep (C := wr) (fun i h1 h2 => hfr.block i (by have := HAS.out; omega) (by simp; omega)))
      have HFA : Hid (Fr [M + 2, M + 4, g] A wr) := (Fr.of (F := [M + 2, M + 4, g]) HB1.out).trans hfr (fun i hi => Or.inl (by simp at hi; simp [hi]))
      have d1 := (bx_cell HD.out.n).1
      have f1 := (bx_cell HD.out.n).2
      have HDN := hide (HD.out.setN (k + 1))
      have hcn : ((k + 1 : Nat) : Int) = (k : Int) + 1 := by omega
      have hst1 : (wr.setCell ⟨M + 2, 0, none⟩ (.int .i64 ((k : Int) + 1))) = wr.setCell ⟨M + 2, 0, none⟩ (I (k + 1)) := by rw [← hcn]
      have HFN := hide (HFA.out.set ⟨M + 2, 0, none⟩ (I (k + 1)) (Or.inl (by simp)))
      obtain ⟨W, hW⟩ : ∃ W, wr.setCell ⟨M + 2, 0, none⟩ (.int .i64 ((k : Int) + 1)) = W := ⟨_, rfl⟩
      rw [← hst1, hW] at HDN HFN
      have e1 := (bx_cell HDN.out.n).1
      have e2 := (bx_cell HDN.out.r).1
      have e3 := (bx_cell HDN.out.s).1
      have e4 := (bx_cell HDN.out.o).1
      have g4 := (bx_cell HDN.out.o).2
      have hov := HOV.out
      have HDO := hide (HDN.out.setO ov)
      have e5 := (bx_cell HDO.out.o).1
      have HFO := hide (HFN.out.set ⟨M + 4, 0, none⟩ (.bool ov) (Or.inl (by simp)))
      clear hfr hown hx x hst1 hcn HFA HD HFN HDY1
      by_cases h0 : ρ = 0
      · subst h0
        by_cases h1 : k + 1 = st
        · obtain rfl : ov = true := by rw [hov, h1]; simp
          have hq : (((k + 1 : Nat) : Int) == (st : Int)) = true := by rw [h1]; simp
          have hq2 : (((k : Int) + 1) == (st : Int)) = true := by rw [← h1]; simp
          clear hov HOV
          go_wp2
          go_ret
          exact ⟨rfl, HDO.out, HFO.out⟩
        · obtain rfl : ov = false := by rw [hov]; simp [h1]
          have hq : (((k + 1 : Nat) : Int) == (st : Int)) = false := by rw [beq_eq_false_iff_ne]; omega
          have hq2 : (((k : Int) + 1) == (st : Int)) = false := by rw [beq_eq_false_iff_ne]; omega
          clear hov HOV h1
          go_wp2
          go_ret
          exact ⟨rfl, HDO.out, HFO.out⟩
      · obtain rfl : ρ = 1 := by omega
        obtain rfl : ov = false := by rw [hov]; simp
        clear hov HOV
        go_wp2
        go_ret
        exact ⟨rfl, HDO.out, HFO.out⟩
end Go.Proofs.YtioemcikmaidoaaDoor.wl
