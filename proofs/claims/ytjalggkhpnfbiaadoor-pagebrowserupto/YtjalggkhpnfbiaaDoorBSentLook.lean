import Derived.Test.YtjalggkhpnfbiaaDoorBSentKey
namespace Go.Proofs.YtjalggkhpnfbiaaDoor.sent
open Go.ChangeShapes Go.WideShapes Go.ChangeAt Go.RowKit Go.Proofs.YtjalggkhpnfbiaaDoor.common Go.Proofs.YtjalggkhpnfbiaaDoor.lst Go.Maps
attribute [local go_sem ↓] Go.wp_at_zero Go.wp_at_succ

abbrev PL (l : List PB) (b n : Nat) (w : World) (k : Nat) : Prop := w.ownsMap Tryd.prog 9 (plainElem Tryd.prog 3) b n (Lm l k)
abbrev PC (l : List PB) (b n : Nat) (w : World) (k : Nat) : Prop := w.ownsMap Tryd.prog 66 (plainElem Tryd.prog 3) b n (Cm l k)

theorem grown_cell (w : World) (a : Addr) (u : Value) : w.grownBy (w.setCell a u) (some a.block) :=
  ⟨rfl, rfl, rfl, by simp, fun k _ hk => heap_setCell_other w a k u (fun e => hk (by rw [e]))⟩
theorem sizeD : (Tryd.prog.info? 93).map (·.size) = some 3 := by kernel_rfl
theorem range3 {w : World} {b : Nat} {t : TypeId} {x y z : Value} (h : w.heap[b]? = some (.cells #[x, y, z] t)) (p q r : Value) :
    (((w.setCell ⟨b, 0, none⟩ p).setCell ⟨b, 1, none⟩ q).setCell ⟨b, 2, none⟩ r).rangeAt b 0 [p, q, r] := by
  have h0 : w.rangeAt b 0 [x, y, z] := by
    intro j u hu
    match j, hu with
    | 0, hu => simpa [World.cell?, h] using hu
    | 1, hu => simpa [World.cell?, h] using hu
    | 2, hu => simpa [World.cell?, h] using hu
    | j + 3, hu => simp at hu
  have h1 := range_set h0 0 (by simp) p
  have h2 := range_set h1 1 (by simp) q
  have h3 := range_set h2 2 (by simp) r
  simpa using h3

set_option maxRecDepth 100000 in
set_option maxHeartbeats 1600000 in
theorem look_any (v : Value) (l : List PB) (w : World) (hl : Lies w v l) (hf : Fits l) (hs : l.length * 32 ≤ 140737488355328) :
    Calls Tryd.prog 43 #[v] w fun e w' => ∃ bL bC, e = .returned (.agg #[v, .map (some bL), .map (some bC)]) ∧ w.heap.size ≤ bL ∧ w.heap.size ≤ bC ∧ PL l bL l.length w' l.length ∧ PC l bC l.length w' l.length ∧ Below w.heap.size w w' := by
  have hmm := @run_makeMap Tryd.prog
  obtain ⟨oa, cap, rfl, hc⟩ := hl
  have HC := hide hc
  clear hc
  go_enter Tryd.func43, Tryd.ntmps43
  go_wp2_with fail
  go_loopw [12] (fun i wr => ∃ k : Nat, k ≤ l.length ∧ i = .int .i64 k ∧ PL l (w.heap.size + 1) k wr k ∧ PC l (w.heap.size + 2) k wr k ∧ wr.heap[w.heap.size + 3]? = some (.cells #[.slice oa l.length cap, .map (some (w.heap.size + 1)), .map (some (w.heap.size + 1 + 1))] 93) ∧ wr.heap[w.heap.size]? = some (.cells #[.slice none 0 0, .map none, .map none] 93) ∧ Below w.heap.size w wr) (fun i _ => l.length - (intOf i).toNat)
  case atStart =>
    have g1 := World.grownBy_alloc w (.cells #[.slice none 0 0, .map none, .map none] 93) none
    have g2 := World.grownBy_alloc (w.alloc (.cells #[.slice none 0 0, .map none, .map none] 93)) (.map #[] 0) none
    refine ⟨0, Nat.zero_le _, rfl, ?_, ?_, ?_, ?_, ?_⟩
    · have := ((World.ownsMap_made (H := Unit) (w.alloc (.cells #[.slice none 0 0, .map none, .map none] 93)) Tryd.prog 9 (plainElem Tryd.prog 3)).alloc (.map #[] 0)).alloc (.cells #[.slice oa l.length cap, .map (some (w.heap.size + 1)), .map (some (w.heap.size + 1 + 1))] 93)
      simpa [PL, Lm] using this
    · have := (World.ownsMap_made (H := Unit) ((w.alloc (.cells #[.slice none 0 0, .map none, .map none] 93)).alloc (.map #[] 0)) Tryd.prog 66 (plainElem Tryd.prog 3)).alloc (.cells #[.slice oa l.length cap, .map (some (w.heap.size + 1)), .map (some (w.heap.size + 1 + 1))] 93)
      simpa [PC, Cm] using this
    · have := (MapKept.heap_alloc (((w.alloc (.cells #[.slice none 0 0, .map none, .map none] 93)).alloc (.map #[] 0)).alloc (.map #[] 0)) (.cells #[.slice oa l.length cap, .map (some (w.heap.size + 1)), .map (some (w.heap.size + 1 + 1))] 93)).1
      simpa using this
    · have h0 := (MapKept.heap_alloc w (.cells #[.slice none 0 0, .map none, .map none] 93)).1
      rw [(World.grownBy_alloc _ _ none).block _ (by simp; omega) (by simp), (World.grownBy_alloc _ _ none).block _ (by simp; omega) (by simp), (World.grownBy_alloc _ _ none).block _ (by simp) (by simp)]
      exact h0
    · exact ((((Below.refl _ _).alloc (Nat.le_refl _) _).alloc (by simp) _).alloc (by simp; omega) _).alloc (by simp; omega) _
  case round =>
    obtain ⟨k, hk, rfl, hL, hC, hD, hR, hnx⟩ := hrel
    have hsz := hnx.size
    by_cases hlt : k < l.length
    · have hki : (k : Int) < (l.length : Int) := by omega
      obtain ⟨b, o, rfl, hb, c0, c1⟩ := HC.out k hlt
      have d0 := (hnx.cell (p := ⟨b, o + k * 2, none⟩) hb).trans c0
      have d1 := (hnx.cell (p := ⟨b, o + k * 2 + 1, none⟩) hb).trans c1
      have hg : l.getD k (⟨#[]⟩, ⟨#[]⟩) = l[k] := by simp [List.getD, List.getElem?_eq_getElem hlt]
      have hfk := hf k
      have HL1 : Hid (Lm l (k + 1) = (Lm l k).put (ks l[k].1) (i6 k)) := by show _ = _; rw [← hg]; rfl
      have HC1 : Hid (Cm l (k + 1) = (Cm l k).put (kp l[k]) (i6 (cnt l l[k] k + 1 : Nat))) := by show _ = _; rw [← hg]; rfl
      rw [hg] at hfk
      have hat := atC l hf l[k] hfk.1 hfk.2 k
      have hcl := cnt_le l l[k] k
      have HA := hide hat
      clear hat hg
      generalize cnt l l[k] k = c at *
      generalize l[k] = p at *
      have hD' : (wr.alloc (.cells #[.string p.1, .string p.2] 66)).heap[w.heap.size + 3]? = some (.cells #[.slice (some ⟨b, o, none⟩) l.length cap, .map (some (w.heap.size + 1)), .map (some (w.heap.size + 1 + 1))] 93) := ((World.grownBy_alloc wr _ none).block _ (Array.getElem?_eq_some_iff.1 hD).1 (by simp)).trans hD
      have hE' : (wr.alloc (.cells #[.string p.1, .string p.2] 66)).heap[wr.heap.size]? = some (.cells #[.string p.1, .string p.2] 66) := (MapKept.heap_alloc wr _).1
      have hR' : (wr.alloc (.cells #[.string p.1, .string p.2] 66)).heap[w.heap.size]? = some (.cells #[.slice none 0 0, .map none, .map none] 93) := ((World.grownBy_alloc wr _ none).block _ (Array.getElem?_eq_some_iff.1 hR).1 (by simp)).trans hR
      have hlt3 := (Array.getElem?_eq_some_iff.1 hD').1
      have hltr := (Array.getElem?_eq_some_iff.1 hE').1
      have m1 : (wr.alloc (.cells #[.string p.1, .string p.2] 66)).cell? ⟨w.heap.size + 1 + 1 + 1, 1, none⟩ = some (.map (some (w.heap.size + 1))) := by simp [World.cell?, hD']
      have HE := hide hE'
      have HD' := hide hD'
      have HR' := hide hR'
      clear hE' hD' hR'
      have HDD := hide hD
      have HCC := hide hC
      have HRR := hide hR
      clear hD hC hR
      go_wp2_with (at_mapUpdate; refine wpList_mapUpdate_own _ rfl _ _ _ 90 rfl 9 3 lawS Tryd.underlying90 _ (w.heap.size + 1) k _ rfl (hL.alloc _) (by unfold maxLen; omega) _ _ _ rfl rfl (key_s hfk.1) _ [] (plainElem_int Tryd.underlying3 (WalkArith.wf_i64 (by omega))) ?_)
      intro w1 hown1 hgrow1
      have hw3 : w.heap.size + 3 < wr.heap.size := (Array.getElem?_eq_some_iff.1 HDD.out).1
      have HL2 : Hid (PL l (w.heap.size + 1) (k + 1) w1 (k + 1)) := by show World.ownsMap _ _ _ _ _ _ _; rw [HL1.out]; exact hown1
      have hC1 : w1.drew.ownsMap Tryd.prog 66 (plainElem Tryd.prog 3) (w.heap.size + 1 + 1) k (Cm l k) := ((HCC.out.alloc _).kept hgrow1 (by simp)).drew
      have hD1 : w1.heap[w.heap.size + 3]? = some (.cells #[.slice (some ⟨b, o, none⟩) l.length cap, .map (some (w.heap.size + 1)), .map (some (w.heap.size + 1 + 1))] 93) := (hgrow1.block _ hlt3 (by simp)).trans HD'.out
      have hE1 : w1.heap[wr.heap.size]? = some (.cells #[.string p.1, .string p.2] 66) := (hgrow1.block _ hltr (by simp; omega)).trans HE.out
      have hR1 : w1.heap[w.heap.size]? = some (.cells #[.slice none 0 0, .map none, .map none] 93) := (hgrow1.block _ (Array.getElem?_eq_some_iff.1 HR'.out).1 (by simp)).trans HR'.out
      have B1 : Below w.heap.size w w1 := (hnx.alloc hsz _).grown hgrow1 (by simp; omega) (fun j hj => by cases hj; omega)
      obtain ⟨c', hl1, hc', _⟩ := hC1.lookup_int lawP Tryd.underlying91 Tryd.underlying3 (zeroI _) (key_p hfk.1 hfk.2)
      obtain ⟨st, X1, hent, hg1, hlk, hst⟩ := own_entry lawP0 Tryd.underlying91 Tryd.underlying3 zeroI hC1 (by unfold maxLen; omega) (key_p hfk.1 hfk.2) HA.out
      obtain rfl : c' = (c : Int) := by rw [HA.out] at hc'; cases hc'; rfl
      obtain ⟨X2, hsto, hownC, hg2⟩ := hst (.int .i64 (wrap64 ((c : Int) + 1))) (i6 (wrap64 ((c : Int) + 1))) (plainElem_int Tryd.underlying3 (wrap64_wf _))
      have m2 : w1.cell? ⟨w.heap.size + 1 + 1 + 1, 2, none⟩ = some (.map (some (w.heap.size + 1 + 1))) := by simp [World.cell?, hD1]
      have e0 : w1.cell? ⟨wr.heap.size, 0, none⟩ = some (.string p.1) := by simp [World.cell?, hE1]
      have e1 : w1.cell? ⟨wr.heap.size, 0 + 1, none⟩ = some (.string p.2) := by simp [World.cell?, hE1]
      have HC2 : Hid (PC l (w.heap.size + 2) (k + 1) X2 (k + 1)) := by show World.ownsMap _ _ _ _ _ _ _; rw [HC1.out, show ((c + 1 : Nat) : Int) = wrap64 ((c : Int) + 1) from by unfold wrap64; omega]; exact hownC
      have HL3 : Hid (PL l (w.heap.size + 1) (k + 1) X2 (k + 1)) := HL2.out.drew.kept hg2 (by simp)
      have HD3 : Hid (X2.heap[w.heap.size + 3]? = _) := hide ((hg2.block _ (Array.getElem?_eq_some_iff.1 hD1).1 (by simp)).trans hD1)
      have HR3 : Hid (X2.heap[w.heap.size]? = _) := hide ((hg2.block _ (Array.getElem?_eq_some_iff.1 hR1).1 (by simp; omega)).trans hR1)
      have HB3 : Hid (Below w.heap.size w X2) := B1.drew.grown hg2 B1.size (fun j hj => by cases hj; omega)
      clear hown1 hgrow1 HCC HDD HRR HL1 HC1 HL2 hC1 hD1 hE1 hR1 B1 HA hst hownC hg1 hg2 hc'
      simp only [vp, goInt] at hl1 hent hlk hsto
      clear HD' HE HR' hlt3 hltr hw3 hcl hfk m1 d0 d1 hb c0 c1 HC hmm hf
      go_wp2_with fail
      go_region
      go_wp2_with fail
      go_roundw
      case rel => exact ⟨k + 1, by omega, by go_num, HL3.out, HC2.out, HD3.out, HR3.out, HB3.out⟩
      case measure => simp [intOf]; omega
    · obtain rfl : k = l.length := by omega
      have m0 : wr.cell? ⟨w.heap.size + 1 + 1 + 1, 0, none⟩ = some (.slice oa l.length cap) := by simp [World.cell?, hD]
      have m1 : wr.cell? ⟨w.heap.size + 1 + 1 + 1, 0 + 1, none⟩ = some (.map (some (w.heap.size + 1))) := by simp [World.cell?, hD]
      have m2 : wr.cell? ⟨w.heap.size + 1 + 1 + 1, 0 + 2, none⟩ = some (.map (some (w.heap.size + 1 + 1))) := by simp [World.cell?, hD]
      have r0 : wr.cell? ⟨w.heap.size, 0, none⟩ = some (.slice none 0 0) := by simp [World.cell?, hR]
      have r1 : wr.cell? ⟨w.heap.size, 0 + 1, none⟩ = some (.map none) := by simp [World.cell?, hR]
      have r2 : wr.cell? ⟨w.heap.size, 0 + 2, none⟩ = some (.map none) := by simp [World.cell?, hR]
      have f0 : wr.frozen? ⟨w.heap.size, 0, none⟩ = false := by simp [World.frozen?, hR]
      have f1 : wr.frozen? ⟨w.heap.size, 0 + 1, none⟩ = false := by simp [World.frozen?, hR]
      have f2 : wr.frozen? ⟨w.heap.size, 0 + 2, none⟩ = false := by simp [World.frozen?, hR]
      have HL := hide hL
      have HCC := hide hC
      have HN := hide hnx
      clear hL hC hnx
      have HRR := hide hR
      clear hR hD
      go_wp2_with fail
      have hw0 : w.heap.size < wr.heap.size := (Array.getElem?_eq_some_iff.1 HRR.out).1
      have G := ((grown_cell wr ⟨w.heap.size, 0, none⟩ (.slice oa l.length cap)).trans (grown_cell _ ⟨w.heap.size, 1, none⟩ (.map (some (w.heap.size + 1))))).trans (grown_cell _ ⟨w.heap.size, 2, none⟩ (.map (some (w.heap.size + 1 + 1))))
      refine bodyPost_ret (v := .agg #[.slice oa l.length cap, .map (some (w.heap.size + 1)), .map (some (w.heap.size + 1 + 1))]) (results_cell1 (b := w.heap.size) (o := 0) (cs := [.slice oa l.length cap, .map (some (w.heap.size + 1)), .map (some (w.heap.size + 1 + 1))]) Tryd.results43 _ rfl ?_ Tryd.underlying93 rfl sizeD) rfl ⟨_, _, rfl, ?_, ?_, HL.out.kept G (by simp), HCC.out.kept G (by simp), HN.out.grown G HN.out.size (fun j hj => by cases hj; exact Nat.le_refl _)⟩
      · exact range3 HRR.out _ _ _
      · omega
      · omega

end Go.Proofs.YtjalggkhpnfbiaaDoor.sent
