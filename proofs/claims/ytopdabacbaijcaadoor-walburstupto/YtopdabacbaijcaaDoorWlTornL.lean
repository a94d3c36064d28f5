import Derived.Test.YtopdabacbaijcaaDoorWlJoin
import Derived.Test.YtopdabacbaijcaaDoorPickWalk
namespace Go.Proofs.YtopdabacbaijcaaDoor.wl
open Go.ChangeShapes Go.WideShapes Go.ChangeAt Go.RowKit Go.Proofs.YtopdabacbaijcaaDoor.common Go.Proofs.YtopdabacbaijcaaDoor.dk

theorem torn_good (G : List (List UInt8)) (hf : ∀ p ∈ G, Wl.fit p.length = true) (c n : Nat) (hn : n ≤ G.length) (h1 : (Wl.flat (G.take n)).length ≤ c) (h2 : n < G.length → c < (Wl.flat (G.take (n + 1))).length) :
    Wl.Good ((Wl.flat G).take c) (G.take n) ((Wl.flat (G.drop n)).take (c - (Wl.flat (G.take n)).length)) := by
  have hsplit : Wl.flat G = Wl.flat (G.take n) ++ Wl.flat (G.drop n) := by rw [← Wl.flat_append, List.take_append_drop]
  refine ⟨?_, fun p hp => hf p (List.mem_of_mem_take hp), ?_⟩
  · rw [hsplit, List.take_append, List.take_of_length_le h1]
  · by_cases hlt : n < G.length
    · have hc := h2 hlt
      rw [List.take_succ_eq_append_getElem hlt, Wl.flat_snoc, List.length_append] at hc
      rw [List.drop_eq_getElem_cons hlt, Wl.flat_cons]
      have hm : c - (Wl.flat (G.take n)).length < (Wl.fr G[n]).length := by omega
      rw [List.take_append_of_le_length (by omega)]
      refine Wl.first_short _ G[n] (hf _ (List.getElem_mem hlt)) (by rw [List.length_take]; omega) ?_
      rw [List.length_take, Nat.min_eq_left (by omega)]
    · rw [List.drop_eq_nil_of_le (by omega), Wl.flat_nil, List.take_nil]
      exact Wl.first_nil
theorem Rc.take {w : World} {oa : Option Addr} {cap : Nat} {l : List UInt8} (h : Rc w (.slice oa l.length cap) l) (k : Nat) (hk : k ≤ l.length) : Rc w (.slice oa k cap) (l.take k) := by
  obtain ⟨oa2, c2, e, hc, hr⟩ := h
  cases e
  have hl : (l.take k).length = k := by rw [List.length_take]; omega
  refine ⟨oa, cap, by rw [hl], by rw [hl]; omega, fun h0 => ?_⟩
  rw [hl] at h0
  obtain ⟨g, o, rfl, hg, hr⟩ := hr (by omega)
  refine ⟨g, o, rfl, hg, fun j u hu => hr j u ?_⟩
  rw [List.map_take, List.getElem?_take] at hu
  split at hu
  · exact hu
  · cases hu
theorem Ls.take {W : World} {oa : Option Addr} {cap : Nat} {L : List (List UInt8)} (h : Ls W (.slice oa L.length cap) L) (k : Nat) (hk : k ≤ L.length) : Ls W (.slice oa k cap) (L.take k) := by
  obtain ⟨oa2, c2, e, hr⟩ := h
  cases e
  have hl : (L.take k).length = k := by rw [List.length_take]; omega
  refine ⟨oa, cap, by rw [hl], fun h0 => ?_⟩
  rw [hl] at h0
  obtain ⟨g, o, rfl, hg, hr⟩ := hr (by omega)
  refine ⟨g, o, rfl, hg, fun i hi => ?_⟩
  rw [hl] at hi
  obtain ⟨u, h1, h2⟩ := hr i (by omega)
  exact ⟨u, h1, by rw [List.getElem_take]; exact h2⟩
theorem Jn.ls {W : World} {N : Nat} {va vg ve : Value} {G : List (List UInt8)} {us : List Value} (h : Jn W N va vg ve G us) : Ls W vg G := ls_own h.g h.len (fun i h1 h2 => rd_own (h.u i h1 h2).1)
theorem own_cap {W : World} {base : Nat} {e : TypeId} {v : Value} {n : Nat} {xs : List Value} (h : W.ownsRow base e 1 v n xs) : ∃ oa cap, v = .slice oa n cap ∧ n ≤ cap := by
  rcases h.2 with ⟨rfl, h0⟩ | ⟨g, cap, cur, rfl, _, _, h1, _⟩
  · exact ⟨none, 0, by rw [h0], by omega⟩
  · exact ⟨_, cap, rfl, h1⟩
theorem ls_its {W : World} {base N : Nat} {v : Value} {its : List It} (h : W.ownsRow base 26 1 v its.length (its.map It.v)) (hi : Its W N its) : Ls W v (ps its) := by
  have h' : W.ownsRow base 26 1 v (its.map It.v).length (its.map It.v) := by rw [List.length_map]; exact h
  refine ls_own h' (by simp [ps]) (fun i h1 h2 => ?_)
  have hi' : i < its.length := by simpa using h1
  have hx := (hi.1 its[i] (List.getElem_mem hi')).1
  simp only [List.getElem_map, ps]
  exact hx.rd _

set_option maxRecDepth 100000 in
set_option maxHeartbeats 1600000 in
theorem lawTorn (w : World) (vL : Value) (at0 : Int) (L : List (List UInt8)) (h : Ls w vL L) (hL : L.length ≤ 1048576) (hLq : ∀ q ∈ L, q.length ≤ 1048576) (hT : (Wl.flat (gd L)).length ≤ 1073741824) (ha0 : -9223372036854775808 ≤ at0) (ha1 : at0 ≤ 9223372036854775807) (ht : crcw.Tab w) (at_ : TypeId) (aa : Addr) (he : w.cell? ⟨0, 0, none⟩ = some (.iface at_ (.pointer (some aa)))) (hg : 0 < w.heap.size) :
    Calls Tryd.prog 3 #[.agg #[vL, .int .i64 at0]] w fun e w' => e = .returned (.bool true) ∧ Below w.heap.size w w' := by
  have HTE : Hid (∀ Y, Below w.heap.size w Y → crcw.Tab Y ∧ Y.cell? ⟨0, 0, none⟩ = some (.iface at_ (.pointer (some aa)))) := fun Y hY => ⟨ht.below hY ht.lt, by rw [World.cell?_of_block (hY.block _ hg)]; exact he⟩
  have HL := hide h
  have HLQ := hide hLq
  have HTT := hide hT
  obtain ⟨oL, cL, rfl⟩ := h.len
  obtain ⟨G, hG⟩ : ∃ G, G = gd L := ⟨_, rfl⟩
  have HGF : Hid (∀ p ∈ G, Wl.fit p.length = true) := by rw [hG]; exact gd_fits L
  have hGn : G.length ≤ 1048576 := by rw [hG]; exact Nat.le_trans (List.length_filter_le ..) hL
  have hGt : (Wl.flat G).length ≤ 1073741824 := by rw [hG]; exact hT
  have HGQ : Hid (∀ q ∈ G, q.length ≤ 4611686018427387904) := fun q hq => by have := ((Wl.fit_iff _).1 (HGF.out q hq)).2; omega
  have HG := hide hG
  clear ht he h hLq hT hG
  go_enter Tryd.func3, Tryd.ntmps3
  go_wp2_with fail
  obtain ⟨W0, hW0⟩ : ∃ W0, W0 = w.alloc (.cells #[.slice oL L.length cL, .int .i64 at0] 24) := ⟨_, rfl⟩
  have hB0 : Below w.heap.size w W0 := by rw [hW0]; exact (Below.refl _ _).alloc (Nat.le_refl _) _
  have hX0 : W0.heap[w.heap.size]? = some (.cells #[.slice oL L.length cL, .int .i64 at0] 24) := by rw [hW0]; exact heap_alloc_new _ _
  have hz0 : w.heap.size < W0.heap.size := by rw [hW0]; simp
  rw [← hW0]
  clear hW0
  refine (begun_any W0 (HTE.out _ hB0).1 _ (HTE.out _ hB0).2 (by have := hB0.size; omega)).mono ?_
  rintro r w1 ⟨rfl, b1⟩
  have HB1 : Hid (Below w.heap.size w w1) := keepD hB0 b1
  have hX1 := (b1.block _ hz0).trans hX0
  have HX1 := hide hX1
  have x0 : w1.cell? ⟨w.heap.size, 0, none⟩ = some (.slice oL L.length cL) := cell_of hX1 0
  have hz1 : w.heap.size < w1.heap.size := (Array.getElem?_eq_some_iff.1 hX1).1
  clear b1 hB0 hX0 hX1
  go_wp2_with fail
  refine (joined_any w1 _ L (HL.out.below HB1.out) hL HLQ.out HTT.out (HTE.out _ HB1.out).1 at_ aa (HTE.out _ HB1.out).2 (by omega)).mono ?_
  rintro r w2 ⟨va, vg, ve, us, rfl, hj, b2⟩
  rw [← HG.out] at hj
  have HJ := hide hj
  have HB2 : Hid (Below w.heap.size w w2) := keepD HB1.out b2
  have x1 : w2.cell? ⟨w.heap.size, 1, none⟩ = some (.int .i64 at0) := cell_of ((b2.block _ hz1).trans HX1.out) 1
  obtain ⟨oA, cA, rfl, hcA⟩ := own_cap hj.a
  obtain ⟨oG, cG, rfl, hcG⟩ := own_cap hj.g
  obtain ⟨oE, cE, rfl, _⟩ := own_cap hj.e
  have hul : us.length = G.length := hj.len
  have hel : (en G).length = G.length := en_len G
  rw [hul] at HJ hcG ⊢
  rw [hel] at HJ ⊢
  clear hj b2 x0 HX1
  obtain ⟨fl, hfl⟩ : ∃ fl, fl = (Wl.flat G).length := ⟨_, rfl⟩
  rw [← hfl] at hcA hGt ⊢
  have HFL := hide hfl
  have hpb := kitw.pick_bounds at0 ((fl : Int) + 1)
  obtain ⟨c, hc⟩ : ∃ c : Nat, kitw.pick at0 ((fl : Int) + 1) = (c : Int) := ⟨(kitw.pick at0 ((fl : Int) + 1)).toNat, by omega⟩
  have hcl : c ≤ fl := by have := hpb.2 (by omega); omega
  have HPK := hide (kitw.pick_any at0 ((fl : Int) + 1) w2 (by omega) (by omega) ha0 ha1)
  rw [hc] at HPK
  have HUL := hide hul
  have HEL := hide hel
  clear hfl hpb hc hul hel
  go_wp2_with fail
  refine HPK.out.mono ?_
  rintro r w3 ⟨rfl, rfl⟩
  clear HPK x1
  go_wp2
  go_loopw [8, 9, 10] (fun n s i wr => ∃ (k m : Nat), k ≤ G.length ∧ m ≤ k ∧ i = .int .i64 k ∧ n = .int .i64 m ∧ s = I (Wl.flat (G.take m)).length ∧ (Wl.flat (G.take m)).length ≤ c ∧ (∀ j, m ≤ j → j < k → c < (Wl.flat (G.take (j + 1))).length) ∧ wr = w3) (fun _ _ i _ => G.length - (intOf i).toNat)
  case atStart => exact ⟨0, 0, Nat.zero_le _, Nat.le_refl _, rfl, rfl, rfl, Nat.zero_le _, fun j h1 h2 => by omega, rfl⟩
  case round =>
    obtain ⟨k, m, hk, hmk, rfl, rfl, rfl, hmc, hno, rfl⟩ := hrel
    by_cases hlt : k < G.length
    · obtain ⟨ge, cpe, hve, hge, hce⟩ := own_cell' (HJ.out.e) k (by rw [List.length_map, en_len]; exact hlt)
      rw [en_len] at hve
      cases hve
      obtain ⟨E, hE⟩ : ∃ E, E = (Wl.flat (G.take (k + 1))).length := ⟨_, rfl⟩
      have hxe : ((en G).map I)[k]'(by rw [List.length_map, en_len]; exact hlt) = I E := by
        rw [List.getElem_map, en_at G k hlt, hE]
      rw [hxe] at hce
      have k0 : (0 : Int) ≤ (k : Int) := Int.natCast_nonneg _
      have k1 : (k : Int) < (G.length : Int) := by omega
      have HNO := hide hno
      have HMC := hide hmc
      have HEE := hide hE
      obtain ⟨sz, hsz⟩ : ∃ sz, sz = (Wl.flat (G.take m)).length := ⟨_, rfl⟩
      rw [← hsz]
      have HSZ := hide hsz
      clear hxe hno hmc hE hsz
      by_cases hle : E ≤ c
      · have q1 : decide ((E : Int) ≤ (c : Int)) = true := by rw [decide_eq_true_eq]; omega
        have q2 : (E : Int) ≤ (c : Int) := by omega
        go_wp2
        go_roundw
        case rel => exact ⟨k + 1, k + 1, by omega, Nat.le_refl _, by go_num, by go_num, by rw [HEE.out], by rw [← HEE.out]; exact hle, fun j h1 h2 => by omega, trivial⟩
        case measure => simp [intOf]; omega
      · have q1 : decide ((E : Int) ≤ (c : Int)) = false := by rw [decide_eq_false_iff_not]; omega
        have q2 : ¬ (E : Int) ≤ (c : Int) := by omega
        go_wp2
        go_roundw
        case rel =>
          refine ⟨k + 1, m, by omega, by omega, by go_num, rfl, by rw [HSZ.out], HMC.out, fun j h1 h2 => ?_, trivial⟩
          by_cases hj : j < k
          · exact HNO.out j h1 hj
          · obtain rfl : j = k := by omega
            rw [← HEE.out]; omega
        case measure => simp [intOf]; omega
    · obtain rfl : k = G.length := by omega
      have hgood := torn_good G HGF.out c m hmk hmc (fun hlt => hno m (Nat.le_refl _) hlt)
      have HSC : Hid (Wl.scan ((Wl.flat G).take c) = G.take m) := Wl.scan_eq hgood
      have HGO : Hid (Wl.good ((Wl.flat G).take c) = (Wl.flat (G.take m)).length) := Wl.good_eq hgood
      have HSW : Hid (Wl.scan (Wl.flat G) = G) := Wl.scan_flat G HGF.out
      have HGW : Hid (Wl.good (Wl.flat G) = fl) := by show _ = _; unfold Wl.good; rw [HSW.out, HFL.out]
      have hRA : Rc wr (.slice oA (Wl.flat G).length cA) (Wl.flat G) := rc_own HJ.out.a
      have HRA := hide hRA
      have HRT := hide (hRA.take c (by rw [← HFL.out]; exact hcl))
      have HLG : Hid (Ls wr (.slice oG G.length cG) G) := HJ.out.ls
      have HLT := hide (HLG.out.take m hmk)
      obtain ⟨sz, hsz⟩ : ∃ sz, sz = (Wl.flat (G.take m)).length := ⟨_, rfl⟩
      rw [← hsz] at HGO ⊢
      have hcc : (c : Int) ≤ (cA : Int) := by omega
      have hmm : (m : Int) ≤ (cG : Int) := by omega
      have hc0 : (0 : Int) ≤ (c : Int) := by omega
      have hm0 : (0 : Int) ≤ (m : Int) := by omega
      have htl : ((Wl.flat G).take c).length ≤ 4398046511104 := by rw [List.length_take]; omega
      have hfl2 : (Wl.flat G).length ≤ 4398046511104 := by rw [← HFL.out]; omega
      rw [← HFL.out] at HRA
      clear hgood hno hmc hsz hRA
      go_wp2_with fail
      refine (scan_any wr _ _ HRT.out htl (HTE.out _ HB2.out).1).mono ?_
      rintro r w4 ⟨vl, its, rfl, hps, hown, hits, b4⟩
      have HLS := hide (ls_its hown hits)
      rw [hps, HSC.out] at HLS
      rw [HGO.out]
      have HB4 := hide b4
      obtain ⟨ol, cl, el⟩ := HLS.out.len
      subst el
      have HB4w : Hid (Below w.heap.size w w4) := keepD HB2.out b4
      clear hown hits b4 hps
      go_wp2_with fail
      refine (scan_any w4 _ _ (HRA.out.below HB4.out) hfl2 (HTE.out _ HB4w.out).1).mono ?_
      rintro r w5 ⟨vw, its2, rfl, hps2, hown2, hits2, b5⟩
      have HLW := hide (ls_its hown2 hits2)
      rw [hps2, HSW.out] at HLW
      rw [HGW.out]
      have HB5 := hide b5
      obtain ⟨ow, cw, ew⟩ := HLW.out.len
      subst ew
      have HB5w : Hid (Below w.heap.size w w5) := keepD HB4w.out b5
      have HB35 := hide (keepD HB4.out b5)
      clear hown2 hits2 b5 hps2
      have HS1 := hide (same_any w5 _ _ (G.take m) (HLS.out.below HB5.out) (HLT.out.below HB35.out) (by rw [List.length_take]; omega) (fun q hq => HGQ.out q (List.mem_of_mem_take hq)))
      have htm : (G.take m).length = m := by rw [List.length_take]; omega
      rw [htm] at HS1
      clear htm
      go_wp2_with fail
      refine HS1.out.mono ?_
      rintro r w6 ⟨rfl, b6⟩
      have HB6 := hide b6
      have HB36 := hide (keepD HB35.out b6)
      clear b6 HS1
      go_wp2_with fail
      refine (same_any w6 _ _ G (HLW.out.below HB6.out) (HLG.out.below HB36.out) (by omega) HGQ.out).mono ?_
      rintro r w7 ⟨rfl, b7⟩
      have HB7 : Hid (Below w.heap.size w w7) := HB5w.out.trans ((keepD HB6.out b7).mono HB5w.out.size)
      clear b7
      go_wp2_with fail
      go_ret
      exact ⟨by simp, HB7.out⟩
end Go.Proofs.YtopdabacbaijcaaDoor.wl
