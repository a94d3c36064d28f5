import Derived.Test.YtopdabacbaijcaaDoorWlTornL
import Derived.Test.YtopdabacbaijcaaDoorWlFlip
import Derived.BigQuiet
namespace Go.Proofs.YtopdabacbaijcaaDoor.wl
open Go.ChangeShapes Go.WideShapes Go.ChangeAt Go.RowKit Go.Proofs.YtopdabacbaijcaaDoor.common Go.Proofs.YtopdabacbaijcaaDoor.dk Go.Proofs.YtopdabacbaijcaaDoor.wflip

theorem own_fr {W W' : World} {base : Nat} {e : TypeId} {u : Value} {n : Nat} {xs : List Value} {F : List Nat} (h : W.ownsRow base e 1 u n xs) (hf : Fr F W W') (hF : ∀ b, u.ownBlock = some b → b ∉ F) : W'.ownsRow base e 1 u n xs := by
  refine ⟨h.1, ?_⟩
  rcases h.2 with hh | ⟨g, cap, cur, rfl, hg, hh, hn⟩
  · exact Or.inl hh
  · exact Or.inr ⟨g, cap, cur, rfl, hg, (hf.block g (Array.getElem?_eq_some_iff.1 hh).1 (hF g rfl)).trans hh, hn⟩
theorem set_mid (A q Z : List UInt8) (j : Nat) (c : UInt8) (hj : j < q.length) : (A ++ (q ++ Z)).set (A.length + j) c = A ++ (q.set j c ++ Z) := by
  rw [List.set_append_right _ _ (by omega), Nat.add_sub_cancel_left, List.set_append_left _ _ hj]
theorem get_mid (A q Z : List UInt8) (j : Nat) (hj : j < q.length) (h : A.length + j < (A ++ (q ++ Z)).length) : (A ++ (q ++ Z))[A.length + j] = q.getD j 0 := by
  rw [List.getElem_append_right (by omega)]
  simp only [Nat.add_sub_cancel_left]
  rw [List.getElem_append_left hj]
  simp [hj]

set_option maxRecDepth 100000 in
set_option maxHeartbeats 1600000 in
theorem lawBurst (w : World) (vL : Value) (who at0 : Int) (mk : BitVec 32) (L : List (List UInt8)) (h : Ls w vL L) (hL : L.length ≤ 1048576) (hLq : ∀ q ∈ L, q.length ≤ 1048576) (hT : (Wl.flat (gd L)).length ≤ 1073741824) (ha0 : -9223372036854775808 ≤ at0) (ha1 : at0 ≤ 9223372036854775807) (hw0 : -9223372036854775808 ≤ who) (hw1 : who ≤ 9223372036854775807) (ht : crcw.Tab w) (at_ : TypeId) (aa : Addr) (he : w.cell? ⟨0, 0, none⟩ = some (.iface at_ (.pointer (some aa)))) (hg : 0 < w.heap.size) :
    Calls Tryd.prog 4 #[.agg #[vL, .int .i64 who, .int .i64 at0, .int .u32 (mk.toNat : Int)]] w fun e w' => e = .returned (.bool true) ∧ Below w.heap.size w w' := by
  have HTE : Hid (∀ Y, Below w.heap.size w Y → crcw.Tab Y ∧ Y.cell? ⟨0, 0, none⟩ = some (.iface at_ (.pointer (some aa)))) := fun Y hY => ⟨ht.below hY ht.lt, by rw [World.cell?_of_block (hY.block _ hg)]; exact he⟩
  have HL := hide h
  have HLQ := hide hLq
  have HTT := hide hT
  obtain ⟨oL, cL, rfl⟩ := h.len
  obtain ⟨G, hG⟩ : ∃ G, G = gd L := ⟨_, rfl⟩
  have HGF : Hid (∀ p ∈ G, Wl.fit p.length = true) := by rw [hG]; exact gd_fits L
  have hGn : G.length ≤ 1048576 := by rw [hG]; exact Nat.le_trans (List.length_filter_le ..) hL
  have hGt : (Wl.flat G).length ≤ 1073741824 := by rw [hG]; exact hT
  have HGQ : Hid (∀ q ∈ G, q.length ≤ 4611686018427387904) := fun q hq => by have := ((Wl.fit_iff _).1 (HGF.out q hq)).2; omega
  have HG := hide hG
  clear ht he h hLq hT hG
  go_enter Tryd.func4, Tryd.ntmps4
  go_wp2_with fail
  obtain ⟨W0, hW0⟩ : ∃ W0, W0 = w.alloc (.cells #[.slice oL L.length cL, .int .i64 who, .int .i64 at0, .int .u32 (mk.toNat : Int)] 37) := ⟨_, rfl⟩
  have hB0 : Below w.heap.size w W0 := by rw [hW0]; exact (Below.refl _ _).alloc (Nat.le_refl _) _
  have hX0 : W0.heap[w.heap.size]? = some (.cells #[.slice oL L.length cL, .int .i64 who, .int .i64 at0, .int .u32 (mk.toNat : Int)] 37) := by rw [hW0]; exact heap_alloc_new _ _
  have hz0 : w.heap.size < W0.heap.size := by rw [hW0]; simp
  rw [← hW0]
  clear hW0
  refine (begun_any W0 (HTE.out _ hB0).1 _ (HTE.out _ hB0).2 (by have := hB0.size; omega)).mono ?_
  rintro r w1 ⟨rfl, b1⟩
  have HB1 : Hid (Below w.heap.size w w1) := keepD hB0 b1
  have hX1 := (b1.block _ hz0).trans hX0
  have HX1 := hide hX1
  have x0 : w1.cell? ⟨w.heap.size, 0, none⟩ = some (.slice oL L.length cL) := cell_of hX1 0
  have hz1 : w.heap.size < w1.heap.size := (Array.getElem?_eq_some_iff.1 hX1).1
  clear b1 hB0 hX0 hX1
  go_wp2_with fail
  refine (joined_any w1 _ L (HL.out.below HB1.out) hL HLQ.out HTT.out (HTE.out _ HB1.out).1 at_ aa (HTE.out _ HB1.out).2 (by omega)).mono ?_
  rintro r w2 ⟨va, vg, ve, us, rfl, hj, b2⟩
  rw [← HG.out] at hj
  have HJ := hide hj
  have HB2 : Hid (Below w.heap.size w w2) := keepD HB1.out b2
  have HX2 := hide ((b2.block _ hz1).trans HX1.out)
  have x1 : w2.cell? ⟨w.heap.size, 1, none⟩ = some (.int .i64 who) := cell_of HX2.out 1
  have x2 : w2.cell? ⟨w.heap.size, 2, none⟩ = some (.int .i64 at0) := cell_of HX2.out 2
  have x3 : w2.cell? ⟨w.heap.size, 3, none⟩ = some (.int .u32 (mk.toNat : Int)) := cell_of HX2.out 3
  obtain ⟨oA, cA, rfl, hcA⟩ := own_cap hj.a
  obtain ⟨oG, cG, rfl, hcG⟩ := own_cap hj.g
  obtain ⟨oE, cE, rfl, _⟩ := own_cap hj.e
  have hul : us.length = G.length := hj.len
  have hel : (en G).length = G.length := en_len G
  have HUL := hide hul
  rw [hul] at HJ hcG ⊢
  rw [hel] at HJ ⊢
  clear hj b2 x0 HX1 hul hel
  by_cases h0 : G.length = 0
  · have q0 : ((G.length : Int) == 0) = true := by rw [h0]; rfl
    clear HJ x1 x2 x3 HX2 hcG
    generalize G.length = gn at *
    subst h0
    go_wp2
    go_ret
    exact ⟨rfl, HB2.out⟩
  have q0 : ((G.length : Int) == 0) = false := by rw [beq_eq_false_iff_ne]; omega
  have hpb := kitw.pick_bounds who (G.length : Int)
  obtain ⟨k, hk⟩ : ∃ k : Nat, kitw.pick who (G.length : Int) = (k : Int) := ⟨(kitw.pick who (G.length : Int)).toNat, by omega⟩
  have hkl : k < G.length := by have := hpb.2 (by omega); omega
  have HPK := hide (kitw.pick_any who (G.length : Int) w2 (by omega) (by omega) hw0 hw1)
  rw [hk] at HPK
  obtain ⟨fl, hfl⟩ : ∃ fl, fl = (Wl.flat G).length := ⟨_, rfl⟩
  rw [← hfl] at hcA hGt ⊢
  have HFL := hide hfl
  obtain ⟨p, hp⟩ : ∃ p, p = G[k] := ⟨_, rfl⟩
  have hpf : Wl.fit p.length = true := by rw [hp]; exact HGF.out _ (List.getElem_mem hkl)
  have hpl := (Wl.fit_iff _).1 hpf
  obtain ⟨ge, cpe, hve, hge, hce⟩ := own_cell' HJ.out.e k (by rw [List.length_map, en_len]; exact hkl)
  rw [en_len] at hve
  cases hve
  obtain ⟨E, hE⟩ : ∃ E, E = (Wl.flat (G.take (k + 1))).length := ⟨_, rfl⟩
  have hxe : ((en G).map I)[k]'(by rw [List.length_map, en_len]; exact hkl) = I E := by
    rw [List.getElem_map, en_at G k hkl, hE]
  rw [hxe] at hce
  obtain ⟨gg, cpg, hvg, hgg, hcg⟩ := own_cell' HJ.out.g k (by rw [HUL.out]; exact hkl)
  rw [HUL.out] at hvg
  cases hvg
  have huk := (HJ.out.u k (by rw [HUL.out]; exact hkl) hkl)
  obtain ⟨ou, cu, huv, _⟩ := own_cap huk.1
  rw [huv, ← hp] at hcg
  obtain ⟨A, hA⟩ : ∃ A, A = Wl.flat (G.take k) ++ Wl.hd p := ⟨_, rfl⟩
  obtain ⟨Z, hZ⟩ : ∃ Z, Z = Wl.flat (G.drop (k + 1)) := ⟨_, rfl⟩
  have hsplit : Wl.flat G = A ++ (p ++ Z) := by
    have h1 : G = G.take k ++ (p :: G.drop (k + 1)) := by rw [hp, ← List.drop_eq_getElem_cons hkl, List.take_append_drop]
    conv => lhs; rw [h1]
    rw [Wl.flat_append, Wl.flat_cons, hA, hZ]
    unfold Wl.fr
    simp only [List.append_assoc]
  have hEA : E = A.length + p.length := by
    rw [hE, List.take_succ_eq_append_getElem hkl, ← hp, Wl.flat_snoc, hA]
    unfold Wl.fr
    simp only [List.length_append]
    omega
  have hlen : fl = A.length + (p.length + Z.length) := by rw [hfl, hsplit]; simp
  have k0 : (0 : Int) ≤ (k : Int) := Int.natCast_nonneg _
  have k1 : (k : Int) < (G.length : Int) := by omega
  have HPP := hide hp
  have HPF := hide hpf
  have HAA := hide hA
  have HZZ := hide hZ
  have HSP := hide hsplit
  have HEA := hide hEA
  have HEE := hide hE
  obtain ⟨pl, hplen⟩ : ∃ pl, pl = p.length := ⟨_, rfl⟩
  obtain ⟨bs, hbs⟩ : ∃ bs, bs = A.length := ⟨_, rfl⟩
  rw [← hplen] at hcg hpl hlen hEA
  rw [← hbs] at hlen hEA
  have HPLN := hide hplen
  have HBS := hide hbs
  have hEp : (E : Int) - (pl : Int) = (bs : Int) := by omega
  have hbp : bs + pl ≤ fl := by omega
  have HLEN := hide hlen
  clear hlen hEA
  clear hxe huk huv hp hpf hA hZ hsplit hE hk hpb hfl hplen hbs
  go_wp2_with fail
  refine HPK.out.mono ?_
  rintro r w3 ⟨rfl, rfl⟩
  clear HPK
  go_wp2_with fail
  go_quiet (fail)
  obtain ⟨ga, ca', hva, hga0, hga1, _⟩ := (ow_of HJ.out.a).slot (by rw [HFL.out.symm]; omega)
  cases hva
  have hpb2 := kitw.pick_bounds at0 (8 * (pl : Int))
  obtain ⟨a, ha⟩ : ∃ a : Nat, kitw.pick at0 (8 * (pl : Int)) = (a : Int) := ⟨(kitw.pick at0 (8 * (pl : Int))).toNat, by omega⟩
  have hal : a < 8 * pl := by have := hpb2.2 (by omega); omega
  have HPK2 := hide (kitw.pick_any at0 (8 * (pl : Int)) (w3.drewN nq) (by omega) (by omega) ha0 ha1)
  rw [ha] at HPK2
  clear ha hpb2
  go_wp2_with fail
  refine HPK2.out.mono ?_
  rintro r w4 ⟨rfl, hw4⟩
  subst hw4
  have HOW : Hid (Ow (w3.drewN nq) w1.heap.size w3.heap.size (.slice (some ⟨ga, 0, none⟩) fl cA) (A ++ (p ++ Z))) := by
    have h1 := ow_of HJ.out.a
    rw [HSP.out] at h1
    have h2 : (A ++ (p ++ Z)).length = fl := by rw [← HSP.out, HFL.out]
    rw [← h2]
    exact ⟨h1.1, h1.2.1, h1.2.2⟩
  have HNE : Hid (∀ b, (Value.slice (some ⟨gg, 0, none⟩) G.length cG).ownBlock = some b → b ∉ [ga]) := fun b hb hm => by
    have h1 := far_types HJ.out.g HJ.out.a (by decide) b hb
    exact h1 (by rw [List.mem_singleton.1 hm]; rfl)
  have HNEe : Hid (∀ b, (Value.slice (some ⟨ge, 0, none⟩) G.length cE).ownBlock = some b → b ∉ [ga]) := fun b hb hm => by
    have h1 := far_types HJ.out.e HJ.out.a (by decide) b hb
    exact h1 (by rw [List.mem_singleton.1 hm]; rfl)
  have hgw : w.heap.size < ga := by omega
  clear HPK2
  go_wp2
  go_loopw [11, 12] (fun y i wr => ∃ j : Nat, j ≤ 32 ∧ i = .int .i64 j ∧ y = .bool (anyTo pl a mk j) ∧ Ow wr w1.heap.size w3.heap.size (.slice (some ⟨ga, 0, none⟩) fl cA) (A ++ (flipTo p a mk j ++ Z)) ∧ Fr [ga] (w3.drewN nq) wr) (fun _ i _ => 32 - (intOf i).toNat)
  case atStart => exact ⟨0, Nat.zero_le _, rfl, rfl, HOW.out, Fr.refl _ _⟩
  case round =>
    obtain ⟨j, hj, rfl, rfl, how, hfr⟩ := hrel
    have hfl2 := flipTo_length p a mk j
    have hbit := mask_bit mk j
    have y3 : wr.cell? ⟨w.heap.size, 3, none⟩ = some (.int .u32 (mk.toNat : Int)) := by
      have h1 : (w3.drewN nq).heap[w.heap.size]? = _ := HX2.out
      exact cell_of ((hfr.block _ (Array.getElem?_eq_some_iff.1 h1).1 (by simp; omega)).trans h1) 3
    have HOJ := hide how
    have HFR := hide hfr
    have HFL2 := hide hfl2
    clear how hfr hfl2
    by_cases hlt : j < 32
    · by_cases hin : a + j < 8 * pl
      · obtain ⟨J, hJ⟩ : ∃ J, J = (a + j) / 8 := ⟨_, rfl⟩
        have hJl : J < (flipTo p a mk j).length := by rw [HFL2.out, ← HPLN.out]; omega
        have hJb : J < pl := by omega
        have hbl : A.length + J < (A ++ (flipTo p a mk j ++ Z)).length := by rw [List.length_append, List.length_append]; omega
        have hcl := HOJ.out.cell (A.length + J) hbl
        rw [get_mid A _ Z J hJl hbl, ← HBS.out] at hcl
        obtain ⟨x, hx⟩ : ∃ x, x = (flipTo p a mk j).getD J 0 := ⟨_, rfl⟩
        rw [← hx] at hcl
        have c1 := hcl.1
        have f1 := hcl.2
        have hJi : ((a : Int) + (j : Int)) / 8 = (J : Int) := by omega
        have l1 : (a : Int) + (j : Int) < 8 * (pl : Int) := by omega
        have l1d : decide ((a : Int) + (j : Int) < 8 * (pl : Int)) = true := by rw [decide_eq_true_eq]; exact l1
        have l2 : (bs : Int) + (J : Int) < (fl : Int) := by omega
        have l3 : (0 : Int) ≤ (bs : Int) + (J : Int) := by omega
        have HX := hide hx
        have HJJ := hide hJ
        cases hm : mk.getLsbD j
        · rw [hm, if_neg (by decide)] at hbit
          have HH : Hid (hit pl a mk j = false) := by show _ = _; simp [hit, hm]
          clear hm c1 f1 hcl hx hJ hbl hJl
          go_wp2
          go_roundw
          case rel => exact ⟨j + 1, by omega, by go_num, by rw [anyTo_no HH.out], by rw [flipTo_no HPLN.out.symm HH.out]; exact HOJ.out, HFR.out⟩
          case measure => simp [intOf]; omega
        · rw [hm, if_pos rfl] at hbit
          have HH : Hid (hit pl a mk j = true) := by show _ = _; simp [hit, hm, hin]
          have HJL := hide hJl
          clear hm hcl hx hJ hbl hJl
          go_wp2
          go_roundw
          case rel =>
            refine ⟨j + 1, by omega, by go_num, by rw [anyTo_yes HH.out], ?_, HFR.out.set _ _ (Or.inl (by simp))⟩
            rw [xor_bit, flipTo_yes HPLN.out.symm HH.out]
            have hlj : (A ++ (flipTo p a mk j ++ Z)).length = fl := by rw [List.length_append, List.length_append, HFL2.out, ← HBS.out, ← HPLN.out, HLEN.out]
            have h1 := HOJ.out
            rw [← hlj] at h1
            have h2 := h1.set (bs + J) (x ^^^ UInt8.ofNat (2 ^ ((a + j) % 8)))
            rw [List.length_set, hlj] at h2
            rw [HBS.out, set_mid A _ Z J _ HJL.out, ← HBS.out] at h2
            unfold turned
            rw [← HJJ.out, ← HX.out]
            exact h2
          case measure => simp [intOf]; omega
      · have HH : Hid (hit pl a mk j = false) := by show _ = _; simp [hit, hin]
        have l1 : ¬ (a : Int) + (j : Int) < 8 * (pl : Int) := by omega
        clear hbit
        go_wp2
        go_roundw
        case rel => exact ⟨j + 1, by omega, by go_num, by rw [anyTo_no HH.out], by rw [flipTo_no HPLN.out.symm HH.out]; exact HOJ.out, HFR.out⟩
        case measure => simp [intOf]; omega
    · obtain rfl : j = 32 := by omega
      clear hbit y3
      cases hany : anyTo pl a mk 32 with
      | false =>
        have HBf : Hid (Below w.heap.size w wr) := HB2.out.trans ((((Fr.refl [] w3).drewN nq).below (fun k hk => by cases hk) HB2.out.size).trans (HFR.out.below (fun i hi => by simp at hi; omega) HB2.out.size))
        go_wp2
        go_ret
        exact ⟨rfl, HBf.out⟩
      | true =>
        have HBf : Hid (Below w.heap.size w wr) := HB2.out.trans ((((Fr.refl [] w3).drewN nq).below (fun k hk => by cases hk) HB2.out.size).trans (HFR.out.below (fun i hi => by simp at hi; omega) HB2.out.size))
        obtain ⟨q, hq⟩ : ∃ q, q = flipTo p a mk 32 := ⟨_, rfl⟩
        have hgood : Wl.Good (A ++ (q ++ Z)) (G.take k) (Wl.hd p ++ (q ++ Z)) := by
          rw [HAA.out]
          have h1 := burst_good G HGF.out k hkl q (by rw [hq, flipTo_length, HPP.out]) (by rw [← HPP.out, hq]; exact burst_csum p a mk (by rw [← HPLN.out]; exact hany)) Z
          rw [← HPP.out] at h1
          exact h1
        have hlq : (A ++ (q ++ Z)).length = fl := by rw [hq, List.length_append, List.length_append, HFL2.out, ← HBS.out, ← HPLN.out, HLEN.out]
        have HSC : Hid (Wl.scan (A ++ (q ++ Z)) = G.take k) := Wl.scan_eq hgood
        obtain ⟨sz, hsz⟩ : ∃ sz, sz = (Wl.flat (G.take k)).length := ⟨_, rfl⟩
        have HGO : Hid (Wl.good (A ++ (q ++ Z)) = sz) := by show _ = _; rw [hsz]; exact Wl.good_eq hgood
        have HRC : Hid (Rc wr (.slice (some ⟨ga, 0, none⟩) fl cA) (A ++ (q ++ Z))) := by
          have h1 := HOJ.out
          rw [← hq] at h1
          exact rc_own h1.1
        have HFRw : Hid (Fr [ga] w3 wr) := ((Fr.refl [ga] w3).drewN nq).trans HFR.out (fun i hi => Or.inl hi)
        have hgw3 := own_fr HJ.out.g HFRw.out (fun b hb => HNE.out b hb)
        have hew3 := own_fr HJ.out.e HFRw.out (fun b hb => HNEe.out b hb)
        have HLG : Hid (Ls wr (.slice (some ⟨gg, 0, none⟩) G.length cG) G) := by
          have h1 : Ls wr _ G := ls_own hgw3 HUL.out (fun i h1 h2 => rd_own (own_fr (HJ.out.u i h1 h2).1 HFRw.out (fun b hb hm => (HJ.out.u i h1 h2).2 b hb (by rw [List.mem_singleton.1 hm]; rfl))))
          exact h1
        have HLT := hide (HLG.out.take k (by omega))
        have hfl4 : (A ++ (q ++ Z)).length ≤ 4398046511104 := by rw [hlq]; omega
        have HSZ := hide hsz
        have hkc : (k : Int) ≤ (cG : Int) := by omega
        have HGQk : Hid (∀ x ∈ G.take k, x.length ≤ 4611686018427387904) := fun x hx => HGQ.out x (List.mem_of_mem_take hx)
        have htk : (G.take k).length = k := by rw [List.length_take]; omega
        have HTAIL : Hid (∀ Y, Below wr.heap.size wr Y → True) := fun _ _ => trivial
        clear HTAIL
        by_cases hk0 : k = 0
        · subst hk0
          have hsz0 : sz = 0 := by rw [HSZ.out]; rfl
          rw [hsz0] at HGO
          clear hgood hlq hsz hgw3 hew3 hany hsz0 hq
          go_wp2_with fail
          refine (scan_any wr _ _ HRC.out hfl4 (HTE.out _ HBf.out).1).mono ?_
          rintro r w5 ⟨vl, its, rfl, hps, hown, hits, b5⟩
          have HLS := hide (ls_its hown hits)
          rw [hps, HSC.out] at HLS
          rw [HGO.out]
          have HB5 := hide b5
          obtain ⟨ol, cl, el⟩ := HLS.out.len
          subst el
          clear hown hits b5 hps
          have HS1 := hide (same_any w5 _ _ (G.take 0) HLS.out (HLT.out.below HB5.out) (by rw [htk]; omega) HGQk.out)
          rw [htk] at HS1
          clear htk
          go_wp2_with fail
          refine HS1.out.mono ?_
          rintro r w6 ⟨rfl, b6⟩
          have HB6 : Hid (Below w.heap.size w w6) := HBf.out.trans ((keepD HB5.out b6).mono HBf.out.size)
          clear b6 HS1
          go_wp2_with fail
          go_ret
          exact ⟨by simp, HB6.out⟩
        · obtain ⟨gx, cx, hvx, hgx, hcx⟩ := own_cell' hew3 (k - 1) (by rw [List.length_map, en_len]; omega)
          rw [en_len] at hvx
          cases hvx
          have hxx : ((en G).map I)[k - 1]'(by rw [List.length_map, en_len]; omega) = I sz := by
            rw [List.getElem_map, en_at G (k - 1) (by omega), HSZ.out, Nat.sub_add_cancel (by omega)]
          rw [hxx] at hcx
          have l0 : (0 : Int) < (k : Int) := by omega
          have l0d : decide ((0 : Int) < (k : Int)) = true := by rw [decide_eq_true_eq]; exact l0
          have l1 : (0 : Int) ≤ (k : Int) - 1 := by omega
          have l2 : (k : Int) - 1 < (G.length : Int) := by omega
          have l3 : ((k : Int) - 1).toNat = k - 1 := by omega
          clear hgood hlq hsz hgw3 hew3 hany hxx hq
          go_wp2_with fail
          refine (scan_any wr _ _ HRC.out hfl4 (HTE.out _ HBf.out).1).mono ?_
          rintro r w5 ⟨vl, its, rfl, hps, hown, hits, b5⟩
          have HLS := hide (ls_its hown hits)
          rw [hps, HSC.out] at HLS
          rw [HGO.out]
          have HB5 := hide b5
          obtain ⟨ol, cl, el⟩ := HLS.out.len
          subst el
          rw [htk]
          clear hown hits b5 hps
          have HS1 := hide (same_any w5 _ _ (G.take k) HLS.out (HLT.out.below HB5.out) (by rw [htk]; omega) HGQk.out)
          rw [htk] at HS1
          clear htk
          go_wp2_with fail
          refine HS1.out.mono ?_
          rintro r w6 ⟨rfl, b6⟩
          have HB6 : Hid (Below w.heap.size w w6) := HBf.out.trans ((keepD HB5.out b6).mono HBf.out.size)
          clear b6 HS1
          go_wp2_with fail
          go_ret
          exact ⟨by simp, HB6.out⟩
end Go.Proofs.YtopdabacbaijcaaDoor.wl
