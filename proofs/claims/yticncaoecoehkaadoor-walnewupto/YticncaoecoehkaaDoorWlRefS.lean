import Derived.Test.YticncaoecoehkaaDoorWlEnds
import Derived.Test.YticncaoecoehkaaDoorWlRows
namespace Go.Proofs.YticncaoecoehkaaDoor.wl
open Go.ChangeShapes Go.WideShapes Go.ChangeAt Go.RowKit Go.Proofs.YticncaoecoehkaaDoor.common Go.Proofs.YticncaoecoehkaaDoor.dk

theorem infoL' : (Tryd.prog.info? 22).map (fun i => (i.zero, i.size, i.bytes)) = some (some (.slice none 0 0), 1, 24) := by kernel_rfl
/-- a cell of a row of one's own -/
theorem own_cell {w : World} {base : Nat} {e : TypeId} {v : Value} {n : Nat} {xs : List Value} (h : w.ownsRow base e 1 v n xs) (k : Nat) (hk : k < xs.length) : ∃ g cap, v = .slice (some ⟨g, 0, none⟩) n cap ∧ g < w.heap.size ∧ w.cell? ⟨g, k, none⟩ = some xs[k] := by
  have hl := h.1
  rcases h.2 with ⟨_, h0⟩ | ⟨g, cap, cur, rfl, _, hc, h1, _, h3, h4⟩
  · omega
  · refine ⟨g, cap, rfl, (Array.getElem?_eq_some_iff.1 hc).1, ?_⟩
    have e : (cur.toList.take (n * 1))[k]? = xs[k]? := by rw [h4]
    rw [List.getElem?_take_of_lt (by omega), List.getElem?_eq_getElem (l := xs) hk] at e
    simp only [World.cell?, hc]
    simpa using e
/-- another row stays where a row grows -/
theorem own_grown {W w1 : World} {base N : Nat} {e e' : TypeId} {u v : Value} {n k : Nat} {xs ys : List Value} {tmp : Obj} (h : W.ownsRow base e 1 u n xs) (hrow : W.ownsRow N e' 1 v k ys) (he : e ≠ e') (hgrow : (W.alloc tmp).grownBy w1 v.ownBlock) : w1.ownsRow base e 1 u n xs := by
  refine ⟨h.1, ?_⟩
  rcases h.2 with hh | ⟨g, cap, cur, rfl, hg, hh, hn⟩
  · exact Or.inl hh
  · refine Or.inr ⟨g, cap, cur, rfl, hg, ?_, hn⟩
    have hlt := (Array.getElem?_eq_some_iff.1 hh).1
    rw [hgrow.block g (by simp; omega) (fun ej => ?_), Below.heap_alloc W tmp g hlt]
    · exact hh
    · rcases hrow.2 with ⟨rfl, _⟩ | ⟨g', cap', cur', rfl, _, hgb, _⟩
      · cases ej
      · obtain rfl : g = g' := by simpa [Value.ownBlock] using ej
        rw [hh] at hgb
        cases hgb
        exact he rfl

set_option maxRecDepth 100000 in
set_option maxHeartbeats 800000 in
theorem copied_any (w : World) (v : Value) (p : List UInt8) (h : Rd w v p) (hp : p.length ≤ 8192) (hp1 : 0 < p.length) :
    Calls Tryd.prog 49 #[v] w fun e w' => ∃ v', e = .returned v' ∧ w'.ownsRow w.heap.size 5 1 v' p.length (p.map B) ∧ Below w.heap.size w w' := by
  obtain ⟨i0, hi, hz0, hz1, hz2⟩ := info_parts info8
  have HR := hide h
  obtain ⟨a, c, rfl⟩ := rd_some h hp1
  clear h
  go_enter Tryd.func49, Tryd.ntmps49
  go_wp2_with (at_builtin; refine wpList_append_own _ rfl _ _ 22 rfl w.heap.size 5 i0 (.int .u8 0) 1 1 Tryd.underlying22 hi hz0 hz1 hz2 rfl (by decide) _ 0 [] rfl (World.ownsRow_nil _ _ _ _) a p.length c (p.map B) rfl (by simp) (rd_news HR.out) (b_one _) ?c3 ?c4 ?c5 ?_)
  case c3 => unfold maxLen; omega
  case c4 => omega
  case c5 => exact Nat.le_refl _
  intro v2 w2 hown' hgrow _
  have H1 : Hid (w2.ownsRow w.heap.size 5 1 v2 p.length (p.map B)) := by
    show World.ownsRow _ _ _ _ _ _ _
    simpa using hown'
  have H2 : Hid (Below w.heap.size w w2) := (Below.refl _ w).grown hgrow (Nat.le_refl _) (fun b hb => by cases hb)
  clear hown' hgrow
  go_wp2
  go_ret
  exact ⟨_, rfl, H1.out, H2.out⟩

theorem own_monoW {w : World} {base base' : Nat} {e : TypeId} {size : Nat} {v : Value} {n : Nat} {xs : List Value} (h : w.ownsRow base e size v n xs) (hb : base' ≤ base) : w.ownsRow base' e size v n xs := by
  refine ⟨h.1, ?_⟩
  rcases h.2 with hh | ⟨g, cap, cur, rfl, hg, hn⟩
  · exact Or.inl hh
  · exact Or.inr ⟨g, cap, cur, rfl, Nat.le_trans hb hg, hn⟩
/-- a row of one's own of rows of one's own -/
structure Ow2 (W : World) (base : Nat) (v : Value) (us : List Value) (L : List (List UInt8)) : Prop where
  row : W.ownsRow base 22 1 v us.length us
  len : us.length = L.length
  el : ∀ j (h1 : j < us.length) (h2 : j < L.length), W.ownsRow base 5 1 us[j] L[j].length (L[j].map B)
theorem Ow2.ls {W : World} {base : Nat} {v : Value} {us : List Value} {L : List (List UInt8)} (h : Ow2 W base v us L) : Ls W v L := ls_own h.row h.len (fun j h1 h2 => rd_own (h.el j h1 h2))
theorem own_keepW {w w' : World} {base : Nat} {e : TypeId} {size : Nat} {v : Value} {n : Nat} {xs : List Value} (h : w.ownsRow base e size v n xs) (hk : ∀ g, base ≤ g → g < w.heap.size → w'.heap[g]? = w.heap[g]?) : w'.ownsRow base e size v n xs := by
  refine ⟨h.1, ?_⟩
  rcases h.2 with h1 | ⟨g, cap, cur, rfl, h1, h2, h3⟩
  · exact Or.inl h1
  · exact Or.inr ⟨g, cap, cur, rfl, h1, (hk g h1 (Array.getElem?_eq_some_iff.1 h2).1).trans h2, h3⟩
theorem Ow2.keep {W W' : World} {base : Nat} {v : Value} {us : List Value} {L : List (List UInt8)} (h : Ow2 W base v us L) (hk : ∀ g, base ≤ g → g < W.heap.size → W'.heap[g]? = W.heap[g]?) : Ow2 W' base v us L := ⟨own_keepW h.row hk, h.len, fun j h1 h2 => own_keepW (h.el j h1 h2) hk⟩

set_option maxRecDepth 100000 in
set_option maxHeartbeats 1600000 in
theorem refScan_own (w : World) (v : Value) (l : List UInt8) (h : Rc w v l) (hl : l.length ≤ 4398046511104) :
    Calls Tryd.prog 27 #[v] w fun e w' => ∃ v' us, e = .returned (.tuple #[v', .int .i64 (Wl.good l : Int)]) ∧ Ow2 w' w.heap.size v' us (Wl.scan l) ∧ Below w.heap.size w w' := by
  obtain ⟨i0, hi, hz0, hz1, hz2⟩ := info_parts infoL'
  have HR := hide h
  obtain ⟨oa, cap, rfl, hcap, hrg⟩ := h
  obtain ⟨qs, hqs⟩ : ∃ qs, qs = Wl.scan l := ⟨_, rfl⟩
  have hft : ∀ q ∈ qs, Wl.fit q.length = true := by rw [hqs]; exact Wl.scan_fits l
  obtain ⟨t, ht⟩ := Wl.scan_good l
  rw [← hqs] at ht
  have hge := flat_ge qs hft
  have hfl : (Wl.flat qs).length ≤ l.length := by have := congrArg List.length ht.eq; rw [List.length_append] at this; omega
  have HG : Hid (Wl.good l = (Wl.flat qs).length) := Wl.good_eq ht
  have HF := hide hft
  have HT := hide ht.eq
  have HQ := hide hqs
  have hqn : qs.length ≤ 549755813888 := by omega
  clear hft ht hge hrg
  go_enter Tryd.func27, Tryd.ntmps27
  go_wp2_with fail
  refine (ends_any w _ l HR.out hl).mono ?_
  rintro r' w1 ⟨ve, rfl, he, b1⟩
  rw [← HQ.out] at he
  have HE := hide he
  have HB1 := hide b1
  obtain ⟨oe, ce, rfl⟩ : ∃ oe ce, ve = .slice oe qs.length ce := by
    rcases he.2 with ⟨rfl, h0⟩ | ⟨g, c, cur, rfl, _⟩
    · exact ⟨none, 0, by rw [← h0, en_len]⟩
    · exact ⟨_, c, by rw [en_len]⟩
  clear he b1 hqs
  go_wp2
  go_loopw [5, 6, 7] (fun u at_ i wr => ∃ (k : Nat) (us : List Value), k ≤ qs.length ∧ us.length = k ∧ i = .int .i64 k ∧ at_ = I (Wl.flat (qs.take k)).length ∧ wr.ownsRow w1.heap.size 22 1 u us.length us ∧ (∀ j (h1 : j < us.length) (h2 : j < qs.length), wr.ownsRow w1.heap.size 5 1 us[j] qs[j].length (qs[j].map B)) ∧ Below w1.heap.size w1 wr) (fun _ _ i _ => qs.length - (intOf i).toNat)
  case atStart => exact ⟨0, [], Nat.zero_le _, rfl, rfl, rfl, World.ownsRow_nil _ _ _ _, fun j h1 => absurd h1 (Nat.not_lt_zero _), Below.refl _ _⟩
  case round =>
    obtain ⟨k, us, hk, hus, rfl, rfl, hown, hrows, hnx⟩ := hrel
    by_cases hlt : k < qs.length
    · obtain ⟨p, hp⟩ : ∃ p, p = qs[k] := ⟨_, rfl⟩
      have hpf : Wl.fit p.length = true := by rw [hp]; exact HF.out _ (List.getElem_mem hlt)
      have hpl := (Wl.fit_iff _).1 hpf
      obtain ⟨A, hA⟩ : ∃ A, A = (Wl.flat (qs.take k)).length := ⟨_, rfl⟩
      obtain ⟨E, hE⟩ : ∃ E, E = (Wl.flat (qs.take (k + 1))).length := ⟨_, rfl⟩
      have htk : qs.take (k + 1) = qs.take k ++ [p] := by rw [List.take_succ_eq_append_getElem hlt, hp]
      have hEA : E = A + 8 + p.length := by rw [hE, htk, Wl.flat_snoc, List.length_append, Wl.fr_len, hA]; omega
      have hlq : l = Wl.flat (qs.take k) ++ (Wl.fr p ++ (Wl.flat (qs.drop (k + 1)) ++ t)) := by
        have h1 : qs = qs.take k ++ (p :: qs.drop (k + 1)) := by
          rw [hp, ← List.drop_eq_getElem_cons hlt, List.take_append_drop]
        have h2 := HT.out
        rw [h2]
        conv => lhs; rw [h1]
        rw [Wl.flat_append, Wl.flat_cons]
        simp only [List.append_assoc]
      have hEl : E ≤ l.length := by
        have := congrArg List.length hlq
        simp only [List.length_append, Wl.fr_len] at this
        omega
      have hld : (l.drop (A + 8)).take p.length = p := by
        rw [hlq, hA, ← List.drop_drop, List.drop_left]
        unfold Wl.fr
        rw [List.append_assoc, List.drop_left' (Wl.hd_len p), List.take_left]
      obtain ⟨ge, cpe, hve, hge, hce⟩ := own_cell (HE.out) k (by rw [List.length_map, en_len]; exact hlt)
      rw [en_len] at hve
      cases hve
      have hxe : ((en qs).map I)[k]'(by rw [List.length_map, en_len]; exact hlt) = I E := by
        rw [List.getElem_map, en_at qs k hlt, hE]
      rw [hxe] at hce
      have hceY : ∀ Y, Below w1.heap.size w1 Y → Y.cell? ⟨ge, k, none⟩ = some (I E) := fun Y hY => by rw [World.cell?_of_block (hY.block ge hge)]; exact hce
      have c0 := hceY wr hnx
      obtain ⟨_, _, e, _, hrg⟩ := (HR.out.below HB1.out).below hnx
      cases e
      obtain ⟨g, o, rfl, hg, hrg⟩ := hrg (by omega)
      have HRP : Hid (Rd wr (.slice (some ⟨g, o + (A + 8), none⟩) p.length (cap - (A + 8))) p) := ⟨_, _, rfl, fun _ => ⟨g, o + (A + 8), rfl, hg, fun j u hu => by
        have hj : j < p.length := by have := (List.getElem?_eq_some_iff.1 hu).1; simpa using this
        have := hrg (A + 8 + j) u (by
          have h3 : (l.map B)[A + 8 + j]? = (p.map B)[j]? := by
            rw [← hld, List.map_take, List.getElem?_take, if_pos hj, List.map_drop, List.getElem?_drop]
          rw [h3]; exact hu)
        rwa [← Nat.add_assoc] at this⟩⟩
      have k0 : (0 : Int) ≤ (k : Int) := Int.natCast_nonneg _
      have k1 : (k : Int) < (qs.length : Int) := by omega
      have k2 : (0 : Int) ≤ (A : Int) + 8 := by omega
      have k3 : (A : Int) + 8 ≤ (E : Int) := by omega
      have k4 : (E : Int) ≤ (cap : Int) := by omega
      have k5 : E - (A + 8) = p.length := by omega
      have k6 : ¬ cap = A + 8 := by omega
      have HO := hide hown
      have HX := hide hnx
      have HRW := hide hrows
      have HPL := hide hpl
      have HUS := hide hus
      have HPK := hide hp
      have HEE := hide hE
      have HCE := hide hceY
      have hAb : A ≤ 4398046511104 := by omega
      rw [← hA]
      clear hown hnx hrows hpf hpl hus hp hE hce hceY hxe hld hlq hEA htk hA hrg hEl
      go_wp2_with fail
      refine (copied_any wr _ p HRP.out HPL.out.2 HPL.out.1).mono ?_
      rintro r' w2 ⟨v2, rfl, h2, b2⟩
      have HV2 := hide h2
      have HO2 := hide (own_below HO.out b2)
      have HX2 := hide (keepD HX.out b2)
      have hs2 := (keepD HX.out b2).size
      have hul : us.length ≤ 549755813888 := by have := HUS.out; omega
      have HRW2 : Hid (∀ j (h1 : j < us.length) (h2 : j < qs.length), w2.ownsRow w1.heap.size 5 1 us[j] qs[j].length (qs[j].map B)) := fun j h1 h2 => own_below (HRW.out j h1 h2) b2
      have HVX : Hid (w2.ownsRow w1.heap.size 5 1 v2 p.length (p.map B)) := by
        refine ⟨h2.1, ?_⟩
        rcases h2.2 with hh | ⟨g, cap, cur, rfl, hg, hn⟩
        · exact Or.inl hh
        · exact Or.inr ⟨g, cap, cur, rfl, Nat.le_trans HX.out.size hg, hn⟩
      obtain ⟨o2, c2, rfl⟩ := (rd_own h2).len
      clear h2 b2 HO HX HRW HRP c0 HV2
      go_wp2_with (at_builtin; refine wpList_append_own _ rfl _ _ 28 rfl w1.heap.size 22 i0 (.slice none 0 0) 1 24 Tryd.underlying28 hi hz0 hz1 hz2 rfl (by decide) _ _ _ rfl (HO2.out.alloc _) ⟨w2.heap.size, 0, none⟩ 1 1 [.slice o2 p.length c2] rfl rfl ?c1 ?c2 ?c3 ?c4 ?c5 ?_)
      case c1 => exact cell_one_new _ _ _
      case c2 => intro u hu; simp at hu; subst hu; rfl
      case c3 => unfold maxLen; omega
      case c4 => omega
      case c5 => simp; omega
      intro v3 w3 hown' hgrow _
      have R1 : Hid (w3.ownsRow w1.heap.size 22 1 v3 (us ++ [Value.slice o2 p.length c2]).length (us ++ [Value.slice o2 p.length c2])) := by
        show World.ownsRow _ _ _ _ _ _ _
        rw [List.length_append]; exact hown'
      have R2 : Hid (Below w1.heap.size w1 w3) := HX2.out.trans (grown_below _ hs2 HO2.out hgrow)
      have R3 : Hid (∀ j (h1 : j < (us ++ [Value.slice o2 p.length c2]).length) (h2 : j < qs.length), w3.ownsRow w1.heap.size 5 1 (us ++ [Value.slice o2 p.length c2])[j] qs[j].length (qs[j].map B)) := fun j h1 h2 => by
        by_cases hj : j < us.length
        · rw [List.getElem_append_left hj]
          exact own_grown (HRW2.out j hj h2) HO2.out (by decide) hgrow
        · have hju : j = us.length := by rw [List.length_append] at h1; simp only [List.length_cons, List.length_nil] at h1; omega
          subst hju
          have hku := HUS.out
          have e1 : qs[us.length] = p := by rw [HPK.out]; congr 1
          rw [List.getElem_append_right (Nat.le_refl _), e1]
          simp only [Nat.sub_self, List.getElem_cons_zero]
          exact own_grown HVX.out HO2.out (by decide) hgrow
      have c3 := HCE.out w3 R2.out
      clear hown' hgrow HO2 HX2 HRW2 HVX
      go_wp2
      go_roundw
      case rel => exact ⟨k + 1, us ++ [.slice o2 p.length c2], by omega, by rw [List.length_append, HUS.out]; rfl, by go_num, by rw [HEE.out], R1.out, R3.out, R2.out⟩
      case measure => simp [intOf]; omega
    · obtain rfl : k = qs.length := by omega
      have hzb := HB1.out.size
      have HLS : Hid (Ow2 wr w.heap.size u5 us qs) := ⟨own_monoW hown hzb, hus, fun j h1 h2 => own_monoW (hrows j h1 h2) hzb⟩
      have HX := hide (keepD HB1.out hnx)
      rw [List.take_of_length_le (Nat.le_refl _)]
      clear hown hrows hnx hus hzb
      go_wp2
      go_ret2
      refine ⟨u5, us, ?_, by rw [← HQ.out]; exact HLS.out, HX.out⟩
      rw [HG.out]
      rfl
theorem refScan_any (w : World) (v : Value) (l : List UInt8) (h : Rc w v l) (hl : l.length ≤ 4398046511104) :
    Calls Tryd.prog 27 #[v] w fun e w' => ∃ v', e = .returned (.tuple #[v', .int .i64 (Wl.good l : Int)]) ∧ Ls w' v' (Wl.scan l) ∧ Below w.heap.size w w' := by
  refine (refScan_own w v l h hl).mono ?_
  rintro r' w' ⟨v', us, rfl, h1, h2⟩
  exact ⟨v', rfl, h1.ls, h2⟩
end Go.Proofs.YticncaoecoehkaaDoor.wl
