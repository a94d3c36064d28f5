import Derived.Test.YtgmgffcfmopgmaaDoorWlRw
import Derived.Test.YtgmgffcfmopgmaaDoorWlCrashM
import Derived.Maps.AppendAt
namespace Go.Proofs.YtgmgffcfmopgmaaDoor.wl
open Go.ChangeShapes Go.WideShapes Go.ChangeAt Go.RowKit Go.Proofs.YtgmgffcfmopgmaaDoor.common Go.Proofs.YtgmgffcfmopgmaaDoor.dk

theorem flat_take_le (L : List (List UInt8)) (k : Nat) : (Wl.flat (L.take k)).length ≤ (Wl.flat L).length := by
  have h : Wl.flat L = Wl.flat (L.take k) ++ Wl.flat (L.drop k) := by rw [← Wl.flat_append, List.take_append_drop]
  rw [h, List.length_append]; omega
theorem flat_count (L : List (List UInt8)) : L.length * 8 ≤ (Wl.flat L).length := by
  induction L with
  | nil => exact Nat.le_refl _
  | cons a r ih => rw [Wl.flat_cons, List.length_append, Wl.fr_len, List.length_cons]; omega

set_option maxRecDepth 100000 in
set_option maxHeartbeats 1600000 in
theorem takes_any (w : World) (G : List Nat) (v : Value) (us : List Value) (L : List (List UInt8)) (h : Rw w G v us L) (hL : (Wl.flat L).length ≤ 1099511627776) :
    Calls Tryd.prog 50 #[v] w fun r' w' => r' = .returned (.int .i64 ((Wl.flat L).length : Int)) ∧ w' = w := by
  obtain ⟨oa, ca, rfl⟩ := h.form
  have hul := h.len
  have HH := hide h
  have hcn := flat_count L
  have HU := hide hul
  clear h hul
  go_enter Tryd.func50, Tryd.ntmps50
  go_wp2
  go_loopw [3, 4] (fun n i wr => ∃ k : Nat, k ≤ L.length ∧ i = .int .i64 k ∧ n = .int .i64 ((Wl.flat (L.take k)).length : Int) ∧ wr = w) (fun _ i _ => L.length - (intOf i).toNat)
  case atStart => exact ⟨0, Nat.zero_le _, rfl, rfl, rfl⟩
  case round =>
    obtain ⟨k, hk, rfl, rfl, rfl⟩ := hrel
    by_cases hlt : k < L.length
    · obtain ⟨g, rfl, _, c1⟩ := HH.out.at k hlt
      have HKU : Hid (k < us.length) := by show _ < _; rw [HU.out]; exact hlt
      obtain ⟨xo, xc, hx⟩ := slice_of (HH.out.rd k HKU.out hlt)
      have hnx : (Wl.flat (L.take (k + 1))).length = (Wl.flat (L.take k)).length + 8 + (L[k]).length := by
        rw [List.take_succ_eq_append_getElem hlt, Wl.flat_snoc, List.length_append, Wl.fr_len]; omega
      have hle := flat_take_le L (k + 1)
      have k0 : (0 : Int) ≤ (k : Int) := Int.natCast_nonneg _
      have k1 : (k : Int) < (L.length : Int) := by omega
      generalize (L[k]).length = pl at *
      generalize us[k]'HKU.out = x at *
      generalize (Wl.flat (L.take k)).length = s at *
      subst hx
      have HNX := hide hnx
      have hb : s + 8 + pl ≤ 1099511627776 := by omega
      clear hnx hle
      go_wp2
      go_roundw
      case rel => exact ⟨k + 1, by omega, by go_num, by rw [HNX.out]; exact congrArg (Value.int .i64) (by omega), trivial⟩
      case measure => simp [intOf]; omega
    · obtain rfl : k = L.length := by omega
      have HE : Hid ((Wl.flat (L.take L.length)).length = (Wl.flat L).length) := by show _ = _; rw [List.take_length]
      rw [HE.out]
      go_wp2
      go_ret
      exact ⟨rfl, rfl⟩

/-- what must be found again, in memory -/
abbrev ftc (vT vS vW : Value) (arm : Bool) (sz : Int) (lost : Bool) : Array Value := #[vT, vS, vW, .bool arm, .int .i64 sz, .bool lost]
def FtAt (w : World) (f : Nat) (vT vS vW : Value) (arm : Bool) (sz : Int) (lost : Bool) : Prop := w.heap[f]? = some (.cells (ftc vT vS vW arm sz lost) 59)
theorem ft_set0 {w : World} {f : Nat} {vT vS vW : Value} {arm lost : Bool} {sz : Int} (h : FtAt w f vT vS vW arm sz lost) (v : Value) : FtAt (w.setCell ⟨f, 0, none⟩ v) f v vS vW arm sz lost := set_of h 0 v
theorem ft_set1 {w : World} {f : Nat} {vT vS vW : Value} {arm lost : Bool} {sz : Int} (h : FtAt w f vT vS vW arm sz lost) (v : Value) : FtAt (w.setCell ⟨f, 1, none⟩ v) f vT v vW arm sz lost := set_of h 1 v
theorem ft_set2 {w : World} {f : Nat} {vT vS vW : Value} {arm lost : Bool} {sz : Int} (h : FtAt w f vT vS vW arm sz lost) (v : Value) : FtAt (w.setCell ⟨f, 2, none⟩ v) f vT vS v arm sz lost := set_of h 2 v
theorem ft_set3 {w : World} {f : Nat} {vT vS vW : Value} {arm lost : Bool} {sz : Int} (h : FtAt w f vT vS vW arm sz lost) (b : Bool) : FtAt (w.setCell ⟨f, 3, none⟩ (.bool b)) f vT vS vW b sz lost := set_of h 3 _
theorem ft_set4 {w : World} {f : Nat} {vT vS vW : Value} {arm lost : Bool} {sz : Int} (h : FtAt w f vT vS vW arm sz lost) (z : Int) : FtAt (w.setCell ⟨f, 4, none⟩ (.int .i64 z)) f vT vS vW arm z lost := set_of h 4 _
theorem ft_set5 {w : World} {f : Nat} {vT vS vW : Value} {arm lost : Bool} {sz : Int} (h : FtAt w f vT vS vW arm sz lost) (b : Bool) : FtAt (w.setCell ⟨f, 5, none⟩ (.bool b)) f vT vS vW arm sz b := set_of h 5 _
theorem FtAt.fr {w w' : World} {f : Nat} {vT vS vW : Value} {arm lost : Bool} {sz : Int} {F : List Nat} (h : FtAt w f vT vS vW arm sz lost) (hf : Fr F w w') (hn : f ∉ F) : FtAt w' f vT vS vW arm sz lost := (hf.block f (Array.getElem?_eq_some_iff.1 h).1 hn).trans h
theorem FtAt.below {w w' : World} {f : Nat} {vT vS vW : Value} {arm lost : Bool} {sz : Int} (h : FtAt w f vT vS vW arm sz lost) (hb : Below w.heap.size w w') : FtAt w' f vT vS vW arm sz lost := h.fr (Fr.of (F := []) hb) (by simp)

structure FtX (w : World) (K f : Nat) (G : List Nat) (vT vS vW : Value) (uT uS uW : List Value) (T S W : List (List UInt8)) (arm : Bool) (sz : Int) (lost : Bool) : Prop where
  cell : FtAt w f vT vS vW arm sz lost
  t : Rw w G vT uT T
  s : Rw w G vS uS S
  y : Rw w G vW uW W
  mem : f ∈ G
  ts : ∀ b, vS.ownBlock = some b → vT.ownBlock ≠ some b
  ys : ∀ b, vS.ownBlock = some b → vW.ownBlock ≠ some b
  nil : W = [] → vW = .slice none 0 0
  low : ∀ b, vS.ownBlock = some b → K ≤ b
def Ft (w : World) (K f : Nat) (G : List Nat) (T S W : List (List UInt8)) (arm : Bool) (sz : Int) (lost : Bool) : Prop := ∃ vT vS vW uT uS uW, FtX w K f G vT vS vW uT uS uW T S W arm sz lost
theorem Ft.fr {w w' : World} {K f : Nat} {F G G' : List Nat} {T S W : List (List UInt8)} {arm lost : Bool} {sz : Int} (h : Ft w K f G T S W arm sz lost) (hf : Fr F w w') (hF : ∀ k ∈ F, k ∈ G) (hn : f ∉ F) (hs : ∀ k ∈ G', k ∈ G ∨ w.heap.size ≤ k) (hm : f ∈ G') : Ft w' K f G' T S W arm sz lost := by
  obtain ⟨vT, vS, vW, uT, uS, uW, h⟩ := h
  exact ⟨vT, vS, vW, uT, uS, uW, h.cell.fr hf hn, h.t.fr hf hF hs, h.s.fr hf hF hs, h.y.fr hf hF hs, hm, h.ts, h.ys, h.nil, h.low⟩
theorem Ft.below {w w' : World} {K f : Nat} {G : List Nat} {T S W : List (List UInt8)} {arm lost : Bool} {sz : Int} (h : Ft w K f G T S W arm sz lost) (hb : Below w.heap.size w w') : Ft w' K f G T S W arm sz lost := by
  have hm : f ∈ G := by obtain ⟨_, _, _, _, _, _, h⟩ := h; exact h.mem
  exact h.fr (F := []) (Fr.of hb) (fun k hk => (by cases hk)) (by simp) (fun _ hk => Or.inl hk) hm

set_option maxRecDepth 100000 in
set_option maxHeartbeats 6400000 in
theorem opened_any (w : World) (K f : Nat) (G : List Nat) (T S W : List (List UInt8)) (arm : Bool) (sz : Int) (lost : Bool) (h : Ft w K f G T S W arm sz lost) (hG : ∀ k ∈ G, k < w.heap.size) (vg : Value) (ug : List Value) (Q : List (List UInt8)) (hg : Rw w G vg ug Q) (hQ : Q = T ++ S ∨ Q = T ++ S ++ W)
    (hn : T.length + S.length + W.length ≤ 1048576) (hfq : (Wl.flat Q).length ≤ 1099511627776) (hq : ∀ q ∈ T ++ S ++ W, q.length ≤ 4611686018427387904) :
    Calls Tryd.prog 30 #[ptr f, vg] w fun r' w' => r' = .returned (.bool true) ∧ Ft w' K f G Q [] [] arm ((Wl.flat Q).length : Int) false ∧ Fr [f] w w' := by
  obtain ⟨vT, vS, vW, uT, uS, uW, h⟩ := h
  have hQn : Q.length ≤ 1048576 := by
    rcases hQ with e | e <;> rw [e] <;> simp <;> omega
  have hq1 : ∀ q ∈ T ++ S, q.length ≤ 4611686018427387904 := fun q hm => hq q (List.mem_append_left _ hm)
  have hqq : ∀ q ∈ Q, q.length ≤ 4611686018427387904 := by
    rcases hQ with e | e <;> rw [e]
    · exact hq1
    · exact hq
  obtain ⟨P, hP⟩ : ∃ P, P = T ++ S := ⟨_, rfl⟩
  obtain ⟨P2, hP2⟩ : ∃ P, P = T ++ S ++ W := ⟨_, rfl⟩
  have hlen1 : P.length ≤ 1048576 := by rw [hP, List.length_append]; omega
  have hlen2 : P2.length ≤ 1048576 := by rw [hP2, List.length_append, List.length_append]; omega
  have hlen3 : P.length + W.length ≤ 1099511627776 := by rw [hP, List.length_append]; omega
  obtain ⟨oT, cT, eT⟩ := h.t.form
  obtain ⟨oS, cS, eS⟩ := h.s.form
  obtain ⟨oW, cW, eW⟩ := h.y.form
  obtain ⟨og, cg, eg⟩ := hg.form
  have hfl : f < w.heap.size := (Array.getElem?_eq_some_iff.1 h.cell).1
  have x0 : ∀ X, Below w.heap.size w X → X.cell? ⟨f, 0, none⟩ = some vT := fun X hX => cell_of (h.cell.below hX) 0
  have x1 : ∀ X, Below w.heap.size w X → X.cell? ⟨f, 1, none⟩ = some vS := fun X hX => cell_of (h.cell.below hX) 1
  have HBH : Hid (∀ X, Below w.heap.size w X → Calls Tryd.prog 26 #[vT, vS] X fun r' w' => ∃ v, r' = .returned v ∧ Rw w' G v (uT ++ uS) P ∧ (∀ b, v.ownBlock = some b → X.heap.size ≤ b) ∧ Below X.heap.size X w') := fun X hX => by rw [hP]; exact behind_any X G vT vS uT uS T S (h.t.below hX) (h.s.below hX) (fun k hk => Nat.lt_of_lt_of_le (hG k hk) hX.size) (by omega)
  have HH := hide h
  have HGG := hide hG
  have HG := hide hg
  have HQQ := hide hqq
  have HQ1 := hide hq1
  have HQA := hide hq
  have HQ := hide hQ
  rw [← hP] at HQ1
  rw [← hP2] at HQA
  rw [← hP2, ← hP] at HQ
  have HPP : Hid (P ++ W = P2) := by show _ = _; rw [hP2, hP]
  have HP := hide hP
  clear h hG hg hqq hq1 hq hQ hP hP2
  subst eT eS eW eg
  go_enter Tryd.func30, Tryd.ntmps30
  go_wp2_with fail
  go_region_held3 (fun X => Below w.heap.size w X)
    (first
      | exact Below.refl _ _
      | assumption
      | exact keepD (by assumption) (by assumption)
      | exact Below.drew (by assumption)
      | exact (Below.refl _ _).drew)
    ((go_at_call 26; with_reducible refine (HBH.out _ (by assumption)).mono ?_; rintro r' w1 ⟨v1, rfl, hr1, hv1, b1⟩))
  all_goals
    have hB1 : Below w.heap.size w w1 := by assumption
    obtain ⟨o1, c1, e1⟩ := hr1.form
    have HR1 := hide hr1
    have HB1 := hide hB1
    have HS1 := hide (same_dec w1 (.slice og Q.length cg) v1 Q P (HG.out.below hB1).ls hr1.ls (by omega) (by omega) HQQ.out HQ1.out)
    clear b1 hB1 hv1 HBH x0 x1 hr1
    subst e1
    obtain ⟨d1, hd1⟩ : ∃ d, d = decide (Q = P) := ⟨_, rfl⟩
    rw [← hd1] at HS1
    have HD1 := hide hd1
    clear hd1
    go_wp2_with fail
    refine HS1.out.mono ?_
    rintro r' w2 ⟨rfl, b2⟩
    have hB2 : Below w.heap.size w w2 := keepD HB1.out b2
    have x2 : w2.cell? ⟨f, 2, none⟩ = some (.slice oW W.length cW) := cell_of (HH.out.cell.below hB2) 2
    have HBH := hide (behind_any w2 G _ _ _ _ _ _ (HR1.out.below b2) (HH.out.y.below hB2) (fun k hk => Nat.lt_of_lt_of_le (HGG.out k hk) hB2.size) (by omega))
    rw [HPP.out] at HBH
    have HB2 := hide hB2
    clear HS1 b2 HB1 hB2 HR1
    go_wp2_with fail
    refine HBH.out.mono ?_
    rintro r' w3 ⟨v3, rfl, hr3, _, b3⟩
    have hB3 : Below w.heap.size w w3 := keepD HB2.out b3
    obtain ⟨o3, c3, e3⟩ := hr3.form
    have HS3 := hide (same_dec w3 (.slice og Q.length cg) v3 Q P2 (HG.out.below hB3).ls hr3.ls (by omega) (by omega) HQQ.out HQA.out)
    have HB3 := hide hB3
    clear HBH b3 hB3 HB2 hr3 x2
    subst e3
    obtain ⟨d3, hd3⟩ : ∃ d, d = decide (Q = P2) := ⟨_, rfl⟩
    rw [← hd3] at HS3
    have HOR : Hid (d1 = true ∨ d3 = true) := by
      rcases HQ.out with e | e
      · exact Or.inl (by rw [HD1.out]; exact decide_eq_true e)
      · exact Or.inr (by rw [hd3]; exact decide_eq_true e)
    clear hd3
    go_wp2_with fail
    refine HS3.out.mono ?_
    rintro r' w4 ⟨rfl, b4⟩
    have hB4 : Below w.heap.size w w4 := keepD HB3.out b4
    have HBH := hide (behind_any w4 G _ _ _ _ _ _ (HG.out.below hB4) (rw_nil w4 G) (fun k hk => Nat.lt_of_lt_of_le (HGG.out k hk) hB4.size) (by simp; omega))
    rw [List.append_nil, List.append_nil] at HBH
    have HB4 := hide hB4
    clear HS3 b4 HB3 hB4
    go_wp2_with fail
    refine HBH.out.mono ?_
    rintro r' w5 ⟨v5, rfl, hr5, hv5, b5⟩
    have hB5 : Below w.heap.size w w5 := keepD HB4.out b5
    obtain ⟨o5, c5, e5⟩ := hr5.form
    subst e5
    have hA0 := HH.out.cell.below hB5
    have y0 : w5.cell? ⟨f, 0, none⟩ = some (.slice oT T.length cT) := cell_of hA0 0
    have z0 : w5.frozen? ⟨f, 0, none⟩ = false := free_of hA0 0
    have hA1 := ft_set0 hA0 (.slice o5 Q.length c5)
    have y1 : (w5.setCell ⟨f, 0, none⟩ (.slice o5 Q.length c5)).cell? ⟨f, 1, none⟩ = some (.slice oS S.length cS) := cell_of hA1 1
    have z1 : (w5.setCell ⟨f, 0, none⟩ (.slice o5 Q.length c5)).frozen? ⟨f, 1, none⟩ = false := free_of hA1 1
    have hA2 := ft_set1 hA1 (.slice none 0 0)
    have y2 : ((w5.setCell ⟨f, 0, none⟩ (.slice o5 Q.length c5)).setCell ⟨f, 1, none⟩ (.slice none 0 0)).cell? ⟨f, 2, none⟩ = some (.slice oW W.length cW) := cell_of hA2 2
    have z2 : ((w5.setCell ⟨f, 0, none⟩ (.slice o5 Q.length c5)).setCell ⟨f, 1, none⟩ (.slice none 0 0)).frozen? ⟨f, 2, none⟩ = false := free_of hA2 2
    have hA3 := ft_set2 hA2 (.slice none 0 0)
    obtain ⟨X3, hX3⟩ : ∃ X, X = ((w5.setCell ⟨f, 0, none⟩ (.slice o5 Q.length c5)).setCell ⟨f, 1, none⟩ (.slice none 0 0)).setCell ⟨f, 2, none⟩ (.slice none 0 0) := ⟨_, rfl⟩
    rw [← hX3] at hA3
    have hfr3 : Fr [f] w X3 := by
      rw [hX3]
      exact ((((Fr.of hB5).set ⟨f, 0, none⟩ _ (Or.inl (by simp))).set ⟨f, 1, none⟩ _ (Or.inl (by simp))).set ⟨f, 2, none⟩ _ (Or.inl (by simp)))
    have hfr53 : Fr [f] w5 X3 := by
      rw [hX3]
      exact ((((Fr.refl _ _).set ⟨f, 0, none⟩ _ (Or.inl (by simp))).set ⟨f, 1, none⟩ _ (Or.inl (by simp))).set ⟨f, 2, none⟩ _ (Or.inl (by simp)))
    have hm : ∀ k ∈ [f], k ∈ G := fun k hk => by rw [List.mem_singleton.1 hk]; exact HH.out.mem
    have HTK := hide (takes_any X3 G _ _ _ (HG.out.fr hfr3 hm (fun _ hk => Or.inl hk)) hfq)
    have y4 : X3.cell? ⟨f, 4, none⟩ = some (.int .i64 sz) := cell_of hA3 4
    have z4 : X3.frozen? ⟨f, 4, none⟩ = false := free_of hA3 4
    obtain ⟨N, hN⟩ : ∃ N, N = (Wl.flat Q).length := ⟨_, rfl⟩
    rw [← hN] at HTK
    have HNN := hide hN
    have hA4 := ft_set4 hA3 (N : Int)
    have y5 : (X3.setCell ⟨f, 4, none⟩ (.int .i64 (N : Int))).cell? ⟨f, 5, none⟩ = some (.bool lost) := cell_of hA4 5
    have z5 : (X3.setCell ⟨f, 4, none⟩ (.int .i64 (N : Int))).frozen? ⟨f, 5, none⟩ = false := free_of hA4 5
    have hA5 := ft_set5 hA4 false
    obtain ⟨X5, hX5⟩ : ∃ X, X = (X3.setCell ⟨f, 4, none⟩ (.int .i64 (N : Int))).setCell ⟨f, 5, none⟩ (.bool false) := ⟨_, rfl⟩
    rw [← hX5] at hA5
    have hfr5 : Fr [f] w X5 := by
      rw [hX5]
      exact (hfr3.set ⟨f, 4, none⟩ _ (Or.inl (by simp))).set ⟨f, 5, none⟩ _ (Or.inl (by simp))
    have hfr55 : Fr [f] w5 X5 := by
      rw [hX5]
      exact (hfr53.set ⟨f, 4, none⟩ _ (Or.inl (by simp))).set ⟨f, 5, none⟩ _ (Or.inl (by simp))
    have HFT : Hid (Ft X5 K f G Q [] [] arm (N : Int) false) :=
      ⟨_, _, _, _, _, _, hA5, hr5.fr hfr55 hm (fun _ hk => Or.inl hk), rw_nil _ _, rw_nil _ _, HH.out.mem, fun b hb => (by cases hb), fun b hb => (by cases hb), fun _ => rfl, fun b hb => (by cases hb)⟩
    have HFR := hide hfr5
    have HX3 := hide hX3
    have HX5 := hide hX5
    clear hA0 hA1 hA2 hA3 hA4 hA5 hfr3 hfr53 hfr5 hfr55 hX3 hX5 hr5 hv5 b5 hB5 HBH hm hN
    go_wp2_with fail
    rw [← HX3.out]
    refine HTK.out.mono ?_
    rintro r' w6 ⟨rfl, hw6⟩
    subst hw6
    clear y0 y1 y2 z0 z1 z2 HTK
    cases d1 with
    | true =>
      go_wp2_with fail
      rw [← HX5.out]
      go_ret
      exact ⟨rfl, by rw [← HNN.out]; exact HFT.out, HFR.out⟩
    | false =>
      have hd3 : d3 = true := by
        rcases HOR.out with h | h
        · cases h
        · exact h
      subst hd3
      go_wp2_with fail
      rw [← HX5.out]
      go_ret
      exact ⟨rfl, by rw [← HNN.out]; exact HFT.out, HFR.out⟩
end Go.Proofs.YtgmgffcfmopgmaaDoor.wl
