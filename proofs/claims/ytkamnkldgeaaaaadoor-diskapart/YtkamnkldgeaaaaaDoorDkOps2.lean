import Derived.Test.YtkamnkldgeaaaaaDoorDkOps
namespace Go.Proofs.YtkamnkldgeaaaaaDoor.dk
open Go.ChangeShapes Go.WideShapes Go.ChangeAt Go.RowKit Go.Proofs.YtkamnkldgeaaaaaDoor.common

/-- a list that was answered: new memory, apart from the disk -/
def Ans (w : World) (F' : List Nat) (v : Value) (l : List UInt8) (w' : World) : Prop := (v = .slice none 0 0 ∧ l = []) ∨ ∃ g, v = .slice (some ⟨g, 0, none⟩) l.length l.length ∧ w.heap.size ≤ g ∧ g ∉ F' ∧ Nw w' g l
theorem Ans.rd {w : World} {F' : List Nat} {v : Value} {l : List UInt8} {w' : World} (h : Ans w F' v l w') : Rd w' v l := by
  rcases h with ⟨rfl, rfl⟩ | ⟨g, rfl, _, _, h⟩
  · exact rd_nil _
  · exact h.rd _

set_option maxRecDepth 100000 in
set_option maxHeartbeats 1600000 in
theorem reads_any (w : World) (K p : Nat) (F : List Nat) (x : St) (h : Dk w p F x) (e : Nat → Addr) (he : Ed w K e) (hF : ∀ k ∈ F, K ≤ k) (hx : Fine x) (hgb : ∀ y : St, y = x.gate id → y.b.length ≤ 281474976710656) :
    Calls Tryd.prog 28 #[ptr p] w fun r' w' => ∃ v F', r' = .returned (.tuple #[v, errV e x.reads.2]) ∧ Ans w F' v (if x.reads.2 = 0 then x.reads.1.b else []) w' ∧ Dk w' p F' x.reads.1 ∧ Fr F w w' ∧ ∀ k ∈ F', k ∈ F ∨ w.heap.size ≤ k := by
  have HG := hide (gate_nothing w K p F x h e he hF hx)
  unfold St.reads
  rw [oper_gate]
  unfold gateV at HG
  have hyb := hgb _ rfl
  clear h he hF hx hgb
  generalize x.gate id = y at *
  cases hon : x.on with
  | true =>
    rw [hon] at HG
    rw [if_pos rfl] at HG ⊢
    dsimp only
    rw [if_pos rfl]
    go_enter Tryd.func28, Tryd.ntmps28
    go_wp2_with fail
    refine HG.out.mono ?_
    rintro r' w1 ⟨rfl, F1, ⟨gb, ga, vb, va, rfl, D1⟩, f1, s1⟩
    have HO := hide (own_any w1 vb y.b D1.bytes.rd hyb)
    obtain ⟨ao, cap, rfl⟩ := D1.bytes.len
    have c0 : w1.cell? ⟨p, 0, none⟩ = some (.slice ao y.b.length cap) := cell_of D1.cell 0
    have HD := hide D1
    have HF1 := hide f1
    have HS := hide s1
    have hnn := neq_nil w1
    clear D1 f1 s1 HG
    go_wp2_with fail
    refine HO.out.mono ?_
    rintro r' w2 ⟨rfl, n2, b2⟩
    have HN := hide n2
    have HB := hide b2
    clear n2 b2
    go_wp2
    go_ret2
    refine ⟨_, fp p gb ga, rfl, Or.inr ⟨w1.heap.size, rfl, HF1.out.size, fun hm => ?_, HN.out⟩, (HD.out.dk).below HB.out, HF1.out.next HB.out, HS.out⟩
    have := HD.out.lt _ hm
    omega
  | false =>
    rw [hon] at HG
    rw [if_neg (by decide)] at HG ⊢
    dsimp only
    rw [if_neg (by decide)]
    go_enter Tryd.func28, Tryd.ntmps28
    go_wp2_with fail
    refine HG.out.mono ?_
    rintro r' w1 ⟨rfl, F1, D1, f1, s1⟩
    have HD := hide D1
    have HF1 := hide f1
    have HS := hide s1
    have hnn := neq_err e 9 w1
    clear D1 f1 s1 HG
    go_wp2
    go_ret2
    exact ⟨_, F1, rfl, Or.inl ⟨rfl, rfl⟩, HD.out, HF1.out, HS.out⟩

set_option maxRecDepth 100000 in
set_option maxHeartbeats 1600000 in
theorem trunc_any (w : World) (K p : Nat) (F : List Nat) (x : St) (h : Dk w p F x) (e : Nat → Addr) (he : Ed w K e) (hF : ∀ k ∈ F, K ≤ k) (hx : Fine x) (n : Int) (hgb : x.on = true → (x.gate id).b = x.b ∧ (x.gate id).s = x.s ∧ (x.gate id).r = x.r) :
    Calls Tryd.prog 29 #[ptr p, .int .i64 n] w fun r' w' => r' = .returned (errV e (x.trunc n).2) ∧ Mv w p F (x.trunc n).1 w' := by
  have HG := hide (gate_nothing w K p F x h e he hF hx)
  have HM0 := hide h.mv
  have HD0 := hide h
  have cE := he.arg
  obtain ⟨gb0, ga0, vb0, va0, rfl, h⟩ := h
  obtain ⟨ao0, cap0, rfl⟩ := h.bytes.len
  have c0 : w.cell? ⟨p, 0, none⟩ = some (.slice ao0 x.b.length cap0) := cell_of h.cell 0
  have c4 : w.cell? ⟨p, 4, none⟩ = some (.bool x.d) := cell_of h.cell 4
  have hsy := hx.ok.syn
  clear h he hF hx
  unfold St.trunc
  by_cases hc : (!x.d && (decide (n < 0) || decide ((x.b.length : Int) < n))) = true
  · rw [if_pos hc]
    have hd : x.d = false := by
      cases hd : x.d with
      | true => rw [hd] at hc; cases hc
      | false => rfl
    rw [hd] at c4 hc
    have hc2 : n < 0 ∨ (x.b.length : Int) < n := by simpa using hc
    clear hc HG hgb HD0
    by_cases hn : n < 0
    · have e1 : decide (n < 0) = true := decide_eq_true hn
      clear hc2
      go_enter Tryd.func29, Tryd.ntmps29
      go_wp2
      go_ret
      exact ⟨rfl, HM0.out⟩
    · have e1 : decide (n < 0) = false := decide_eq_false hn
      have hn2 : (x.b.length : Int) < n := hc2.resolve_left hn
      have e2 : decide ((x.b.length : Int) < n) = true := decide_eq_true hn2
      clear hc2
      go_enter Tryd.func29, Tryd.ntmps29
      go_wp2
      go_ret
      exact ⟨rfl, HM0.out⟩
  · rw [if_neg hc, oper_gate]
    unfold gateV at HG
    cases hon : x.on with
    | true =>
      obtain ⟨g1, g2, g3⟩ := hgb hon
      have hd : x.d = false := by
        cases hd : x.d with
        | true => unfold St.on at hon; rw [hd] at hon; cases hon
        | false => rfl
      rw [hd] at hc c4
      have hnn0 : 0 ≤ n ∧ n ≤ (x.b.length : Int) := by
        simp at hc
        omega
      obtain ⟨m, rfl⟩ : ∃ m : Nat, n = (m : Int) := ⟨n.toNat, by omega⟩
      have hmb : m ≤ x.b.length := by omega
      have e1 : decide ((m : Int) < 0) = false := decide_eq_false (by omega)
      have e2 : decide ((x.b.length : Int) < (m : Int)) = false := decide_eq_false (by omega)
      have e3 : ¬ (m : Int) < 0 := by omega
      have e4 : ¬ (x.b.length : Int) < (m : Int) := by omega
      rw [hon] at HG
      rw [if_pos rfl] at HG ⊢
      rw [Int.toNat_natCast]
      have HCT : Hid ((x.gate id).cut m = ⟨(x.gate id).b.take m, min (x.gate id).s m, (x.gate id).r, (x.gate id).a, (x.gate id).d⟩) := rfl
      rw [← g1] at hmb
      rw [← g2, ← g1] at hsy
      clear hgb hc hd hon g1 g2 g3 hnn0
      generalize x.gate id = y at *
      go_enter Tryd.func29, Tryd.ntmps29
      go_wp2_with fail
      refine HG.out.mono ?_
      rintro r' w1 ⟨rfl, F1, ⟨gb, ga, vb, va, rfl, D1⟩, f1, s1⟩
      have HO := hide (cut_any w1 p gb ga vb va y D1 m hmb)
      have HD := hide D1
      have HF1 := hide f1
      have HS := hide s1
      have hnn := neq_nil w1
      clear D1 f1 s1 HG
      go_wp2_with fail
      refine HO.out.mono ?_
      rintro r' w2 ⟨rfl, gb', vb', hg', rfl, hl'⟩
      have hl3 : Ln w1 5 1 gb' vb' (y.b.take m).length ((y.b.take m).map B) := by rw [List.length_take, Nat.min_eq_left hmb]; exact hl'
      have D2 := HD.out.at0 (y.b.take m) hl3
      have d1 : (w1.setCell ⟨p, 0, none⟩ vb').cell? ⟨p, 1, none⟩ = some (.int .i64 (y.s : Int)) := cell_of D2.cell 1
      have z1 : (w1.setCell ⟨p, 0, none⟩ vb').frozen? ⟨p, 1, none⟩ = false := free_of D2.cell 1
      have HD3 := hide (D2.at1 (min y.s m))
      have HF2 := hide (HF1.out.trans (((Fr.refl (fp p gb ga) w1).set ⟨p, 0, none⟩ vb' (Or.inl (fp_p _ _ _))).set ⟨p, 1, none⟩ (.int .i64 ((min y.s m : Nat) : Int)) (Or.inl (fp_p _ _ _))) HS.out)
      have HSS : Hid (∀ k ∈ fp p gb' ga, k ∈ fp p gb0 ga0 ∨ w.heap.size ≤ k) := fun k hk => by
        rcases fp_cases hk with rfl | h1 | h1
        · exact HS.out _ (fp_p _ _ _)
        · rcases hg' with h2 | h2
          · rw [h2] at h1; cases h1
          · exact HS.out _ (fp_b (h2 ▸ h1))
        · exact HS.out _ (fp_a h1)
      clear D2 hl3 hl' hg' HO HD HF1 HS c0 c4 cE
      by_cases hsm : y.s ≤ m
      · rw [Nat.min_eq_left hsm] at HD3 HF2 HCT
        have hsi : (y.s : Int) ≤ (m : Int) := by omega
        generalize w1.setCell ⟨p, 0, none⟩ vb' = W at *
        go_wp2
        go_ret
        refine ⟨rfl, ?_⟩
        show Mv _ _ _ (y.cut m) _
        rw [HCT.out]
        exact ⟨fp p gb' ga, HD3.out.dk, HF2.out, HSS.out⟩
      · rw [Nat.min_eq_right (by omega)] at HD3 HF2 HCT
        have hsi : ¬ (y.s : Int) ≤ (m : Int) := by omega
        generalize w1.setCell ⟨p, 0, none⟩ vb' = W at *
        go_wp2
        go_ret
        refine ⟨rfl, ?_⟩
        show Mv _ _ _ (y.cut m) _
        rw [HCT.out]
        exact ⟨fp p gb' ga, HD3.out.dk, HF2.out, HSS.out⟩
    | false =>
      rw [hon] at HG
      rw [if_neg (by decide)] at HG ⊢
      clear hgb hon HM0 HD0
      generalize x.gate id = y at *
      cases hd : x.d with
      | true =>
        rw [hd] at c4
        clear hc
        go_enter Tryd.func29, Tryd.ntmps29
        go_wp2_with fail
        refine HG.out.mono ?_
        rintro r' w1 ⟨rfl, m1⟩
        have HM := hide m1
        have hnn := neq_err e 9 w1
        clear m1 HG
        go_wp2
        go_ret
        exact ⟨rfl, HM.out⟩
      | false =>
        rw [hd] at hc c4
        have hnn0 : 0 ≤ n ∧ n ≤ (x.b.length : Int) := by
          simp at hc
          omega
        have e1 : decide (n < 0) = false := decide_eq_false (by omega)
        have e2 : decide ((x.b.length : Int) < n) = false := decide_eq_false (by omega)
        have e3 : ¬ n < 0 := by omega
        have e4 : ¬ (x.b.length : Int) < n := by omega
        clear hc hnn0
        go_enter Tryd.func29, Tryd.ntmps29
        go_wp2_with fail
        refine HG.out.mono ?_
        rintro r' w1 ⟨rfl, m1⟩
        have HM := hide m1
        have hnn := neq_err e 9 w1
        clear m1 HG
        go_wp2
        go_ret
        exact ⟨rfl, HM.out⟩
end Go.Proofs.YtkamnkldgeaaaaaDoor.dk
