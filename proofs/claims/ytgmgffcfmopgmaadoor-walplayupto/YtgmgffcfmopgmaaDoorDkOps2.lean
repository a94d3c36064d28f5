import Derived.Test.YtgmgffcfmopgmaaDoorDkPut
import Derived.Shelf.Abstract
namespace Go.Proofs.YtgmgffcfmopgmaaDoor.dk
open Go.ChangeShapes Go.WideShapes Go.ChangeAt Go.RowKit Go.Proofs.YtgmgffcfmopgmaaDoor.common

/-- does the operation go on? -/
def St.on (x : St) : Bool := !x.d && (match x.a with | (0, _) :: _ => false | _ => true)
/-- the disk behind the gate -/
def St.gate (x : St) (dying : St → St) : St := if x.d then x else match x.a with
  | [] => x
  | (0, k) :: r => (dying ⟨x.b, x.s, x.r, r, false⟩).fail k
  | (n + 1, k) :: r => ⟨x.b, x.s, x.r, (n, k) :: r, false⟩
theorem oper_gate (x : St) (dying on : St → St) (err : Nat) : x.oper dying on err = if x.on then (on (x.gate dying), err) else (x.gate dying, 10) := by
  unfold St.oper St.on St.gate
  cases hd : x.d with
  | true => rfl
  | false =>
    rcases ha : x.a with _ | ⟨⟨n, k⟩, r⟩
    · rfl
    · cases n <;> rfl
/-- what the gate answers -/
def gateV (e : Nat → Addr) (x : St) : Value := if x.on then .nilIface else errw.E e 9
theorem Lk.dk {w : World} {p : Nat} {gb ga : Option Nat} {vb va : Value} {x : St} (h : Lk w p gb ga vb va x) : Dk w p (fp p gb ga) x := ⟨gb, ga, vb, va, rfl, h⟩
theorem fp_sub {p : Nat} {gb ga ga' : Option Nat} (h : ga' = ga ∨ ga' = none) : ∀ k ∈ fp p gb ga', k ∈ fp p gb ga := fun k hk => by
  rcases fp_cases hk with rfl | h1 | h1
  · exact fp_p _ _ _
  · exact fp_b h1
  · rcases h with h | h
    · exact fp_a (h ▸ h1)
    · rw [h] at h1; cases h1
/-- the first number of a line's first element is set -/
theorem Ln.first {w : World} {e : TypeId} {g o n cap : Nat} {a b u : Value} {xs : List Value} {gb : Option Nat} (h : Ln w e 2 gb (.slice (some ⟨g, o, none⟩) (n + 1) cap) (n + 1) ([a, b] ++ xs)) (hg : gb = some g) : Ln (w.setCell ⟨g, o, none⟩ u) e 2 gb (.slice (some ⟨g, o, none⟩) (n + 1) cap) (n + 1) ([u, b] ++ xs) := by
  have hl := h.1
  refine ⟨by simpa using hl, ?_⟩
  rcases h.2 with ⟨_, h0, _⟩ | ⟨g', o', c, _, hv, ⟨cur, hc⟩, h2, h3, h4, h5, h6⟩
  · cases h0
  cases hv
  obtain ⟨cur', hc'⟩ := cells_set (⟨g, o, none⟩ : Addr) u hc
  refine Or.inr ⟨g, o, cap, hg, rfl, ⟨cur', hc'⟩, h2, h3, h4, there_set h5 _ _, ?_⟩
  have := range_set h6 0 (by simp) u
  simpa using this

set_option maxRecDepth 100000 in
set_option maxHeartbeats 1600000 in
theorem gate_dead (w : World) (K p : Nat) (F : List Nat) (x : St) (h : Dk w p F x) (fv : Value) (e : Nat → Addr) (he : Ed w K e) (hd : x.d = true) :
    Calls Tryd.prog 66 #[ptr p, fv] w fun r w' => r = .returned (errw.E e 9) ∧ w' = w := by
  obtain ⟨gb, ga, vb, va, rfl, h⟩ := h
  have c4 : w.cell? ⟨p, 4, none⟩ = some (.bool true) := by rw [← hd]; exact cell_of h.cell 4
  have cE := he.dead
  clear h he
  go_enter Tryd.func66, Tryd.ntmps66
  go_wp2
  go_ret
  exact ⟨rfl, rfl⟩
set_option maxRecDepth 100000 in
set_option maxHeartbeats 1600000 in
theorem gate_none (w : World) (p : Nat) (F : List Nat) (x : St) (h : Dk w p F x) (fv : Value) (hd : x.d = false) (ha : x.a = []) :
    Calls Tryd.prog 66 #[ptr p, fv] w fun r w' => r = .returned .nilIface ∧ w' = w := by
  obtain ⟨gb, ga, vb, va, rfl, h⟩ := h
  have c4 : w.cell? ⟨p, 4, none⟩ = some (.bool false) := by rw [← hd]; exact cell_of h.cell 4
  obtain ⟨ao, cap, rfl⟩ := h.arms.len
  have c3 : w.cell? ⟨p, 3, none⟩ = some (.slice ao 0 cap) := by have := cell_of h.cell 3; rw [ha] at this; exact this
  clear h ha
  go_enter Tryd.func66, Tryd.ntmps66
  go_wp2
  go_ret
  exact ⟨rfl, rfl⟩
set_option maxRecDepth 100000 in
set_option maxHeartbeats 1600000 in
theorem gate_less (w : World) (p : Nat) (F : List Nat) (x : St) (h : Dk w p F x) (fv : Value) (hd : x.d = false) (n : Nat) (k : Int) (r : List (Nat × Int)) (ha : x.a = (n + 1, k) :: r) (hn : n + 1 ≤ 9223372036854775807) :
    Calls Tryd.prog 66 #[ptr p, fv] w fun r' w' => r' = .returned .nilIface ∧ Mv w p F ⟨x.b, x.s, x.r, (n, k) :: r, false⟩ w' := by
  obtain ⟨gb, ga, vb, va, rfl, h⟩ := h
  have c4 : w.cell? ⟨p, 4, none⟩ = some (.bool false) := by rw [← hd]; exact cell_of h.cell 4
  have hla := h.arms
  rw [ha, acs_cons, List.length_cons] at hla
  obtain ⟨g, o, cap, hga, rfl, hcap, hrg, hlt, _⟩ := hla.tail rfl
  have c3 : w.cell? ⟨p, 3, none⟩ = some (.slice (some ⟨g, o, none⟩) (r.length + 1) (cap + 1)) := cell_of h.cell 3
  have g0 : w.cell? ⟨g, o, none⟩ = some (.int .i64 ((n + 1 : Nat) : Int)) := hrg 0 _ rfl
  have gf : w.frozen? ⟨g, o, none⟩ = false := by
    obtain ⟨_, cur, hc⟩ := hla.lt g hga
    exact free_of hc o
  have hln : Ln (w.setCell ⟨g, o, none⟩ (.int .i64 (n : Int))) 86 2 ga (.slice (some ⟨g, o, none⟩) (r.length + 1) (cap + 1)) ((n, k) :: r).length (acs ((n, k) :: r)) := hla.first hga
  have hne := h.ne
  have HK : Hid (Lk (w.setCell ⟨g, o, none⟩ (.int .i64 (n : Int))) p gb ga vb (.slice (some ⟨g, o, none⟩) (r.length + 1) (cap + 1)) ⟨x.b, x.s, x.r, (n, k) :: r, false⟩) :=
    ⟨(set_other _ _ _ _ (Ne.symm (hne.2.1 g hga))).trans (by rw [← hd]; exact h.cell), h.bytes.keep fun j hj => set_other _ _ _ _ (fun e => hne.2.2 j hj (by rw [show j = g from e]; exact hga)), hln⟩
  have HF := hide ((Fr.refl (fp p gb ga) w).set ⟨g, o, none⟩ (.int .i64 (n : Int)) (Or.inl (fp_a hga)))
  clear h hla hrg hln hne ha
  have e1 : (0 : Int) < ((n + 1 : Nat) : Int) := by omega
  have e2 : ((n + 1 : Nat) : Int) - 1 = (n : Int) := by omega
  generalize ((n + 1 : Nat) : Int) = N at *
  go_enter Tryd.func66, Tryd.ntmps66
  go_wp2
  go_ret
  exact ⟨rfl, fp p gb ga, HK.out.dk, HF.out, fun j hj => Or.inl hj⟩

set_option maxRecDepth 100000 in
set_option maxHeartbeats 1600000 in
theorem gate_dies (w : World) (K p : Nat) (F : List Nat) (x : St) (h : Dk w p F x) (e : Nat → Addr) (he : Ed w K e) (hF : ∀ k ∈ F, K ≤ k) (hd : x.d = false) (k : Int) (r : List (Nat × Int)) (ha : x.a = (0, k) :: r)
    (Fd : Nat) (caps : Array Value) (y : St) (hys : y.s ≤ y.b.length) (hym : y.b.length ≤ 281474976710656) (eg : ∀ args w, (callFunc Fd args).run Tryd.prog w = .ok (.enter Fd args) w)
    (hk : ∀ W F', Dk W p F' ⟨x.b, x.s, x.r, r, false⟩ → Fr F w W → (∀ k ∈ F', k ∈ F) → Calls Tryd.prog Fd caps W fun r' w' => r' = .returned (.tuple #[]) ∧ Mv W p F' y w') :
    Calls Tryd.prog 66 #[ptr p, .func (.func Fd) #[] caps] w fun r' w' => r' = .returned (errw.E e 9) ∧ Mv w p F (y.fail k) w' := by
  obtain ⟨gb, ga, vb, va, rfl, h⟩ := h
  have c4 : w.cell? ⟨p, 4, none⟩ = some (.bool false) := by rw [← hd]; exact cell_of h.cell 4
  have hla := h.arms
  rw [ha, acs_cons, List.length_cons] at hla
  obtain ⟨g, o, cap, hga, rfl, hcap, hrg, hlt, ga', hga', hl'⟩ := hla.tail rfl
  have c3 : w.cell? ⟨p, 3, none⟩ = some (.slice (some ⟨g, o, none⟩) (r.length + 1) (cap + 1)) := cell_of h.cell 3
  have f3 : w.frozen? ⟨p, 3, none⟩ = false := free_of h.cell 3
  have g0 : w.cell? ⟨g, o, none⟩ = some (.int .i64 0) := hrg 0 _ rfl
  have g1 : w.cell? ⟨g, o + 1, none⟩ = some (.int .i64 k) := hrg 1 _ rfl
  have hk1 := h.at3 r hl'
  have HSB : Hid (∀ k ∈ fp p gb ga', k ∈ fp p gb ga) := fp_sub hga'
  have HK1 : Hid (Dk (w.setCell ⟨p, 3, none⟩ (.slice (some (if cap = 0 then ⟨g, o, none⟩ else ⟨g, o + 2, none⟩)) r.length cap)) p (fp p gb ga') ⟨x.b, x.s, x.r, r, false⟩) := by
    have := hk1.dk
    rw [hd] at this
    exact this
  have HF1 := hide ((Fr.refl (fp p gb ga) w).set ⟨p, 3, none⟩ (.slice (some (if cap = 0 then ⟨g, o, none⟩ else ⟨g, o + 2, none⟩)) r.length cap) (Or.inl (fp_p _ _ _)))
  have HKK := hide hk
  have HER := hide he
  have HFF := hide hF
  have HFAIL : Hid (∀ W F', Dk W p F' y → Calls Tryd.prog 43 #[ptr p, .int .i64 k] W fun r' w' => r' = .returned (.tuple #[]) ∧ Mv W p F' (y.fail k) w') := fun W F' hW => by
    obtain ⟨gb2, ga2, vb2, va2, rfl, hW⟩ := hW
    refine (fail_any W p gb2 ga2 vb2 va2 y k hW hys hym).mono ?_
    rintro r' w' ⟨rfl, gb', vb', hg', hl2, hf2, _⟩
    refine ⟨rfl, fp p gb' ga2, hl2.dk, hf2.mono (fun j hj => by rw [List.mem_singleton.1 hj]; exact fp_p _ _ _), fun j hj => Or.inl ?_⟩
    rcases fp_cases hj with rfl | h1 | h1
    · exact fp_p _ _ _
    · rcases hg' with h2 | h2
      · rw [h2] at h1; cases h1
      · exact fp_b (h2 ▸ h1)
    · exact fp_a h1
  clear h hla hrg hl' ha hk1 hk he hF
  by_cases hc0 : cap = 0
  · subst hc0
    obtain rfl : r = [] := List.eq_nil_of_length_eq_zero (by omega)
    rw [if_pos rfl] at HK1 HF1
    go_enter Tryd.func66, Tryd.ntmps66
    go_wp2_with fail
    refine (HKK.out _ _ HK1.out HF1.out HSB.out).mono ?_
    rintro x' w2 ⟨rfl, F2, D2, fr2, s2⟩
    have HD2 := hide D2
    have HFR2 := hide (HF1.out.trans fr2 (fun k hk => Or.inl (HSB.out k hk)))
    have HS2 : Hid (∀ k ∈ F2, k ∈ fp p gb ga ∨ w.heap.size ≤ k) := fun k hk => (s2 k hk).elim (fun h => Or.inl (HSB.out k h)) (fun h => Or.inr (by rw [size_set] at h; exact h))
    clear D2 fr2 s2
    go_wp2_with fail
    refine (HFAIL.out _ _ HD2.out).mono ?_
    rintro x' w3 ⟨rfl, m3⟩
    have m4 := Mv.trans HFR2.out HS2.out m3
    obtain ⟨F4, D4, fr4, s4⟩ := m4
    have cE := (HER.out.fr fr4 HFF.out).dead
    have HM : Hid (Mv w p (fp p gb ga) (y.fail k) w3) := ⟨F4, D4, fr4, s4⟩
    clear m3 D4 fr4 s4
    go_wp2
    go_ret
    exact ⟨rfl, HM.out⟩
  · rw [if_neg hc0] at HK1 HF1
    go_enter Tryd.func66, Tryd.ntmps66
    go_wp2_with fail
    refine (HKK.out _ _ HK1.out HF1.out HSB.out).mono ?_
    rintro x' w2 ⟨rfl, F2, D2, fr2, s2⟩
    have HD2 := hide D2
    have HFR2 := hide (HF1.out.trans fr2 (fun k hk => Or.inl (HSB.out k hk)))
    have HS2 : Hid (∀ k ∈ F2, k ∈ fp p gb ga ∨ w.heap.size ≤ k) := fun k hk => (s2 k hk).elim (fun h => Or.inl (HSB.out k h)) (fun h => Or.inr (by rw [size_set] at h; exact h))
    clear D2 fr2 s2
    go_wp2_with fail
    refine (HFAIL.out _ _ HD2.out).mono ?_
    rintro x' w3 ⟨rfl, m3⟩
    have m4 := Mv.trans HFR2.out HS2.out m3
    obtain ⟨F4, D4, fr4, s4⟩ := m4
    have cE := (HER.out.fr fr4 HFF.out).dead
    have HM : Hid (Mv w p (fp p gb ga) (y.fail k) w3) := ⟨F4, D4, fr4, s4⟩
    clear m3 D4 fr4 s4
    go_wp2
    go_ret
    exact ⟨rfl, HM.out⟩
end Go.Proofs.YtgmgffcfmopgmaaDoor.dk

namespace Go.Proofs.YtgmgffcfmopgmaaDoor.dk
open Go.ChangeShapes Go.WideShapes Go.ChangeAt Go.RowKit Go.Proofs.YtgmgffcfmopgmaaDoor.common

theorem Dk.mv {w : World} {p : Nat} {F : List Nat} {x : St} (h : Dk w p F x) : Mv w p F x w := ⟨F, h, Fr.refl _ _, fun _ hk => Or.inl hk⟩
theorem gate_any (w : World) (K p : Nat) (F : List Nat) (x : St) (h : Dk w p F x) (e : Nat → Addr) (he : Ed w K e) (hF : ∀ k ∈ F, K ≤ k) (ha : ∀ a ∈ x.a, a.1 ≤ 9223372036854775807)
    (Fd : Nat) (caps : Array Value) (dying : St → St) (hy : ∀ r, (dying ⟨x.b, x.s, x.r, r, false⟩).s ≤ (dying ⟨x.b, x.s, x.r, r, false⟩).b.length ∧ (dying ⟨x.b, x.s, x.r, r, false⟩).b.length ≤ 281474976710656) (eg : ∀ args w, (callFunc Fd args).run Tryd.prog w = .ok (.enter Fd args) w)
    (hk : ∀ W F' r, Dk W p F' ⟨x.b, x.s, x.r, r, false⟩ → Fr F w W → (∀ k ∈ F', k ∈ F) → Calls Tryd.prog Fd caps W fun r' w' => r' = .returned (.tuple #[]) ∧ Mv W p F' (dying ⟨x.b, x.s, x.r, r, false⟩) w') :
    Calls Tryd.prog 66 #[ptr p, .func (.func Fd) #[] caps] w fun r' w' => r' = .returned (gateV e x) ∧ Mv w p F (x.gate dying) w' := by
  cases hd : x.d with
  | true =>
    refine (gate_dead w K p F x h _ e he hd).mono ?_
    rintro r' w' ⟨rfl, rfl⟩
    unfold gateV St.on St.gate
    rw [hd]
    exact ⟨rfl, h.mv⟩
  | false =>
    have e1 : ∀ a, x.a = a → x.gate dying = (match a with | [] => x | (0, k) :: r => (dying ⟨x.b, x.s, x.r, r, false⟩).fail k | (n + 1, k) :: r => ⟨x.b, x.s, x.r, (n, k) :: r, false⟩) := fun a ha => by
      unfold St.gate; rw [hd, ha]; rfl
    have e2 : ∀ a, x.a = a → gateV e x = if (match a with | (0, _) :: _ => false | _ => true) then .nilIface else errw.E e 9 := fun a ha => by
      unfold gateV St.on; rw [hd, ha]; rfl
    rcases hx : x.a with _ | ⟨⟨n, k⟩, r⟩
    · rw [e1 _ hx, e2 _ hx]
      refine (gate_none w p F x h _ hd hx).mono ?_
      rintro r' w' ⟨rfl, rfl⟩
      exact ⟨rfl, h.mv⟩
    · cases n with
      | zero =>
        rw [e1 _ hx, e2 _ hx]
        exact gate_dies w K p F x h e he hF hd k r hx Fd caps _ (hy r).1 (hy r).2 eg fun W F' => hk W F' r
      | succ n =>
        rw [e1 _ hx, e2 _ hx]
        exact gate_less w p F x h _ hd n k r hx (ha (n + 1, k) (by rw [hx]; exact List.mem_cons_self ..))
theorem enters_nothing : ∀ args w, (callFunc 67 args).run Tryd.prog w = .ok (.enter 67 args) w := enters_of Tryd.func67 (by kernel_rfl) rfl
theorem enters_put : ∀ args w, (callFunc 76 args).run Tryd.prog w = .ok (.enter 76 args) w := enters_of Tryd.func76 (by kernel_rfl) rfl
theorem nothing_any (w : World) : Calls Tryd.prog 67 #[] w fun r' w' => r' = .returned (.tuple #[]) ∧ w' = w := by
  go_enter Tryd.func67, Tryd.ntmps67
  go_wp2
  go_end0
  exact ⟨rfl, rfl⟩
/-- what holds of a disk all along -/
structure Fine (x : St) : Prop where
  ok : x.Ok 140737488355328
  arms : ∀ a ∈ x.a, a.1 ≤ 9223372036854775807
  keep : ∀ a ∈ x.a, -9223372036854775808 ≤ a.2 ∧ a.2 ≤ 9223372036854775807
theorem gate_nothing (w : World) (K p : Nat) (F : List Nat) (x : St) (h : Dk w p F x) (e : Nat → Addr) (he : Ed w K e) (hF : ∀ k ∈ F, K ≤ k) (hx : Fine x) :
    Calls Tryd.prog 66 #[ptr p, .func (.func 67) #[] #[]] w fun r' w' => r' = .returned (gateV e x) ∧ Mv w p F (x.gate id) w' :=
  gate_any w K p F x h e he hF hx.arms 67 #[] id (fun _ => ⟨hx.ok.syn, by have := hx.ok.most; show x.b.length ≤ _; omega⟩) enters_nothing fun W F' r hD _ _ => by
    refine (nothing_any W).mono ?_
    rintro r' w' ⟨rfl, rfl⟩
    exact ⟨rfl, hD.mv⟩
theorem neq_err (e : Nat → Addr) (i : Nat) (w : World) : (binOp .neq 30 (errw.E e i) .nilIface).run Tryd.prog w = .ok (.bool true) w := by kernel_rfl
theorem neq_nil (w : World) : (binOp .neq 30 .nilIface .nilIface).run Tryd.prog w = .ok (.bool false) w := by kernel_rfl
/-- what an operation answers -/
def errV (e : Nat → Addr) (n : Nat) : Value := if n = 0 then .nilIface else errw.E e (n - 1)

set_option maxRecDepth 100000 in
set_option maxHeartbeats 1600000 in
theorem sync_any (w : World) (K p : Nat) (F : List Nat) (x : St) (h : Dk w p F x) (e : Nat → Addr) (he : Ed w K e) (hF : ∀ k ∈ F, K ≤ k) (hx : Fine x) :
    Calls Tryd.prog 68 #[ptr p] w fun r' w' => r' = .returned (errV e x.syncs.2) ∧ Mv w p F x.syncs.1 w' := by
  have HG := hide (gate_nothing w K p F x h e he hF hx)
  unfold St.syncs
  rw [oper_gate]
  unfold gateV at HG
  clear h he hF hx
  generalize x.gate id = y at *
  cases hon : x.on with
  | true =>
    rw [hon] at HG
    rw [if_pos rfl] at HG ⊢
    go_enter Tryd.func68, Tryd.ntmps68
    go_wp2_with fail
    refine HG.out.mono ?_
    rintro r' w1 ⟨rfl, F1, ⟨gb, ga, vb, va, rfl, D1⟩, f1, s1⟩
    obtain ⟨ao, cap, rfl⟩ := D1.bytes.len
    have c0 : w1.cell? ⟨p, 0, none⟩ = some (.slice ao y.b.length cap) := cell_of D1.cell 0
    have c1 : w1.cell? ⟨p, 1, none⟩ = some (.int .i64 (y.s : Int)) := cell_of D1.cell 1
    have y1 : w1.frozen? ⟨p, 1, none⟩ = false := free_of D1.cell 1
    have HD := hide (D1.at1 y.b.length)
    have HF1 := hide (f1.trans ((Fr.refl (fp p gb ga) w1).set ⟨p, 1, none⟩ (.int .i64 (y.b.length : Int)) (Or.inl (fp_p _ _ _))) s1)
    have HS := hide s1
    have hnn := neq_nil w1
    clear D1 f1 s1 HG
    go_wp2
    go_ret
    exact ⟨rfl, fp p gb ga, HD.out.dk, HF1.out, HS.out⟩
  | false =>
    rw [hon] at HG
    rw [if_neg (by decide)] at HG ⊢
    go_enter Tryd.func68, Tryd.ntmps68
    go_wp2_with fail
    refine HG.out.mono ?_
    rintro r' w1 ⟨rfl, m1⟩
    have HM := hide m1
    have hnn := neq_err e 9 w1
    clear m1 HG
    go_wp2
    go_ret
    exact ⟨rfl, HM.out⟩
end Go.Proofs.YtgmgffcfmopgmaaDoor.dk

namespace Go.Proofs.YtgmgffcfmopgmaaDoor.dk
open Go.ChangeShapes Go.WideShapes Go.ChangeAt Go.RowKit Go.Proofs.YtgmgffcfmopgmaaDoor.common

/-- a list that was answered: new memory, apart from the disk -/
def Ans (w : World) (F' : List Nat) (v : Value) (l : List UInt8) (w' : World) : Prop := (v = .slice none 0 0 ∧ l = []) ∨ ∃ g, v = .slice (some ⟨g, 0, none⟩) l.length l.length ∧ w.heap.size ≤ g ∧ g ∉ F' ∧ Nw w' g l
theorem Ans.rd {w : World} {F' : List Nat} {v : Value} {l : List UInt8} {w' : World} (h : Ans w F' v l w') : Rd w' v l := by
  rcases h with ⟨rfl, rfl⟩ | ⟨g, rfl, _, _, h⟩
  · exact rd_nil _
  · exact h.rd _

set_option maxRecDepth 100000 in
set_option maxHeartbeats 1600000 in
theorem reads_any (w : World) (K p : Nat) (F : List Nat) (x : St) (h : Dk w p F x) (e : Nat → Addr) (he : Ed w K e) (hF : ∀ k ∈ F, K ≤ k) (hx : Fine x) (hgb : ∀ y : St, y = x.gate id → y.b.length ≤ 281474976710656) :
    Calls Tryd.prog 41 #[ptr p] w fun r' w' => ∃ v F', r' = .returned (.tuple #[v, errV e x.reads.2]) ∧ Ans w F' v (if x.reads.2 = 0 then x.reads.1.b else []) w' ∧ Dk w' p F' x.reads.1 ∧ Fr F w w' ∧ ∀ k ∈ F', k ∈ F ∨ w.heap.size ≤ k := by
  have HG := hide (gate_nothing w K p F x h e he hF hx)
  unfold St.reads
  rw [oper_gate]
  unfold gateV at HG
  have hyb := hgb _ rfl
  clear h he hF hx hgb
  generalize x.gate id = y at *
  cases hon : x.on with
  | true =>
    rw [hon] at HG
    rw [if_pos rfl] at HG ⊢
    dsimp only
    rw [if_pos rfl]
    go_enter Tryd.func41, Tryd.ntmps41
    go_wp2_with fail
    refine HG.out.mono ?_
    rintro r' w1 ⟨rfl, F1, ⟨gb, ga, vb, va, rfl, D1⟩, f1, s1⟩
    have HO := hide (own_any w1 vb y.b D1.bytes.rd hyb)
    obtain ⟨ao, cap, rfl⟩ := D1.bytes.len
    have c0 : w1.cell? ⟨p, 0, none⟩ = some (.slice ao y.b.length cap) := cell_of D1.cell 0
    have HD := hide D1
    have HF1 := hide f1
    have HS := hide s1
    have hnn := neq_nil w1
    clear D1 f1 s1 HG
    go_wp2_with fail
    refine HO.out.mono ?_
    rintro r' w2 ⟨rfl, n2, b2⟩
    have HN := hide n2
    have HB := hide b2
    clear n2 b2
    go_wp2
    go_ret2
    refine ⟨_, fp p gb ga, rfl, Or.inr ⟨w1.heap.size, rfl, HF1.out.size, fun hm => ?_, HN.out⟩, (HD.out.dk).below HB.out, HF1.out.next HB.out, HS.out⟩
    have := HD.out.lt _ hm
    omega
  | false =>
    rw [hon] at HG
    rw [if_neg (by decide)] at HG ⊢
    dsimp only
    rw [if_neg (by decide)]
    go_enter Tryd.func41, Tryd.ntmps41
    go_wp2_with fail
    refine HG.out.mono ?_
    rintro r' w1 ⟨rfl, F1, D1, f1, s1⟩
    have HD := hide D1
    have HF1 := hide f1
    have HS := hide s1
    have hnn := neq_err e 9 w1
    clear D1 f1 s1 HG
    go_wp2
    go_ret2
    exact ⟨_, F1, rfl, Or.inl ⟨rfl, rfl⟩, HD.out, HF1.out, HS.out⟩

set_option maxRecDepth 100000 in
set_option maxHeartbeats 1600000 in
theorem trunc_any (w : World) (K p : Nat) (F : List Nat) (x : St) (h : Dk w p F x) (e : Nat → Addr) (he : Ed w K e) (hF : ∀ k ∈ F, K ≤ k) (hx : Fine x) (n : Int) (hgb : x.on = true → (x.gate id).b = x.b ∧ (x.gate id).s = x.s ∧ (x.gate id).r = x.r) :
    Calls Tryd.prog 61 #[ptr p, .int .i64 n] w fun r' w' => r' = .returned (errV e (x.trunc n).2) ∧ Mv w p F (x.trunc n).1 w' := by
  have HG := hide (gate_nothing w K p F x h e he hF hx)
  have HM0 := hide h.mv
  have HD0 := hide h
  have cE := he.arg
  obtain ⟨gb0, ga0, vb0, va0, rfl, h⟩ := h
  obtain ⟨ao0, cap0, rfl⟩ := h.bytes.len
  have c0 : w.cell? ⟨p, 0, none⟩ = some (.slice ao0 x.b.length cap0) := cell_of h.cell 0
  have c4 : w.cell? ⟨p, 4, none⟩ = some (.bool x.d) := cell_of h.cell 4
  have hsy := hx.ok.syn
  clear h he hF hx
  unfold St.trunc
  by_cases hc : (!x.d && (decide (n < 0) || decide ((x.b.length : Int) < n))) = true
  · rw [if_pos hc]
    have hd : x.d = false := by
      cases hd : x.d with
      | true => rw [hd] at hc; cases hc
      | false => rfl
    rw [hd] at c4 hc
    have hc2 : n < 0 ∨ (x.b.length : Int) < n := by simpa using hc
    clear hc HG hgb HD0
    by_cases hn : n < 0
    · have e1 : decide (n < 0) = true := decide_eq_true hn
      clear hc2
      go_enter Tryd.func61, Tryd.ntmps61
      go_wp2
      go_ret
      exact ⟨rfl, HM0.out⟩
    · have e1 : decide (n < 0) = false := decide_eq_false hn
      have hn2 : (x.b.length : Int) < n := hc2.resolve_left hn
      have e2 : decide ((x.b.length : Int) < n) = true := decide_eq_true hn2
      clear hc2
      go_enter Tryd.func61, Tryd.ntmps61
      go_wp2
      go_ret
      exact ⟨rfl, HM0.out⟩
  · rw [if_neg hc, oper_gate]
    unfold gateV at HG
    cases hon : x.on with
    | true =>
      obtain ⟨g1, g2, g3⟩ := hgb hon
      have hd : x.d = false := by
        cases hd : x.d with
        | true => unfold St.on at hon; rw [hd] at hon; cases hon
        | false => rfl
      rw [hd] at hc c4
      have hnn0 : 0 ≤ n ∧ n ≤ (x.b.length : Int) := by
        simp at hc
        omega
      obtain ⟨m, rfl⟩ : ∃ m : Nat, n = (m : Int) := ⟨n.toNat, by omega⟩
      have hmb : m ≤ x.b.length := by omega
      have e1 : decide ((m : Int) < 0) = false := decide_eq_false (by omega)
      have e2 : decide ((x.b.length : Int) < (m : Int)) = false := decide_eq_false (by omega)
      have e3 : ¬ (m : Int) < 0 := by omega
      have e4 : ¬ (x.b.length : Int) < (m : Int) := by omega
      rw [hon] at HG
      rw [if_pos rfl] at HG ⊢
      rw [Int.toNat_natCast]
      have HCT : Hid ((x.gate id).cut m = ⟨(x.gate id).b.take m, min (x.gate id).s m, (x.gate id).r, (x.gate id).a, (x.gate id).d⟩) := rfl
      rw [← g1] at hmb
      rw [← g2, ← g1] at hsy
      clear hgb hc hd hon g1 g2 g3 hnn0
      generalize x.gate id = y at *
      go_enter Tryd.func61, Tryd.ntmps61
      go_wp2_with fail
      refine HG.out.mono ?_
      rintro r' w1 ⟨rfl, F1, ⟨gb, ga, vb, va, rfl, D1⟩, f1, s1⟩
      have HO := hide (cut_any w1 p gb ga vb va y D1 m hmb)
      have HD := hide D1
      have HF1 := hide f1
      have HS := hide s1
      have hnn := neq_nil w1
      clear D1 f1 s1 HG
      go_wp2_with fail
      refine HO.out.mono ?_
      rintro r' w2 ⟨rfl, gb', vb', hg', rfl, hl'⟩
      have hl3 : Ln w1 5 1 gb' vb' (y.b.take m).length ((y.b.take m).map B) := by rw [List.length_take, Nat.min_eq_left hmb]; exact hl'
      have D2 := HD.out.at0 (y.b.take m) hl3
      have d1 : (w1.setCell ⟨p, 0, none⟩ vb').cell? ⟨p, 1, none⟩ = some (.int .i64 (y.s : Int)) := cell_of D2.cell 1
      have z1 : (w1.setCell ⟨p, 0, none⟩ vb').frozen? ⟨p, 1, none⟩ = false := free_of D2.cell 1
      have HD3 := hide (D2.at1 (min y.s m))
      have HF2 := hide (HF1.out.trans (((Fr.refl (fp p gb ga) w1).set ⟨p, 0, none⟩ vb' (Or.inl (fp_p _ _ _))).set ⟨p, 1, none⟩ (.int .i64 ((min y.s m : Nat) : Int)) (Or.inl (fp_p _ _ _))) HS.out)
      have HSS : Hid (∀ k ∈ fp p gb' ga, k ∈ fp p gb0 ga0 ∨ w.heap.size ≤ k) := fun k hk => by
        rcases fp_cases hk with rfl | h1 | h1
        · exact HS.out _ (fp_p _ _ _)
        · rcases hg' with h2 | h2
          · rw [h2] at h1; cases h1
          · exact HS.out _ (fp_b (h2 ▸ h1))
        · exact HS.out _ (fp_a h1)
      clear D2 hl3 hl' hg' HO HD HF1 HS c0 c4 cE
      by_cases hsm : y.s ≤ m
      · rw [Nat.min_eq_left hsm] at HD3 HF2 HCT
        have hsi : (y.s : Int) ≤ (m : Int) := by omega
        generalize w1.setCell ⟨p, 0, none⟩ vb' = W at *
        go_wp2
        go_ret
        refine ⟨rfl, ?_⟩
        show Mv _ _ _ (y.cut m) _
        rw [HCT.out]
        exact ⟨fp p gb' ga, HD3.out.dk, HF2.out, HSS.out⟩
      · rw [Nat.min_eq_right (by omega)] at HD3 HF2 HCT
        have hsi : ¬ (y.s : Int) ≤ (m : Int) := by omega
        generalize w1.setCell ⟨p, 0, none⟩ vb' = W at *
        go_wp2
        go_ret
        refine ⟨rfl, ?_⟩
        show Mv _ _ _ (y.cut m) _
        rw [HCT.out]
        exact ⟨fp p gb' ga, HD3.out.dk, HF2.out, HSS.out⟩
    | false =>
      rw [hon] at HG
      rw [if_neg (by decide)] at HG ⊢
      clear hgb hon HM0 HD0
      generalize x.gate id = y at *
      cases hd : x.d with
      | true =>
        rw [hd] at c4
        clear hc
        go_enter Tryd.func61, Tryd.ntmps61
        go_wp2_with fail
        refine HG.out.mono ?_
        rintro r' w1 ⟨rfl, m1⟩
        have HM := hide m1
        have hnn := neq_err e 9 w1
        clear m1 HG
        go_wp2
        go_ret
        exact ⟨rfl, HM.out⟩
      | false =>
        rw [hd] at hc c4
        have hnn0 : 0 ≤ n ∧ n ≤ (x.b.length : Int) := by
          simp at hc
          omega
        have e1 : decide (n < 0) = false := decide_eq_false (by omega)
        have e2 : decide ((x.b.length : Int) < n) = false := decide_eq_false (by omega)
        have e3 : ¬ n < 0 := by omega
        have e4 : ¬ (x.b.length : Int) < n := by omega
        clear hc hnn0
        go_enter Tryd.func61, Tryd.ntmps61
        go_wp2_with fail
        refine HG.out.mono ?_
        rintro r' w1 ⟨rfl, m1⟩
        have HM := hide m1
        have hnn := neq_err e 9 w1
        clear m1 HG
        go_wp2
        go_ret
        exact ⟨rfl, HM.out⟩
end Go.Proofs.YtgmgffcfmopgmaaDoor.dk
