import Derived.Test.YtkamnkldgeaaaaaDoorDkPut
import Derived.Shelf.Abstract
namespace Go.Proofs.YtkamnkldgeaaaaaDoor.dk
open Go.ChangeShapes Go.WideShapes Go.ChangeAt Go.RowKit Go.Proofs.YtkamnkldgeaaaaaDoor.common

/-- does the operation go on? -/
def St.on (x : St) : Bool := !x.d && (match x.a with | (0, _) :: _ => false | _ => true)
/-- the disk behind the gate -/
def St.gate (x : St) (dying : St → St) : St := if x.d then x else match x.a with
  | [] => x
  | (0, k) :: r => (dying ⟨x.b, x.s, x.r, r, false⟩).fail k
  | (n + 1, k) :: r => ⟨x.b, x.s, x.r, (n, k) :: r, false⟩
theorem oper_gate (x : St) (dying on : St → St) (err : Nat) : x.oper dying on err = if x.on then (on (x.gate dying), err) else (x.gate dying, 10) := by
  unfold St.oper St.on St.gate
  cases hd : x.d with
  | true => rfl
  | false =>
    rcases ha : x.a with _ | ⟨⟨n, k⟩, r⟩
    · rfl
    · cases n <;> rfl
/-- what the gate answers -/
def gateV (e : Nat → Addr) (x : St) : Value := if x.on then .nilIface else errw.E e 9
theorem Lk.dk {w : World} {p : Nat} {gb ga : Option Nat} {vb va : Value} {x : St} (h : Lk w p gb ga vb va x) : Dk w p (fp p gb ga) x := ⟨gb, ga, vb, va, rfl, h⟩
theorem fp_sub {p : Nat} {gb ga ga' : Option Nat} (h : ga' = ga ∨ ga' = none) : ∀ k ∈ fp p gb ga', k ∈ fp p gb ga := fun k hk => by
  rcases fp_cases hk with rfl | h1 | h1
  · exact fp_p _ _ _
  · exact fp_b h1
  · rcases h with h | h
    · exact fp_a (h ▸ h1)
    · rw [h] at h1; cases h1
/-- the first number of a line's first element is set -/
theorem Ln.first {w : World} {e : TypeId} {g o n cap : Nat} {a b u : Value} {xs : List Value} {gb : Option Nat} (h : Ln w e 2 gb (.slice (some ⟨g, o, none⟩) (n + 1) cap) (n + 1) ([a, b] ++ xs)) (hg : gb = some g) : Ln (w.setCell ⟨g, o, none⟩ u) e 2 gb (.slice (some ⟨g, o, none⟩) (n + 1) cap) (n + 1) ([u, b] ++ xs) := by
  have hl := h.1
  refine ⟨by simpa using hl, ?_⟩
  rcases h.2 with ⟨_, h0, _⟩ | ⟨g', o', c, _, hv, ⟨cur, hc⟩, h2, h3, h4, h5, h6⟩
  · cases h0
  cases hv
  obtain ⟨cur', hc'⟩ := cells_set (⟨g, o, none⟩ : Addr) u hc
  refine Or.inr ⟨g, o, cap, hg, rfl, ⟨cur', hc'⟩, h2, h3, h4, there_set h5 _ _, ?_⟩
  have := range_set h6 0 (by simp) u
  simpa using this

set_option maxRecDepth 100000 in
set_option maxHeartbeats 1600000 in
theorem gate_dead (w : World) (K p : Nat) (F : List Nat) (x : St) (h : Dk w p F x) (fv : Value) (e : Nat → Addr) (he : Ed w K e) (hd : x.d = true) :
    Calls Tryd.prog 21 #[ptr p, fv] w fun r w' => r = .returned (errw.E e 9) ∧ w' = w := by
  obtain ⟨gb, ga, vb, va, rfl, h⟩ := h
  have c4 : w.cell? ⟨p, 4, none⟩ = some (.bool true) := by rw [← hd]; exact cell_of h.cell 4
  have cE := he.dead
  clear h he
  go_enter Tryd.func21, Tryd.ntmps21
  go_wp2
  go_ret
  exact ⟨rfl, rfl⟩
set_option maxRecDepth 100000 in
set_option maxHeartbeats 1600000 in
theorem gate_none (w : World) (p : Nat) (F : List Nat) (x : St) (h : Dk w p F x) (fv : Value) (hd : x.d = false) (ha : x.a = []) :
    Calls Tryd.prog 21 #[ptr p, fv] w fun r w' => r = .returned .nilIface ∧ w' = w := by
  obtain ⟨gb, ga, vb, va, rfl, h⟩ := h
  have c4 : w.cell? ⟨p, 4, none⟩ = some (.bool false) := by rw [← hd]; exact cell_of h.cell 4
  obtain ⟨ao, cap, rfl⟩ := h.arms.len
  have c3 : w.cell? ⟨p, 3, none⟩ = some (.slice ao 0 cap) := by have := cell_of h.cell 3; rw [ha] at this; exact this
  clear h ha
  go_enter Tryd.func21, Tryd.ntmps21
  go_wp2
  go_ret
  exact ⟨rfl, rfl⟩
set_option maxRecDepth 100000 in
set_option maxHeartbeats 1600000 in
theorem gate_less (w : World) (p : Nat) (F : List Nat) (x : St) (h : Dk w p F x) (fv : Value) (hd : x.d = false) (n : Nat) (k : Int) (r : List (Nat × Int)) (ha : x.a = (n + 1, k) :: r) (hn : n + 1 ≤ 9223372036854775807) :
    Calls Tryd.prog 21 #[ptr p, fv] w fun r' w' => r' = .returned .nilIface ∧ Mv w p F ⟨x.b, x.s, x.r, (n, k) :: r, false⟩ w' := by
  obtain ⟨gb, ga, vb, va, rfl, h⟩ := h
  have c4 : w.cell? ⟨p, 4, none⟩ = some (.bool false) := by rw [← hd]; exact cell_of h.cell 4
  have hla := h.arms
  rw [ha, acs_cons, List.length_cons] at hla
  obtain ⟨g, o, cap, hga, rfl, hcap, hrg, hlt, _⟩ := hla.tail rfl
  have c3 : w.cell? ⟨p, 3, none⟩ = some (.slice (some ⟨g, o, none⟩) (r.length + 1) (cap + 1)) := cell_of h.cell 3
  have g0 : w.cell? ⟨g, o, none⟩ = some (.int .i64 ((n + 1 : Nat) : Int)) := hrg 0 _ rfl
  have gf : w.frozen? ⟨g, o, none⟩ = false := by
    obtain ⟨_, cur, hc⟩ := hla.lt g hga
    exact free_of hc o
  have hln : Ln (w.setCell ⟨g, o, none⟩ (.int .i64 (n : Int))) 74 2 ga (.slice (some ⟨g, o, none⟩) (r.length + 1) (cap + 1)) ((n, k) :: r).length (acs ((n, k) :: r)) := hla.first hga
  have hne := h.ne
  have HK : Hid (Lk (w.setCell ⟨g, o, none⟩ (.int .i64 (n : Int))) p gb ga vb (.slice (some ⟨g, o, none⟩) (r.length + 1) (cap + 1)) ⟨x.b, x.s, x.r, (n, k) :: r, false⟩) :=
    ⟨(set_other _ _ _ _ (Ne.symm (hne.2.1 g hga))).trans (by rw [← hd]; exact h.cell), h.bytes.keep fun j hj => set_other _ _ _ _ (fun e => hne.2.2 j hj (by rw [show j = g from e]; exact hga)), hln⟩
  have HF := hide ((Fr.refl (fp p gb ga) w).set ⟨g, o, none⟩ (.int .i64 (n : Int)) (Or.inl (fp_a hga)))
  clear h hla hrg hln hne ha
  have e1 : (0 : Int) < ((n + 1 : Nat) : Int) := by omega
  have e2 : ((n + 1 : Nat) : Int) - 1 = (n : Int) := by omega
  generalize ((n + 1 : Nat) : Int) = N at *
  go_enter Tryd.func21, Tryd.ntmps21
  go_wp2
  go_ret
  exact ⟨rfl, fp p gb ga, HK.out.dk, HF.out, fun j hj => Or.inl hj⟩

set_option maxRecDepth 100000 in
set_option maxHeartbeats 1600000 in
theorem gate_dies (w : World) (K p : Nat) (F : List Nat) (x : St) (h : Dk w p F x) (e : Nat → Addr) (he : Ed w K e) (hF : ∀ k ∈ F, K ≤ k) (hd : x.d = false) (k : Int) (r : List (Nat × Int)) (ha : x.a = (0, k) :: r)
    (Fd : Nat) (caps : Array Value) (y : St) (hys : y.s ≤ y.b.length) (hym : y.b.length ≤ 281474976710656) (eg : ∀ args w, (callFunc Fd args).run Tryd.prog w = .ok (.enter Fd args) w)
    (hk : ∀ W F', Dk W p F' ⟨x.b, x.s, x.r, r, false⟩ → Fr F w W → (∀ k ∈ F', k ∈ F) → Calls Tryd.prog Fd caps W fun r' w' => r' = .returned (.tuple #[]) ∧ Mv W p F' y w') :
    Calls Tryd.prog 21 #[ptr p, .func (.func Fd) #[] caps] w fun r' w' => r' = .returned (errw.E e 9) ∧ Mv w p F (y.fail k) w' := by
  obtain ⟨gb, ga, vb, va, rfl, h⟩ := h
  have c4 : w.cell? ⟨p, 4, none⟩ = some (.bool false) := by rw [← hd]; exact cell_of h.cell 4
  have hla := h.arms
  rw [ha, acs_cons, List.length_cons] at hla
  obtain ⟨g, o, cap, hga, rfl, hcap, hrg, hlt, ga', hga', hl'⟩ := hla.tail rfl
  have c3 : w.cell? ⟨p, 3, none⟩ = some (.slice (some ⟨g, o, none⟩) (r.length + 1) (cap + 1)) := cell_of h.cell 3
  have f3 : w.frozen? ⟨p, 3, none⟩ = false := free_of h.cell 3
  have g0 : w.cell? ⟨g, o, none⟩ = some (.int .i64 0) := hrg 0 _ rfl
  have g1 : w.cell? ⟨g, o + 1, none⟩ = some (.int .i64 k) := hrg 1 _ rfl
  have hk1 := h.at3 r hl'
  have HSB : Hid (∀ k ∈ fp p gb ga', k ∈ fp p gb ga) := fp_sub hga'
  have HK1 : Hid (Dk (w.setCell ⟨p, 3, none⟩ (.slice (some (if cap = 0 then ⟨g, o, none⟩ else ⟨g, o + 2, none⟩)) r.length cap)) p (fp p gb ga') ⟨x.b, x.s, x.r, r, false⟩) := by
    have := hk1.dk
    rw [hd] at this
    exact this
  have HF1 := hide ((Fr.refl (fp p gb ga) w).set ⟨p, 3, none⟩ (.slice (some (if cap = 0 then ⟨g, o, none⟩ else ⟨g, o + 2, none⟩)) r.length cap) (Or.inl (fp_p _ _ _)))
  have HKK := hide hk
  have HER := hide he
  have HFF := hide hF
  have HFAIL : Hid (∀ W F', Dk W p F' y → Calls Tryd.prog 44 #[ptr p, .int .i64 k] W fun r' w' => r' = .returned (.tuple #[]) ∧ Mv W p F' (y.fail k) w') := fun W F' hW => by
    obtain ⟨gb2, ga2, vb2, va2, rfl, hW⟩ := hW
    refine (fail_any W p gb2 ga2 vb2 va2 y k hW hys hym).mono ?_
    rintro r' w' ⟨rfl, gb', vb', hg', hl2, hf2, _⟩
    refine ⟨rfl, fp p gb' ga2, hl2.dk, hf2.mono (fun j hj => by rw [List.mem_singleton.1 hj]; exact fp_p _ _ _), fun j hj => Or.inl ?_⟩
    rcases fp_cases hj with rfl | h1 | h1
    · exact fp_p _ _ _
    · rcases hg' with h2 | h2
      · rw [h2] at h1; cases h1
      · exact fp_b (h2 ▸ h1)
    · exact fp_a h1
  clear h hla hrg hl' ha hk1 hk he hF
  by_cases hc0 : cap = 0
  · subst hc0
    obtain rfl : r = [] := List.eq_nil_of_length_eq_zero (by omega)
    rw [if_pos rfl] at HK1 HF1
    go_enter Tryd.func21, Tryd.ntmps21
    go_wp2_with fail
    refine (HKK.out _ _ HK1.out HF1.out HSB.out).mono ?_
    rintro x' w2 ⟨rfl, F2, D2, fr2, s2⟩
    have HD2 := hide D2
    have HFR2 := hide (HF1.out.trans fr2 (fun k hk => Or.inl (HSB.out k hk)))
    have HS2 : Hid (∀ k ∈ F2, k ∈ fp p gb ga ∨ w.heap.size ≤ k) := fun k hk => (s2 k hk).elim (fun h => Or.inl (HSB.out k h)) (fun h => Or.inr (by rw [size_set] at h; exact h))
    clear D2 fr2 s2
    go_wp2_with fail
    refine (HFAIL.out _ _ HD2.out).mono ?_
    rintro x' w3 ⟨rfl, m3⟩
    have m4 := Mv.trans HFR2.out HS2.out m3
    obtain ⟨F4, D4, fr4, s4⟩ := m4
    have cE := (HER.out.fr fr4 HFF.out).dead
    have HM : Hid (Mv w p (fp p gb ga) (y.fail k) w3) := ⟨F4, D4, fr4, s4⟩
    clear m3 D4 fr4 s4
    go_wp2
    go_ret
    exact ⟨rfl, HM.out⟩
  · rw [if_neg hc0] at HK1 HF1
    go_enter Tryd.func21, Tryd.ntmps21
    go_wp2_with fail
    refine (HKK.out _ _ HK1.out HF1.out HSB.out).mono ?_
    rintro x' w2 ⟨rfl, F2, D2, fr2, s2⟩
    have HD2 := hide D2
    have HFR2 := hide (HF1.out.trans fr2 (fun k hk => Or.inl (HSB.out k hk)))
    have HS2 : Hid (∀ k ∈ F2, k ∈ fp p gb ga ∨ w.heap.size ≤ k) := fun k hk => (s2 k hk).elim (fun h => Or.inl (HSB.out k h)) (fun h => Or.inr (by rw [size_set] at h; exact h))
    clear D2 fr2 s2
    go_wp2_with fail
    refine (HFAIL.out _ _ HD2.out).mono ?_
    rintro x' w3 ⟨rfl, m3⟩
    have m4 := Mv.trans HFR2.out HS2.out m3
    obtain ⟨F4, D4, fr4, s4⟩ := m4
    have cE := (HER.out.fr fr4 HFF.out).dead
    have HM : Hid (Mv w p (fp p gb ga) (y.fail k) w3) := ⟨F4, D4, fr4, s4⟩
    clear m3 D4 fr4 s4
    go_wp2
    go_ret
    exact ⟨rfl, HM.out⟩
end Go.Proofs.YtkamnkldgeaaaaaDoor.dk
