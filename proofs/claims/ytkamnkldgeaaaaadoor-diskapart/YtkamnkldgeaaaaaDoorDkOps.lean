import Derived.Test.YtkamnkldgeaaaaaDoorDkGate
namespace Go.Proofs.YtkamnkldgeaaaaaDoor.dk
open Go.ChangeShapes Go.WideShapes Go.ChangeAt Go.RowKit Go.Proofs.YtkamnkldgeaaaaaDoor.common

theorem Dk.mv {w : World} {p : Nat} {F : List Nat} {x : St} (h : Dk w p F x) : Mv w p F x w := ⟨F, h, Fr.refl _ _, fun _ hk => Or.inl hk⟩
theorem gate_any (w : World) (K p : Nat) (F : List Nat) (x : St) (h : Dk w p F x) (e : Nat → Addr) (he : Ed w K e) (hF : ∀ k ∈ F, K ≤ k) (ha : ∀ a ∈ x.a, a.1 ≤ 9223372036854775807)
    (Fd : Nat) (caps : Array Value) (dying : St → St) (hy : ∀ r, (dying ⟨x.b, x.s, x.r, r, false⟩).s ≤ (dying ⟨x.b, x.s, x.r, r, false⟩).b.length ∧ (dying ⟨x.b, x.s, x.r, r, false⟩).b.length ≤ 281474976710656) (eg : ∀ args w, (callFunc Fd args).run Tryd.prog w = .ok (.enter Fd args) w)
    (hk : ∀ W F' r, Dk W p F' ⟨x.b, x.s, x.r, r, false⟩ → Fr F w W → (∀ k ∈ F', k ∈ F) → Calls Tryd.prog Fd caps W fun r' w' => r' = .returned (.tuple #[]) ∧ Mv W p F' (dying ⟨x.b, x.s, x.r, r, false⟩) w') :
    Calls Tryd.prog 21 #[ptr p, .func (.func Fd) #[] caps] w fun r' w' => r' = .returned (gateV e x) ∧ Mv w p F (x.gate dying) w' := by
  cases hd : x.d with
  | true =>
    refine (gate_dead w K p F x h _ e he hd).mono ?_
    rintro r' w' ⟨rfl, rfl⟩
    unfold gateV St.on St.gate
    rw [hd]
    exact ⟨rfl, h.mv⟩
  | false =>
    have e1 : ∀ a, x.a = a → x.gate dying = (match a with | [] => x | (0, k) :: r => (dying ⟨x.b, x.s, x.r, r, false⟩).fail k | (n + 1, k) :: r => ⟨x.b, x.s, x.r, (n, k) :: r, false⟩) := fun a ha => by
      unfold St.gate; rw [hd, ha]; rfl
    have e2 : ∀ a, x.a = a → gateV e x = if (match a with | (0, _) :: _ => false | _ => true) then .nilIface else errw.E e 9 := fun a ha => by
      unfold gateV St.on; rw [hd, ha]; rfl
    rcases hx : x.a with _ | ⟨⟨n, k⟩, r⟩
    · rw [e1 _ hx, e2 _ hx]
      refine (gate_none w p F x h _ hd hx).mono ?_
      rintro r' w' ⟨rfl, rfl⟩
      exact ⟨rfl, h.mv⟩
    · cases n with
      | zero =>
        rw [e1 _ hx, e2 _ hx]
        exact gate_dies w K p F x h e he hF hd k r hx Fd caps _ (hy r).1 (hy r).2 eg fun W F' => hk W F' r
      | succ n =>
        rw [e1 _ hx, e2 _ hx]
        exact gate_less w p F x h _ hd n k r hx (ha (n + 1, k) (by rw [hx]; exact List.mem_cons_self ..))
theorem enters_nothing : ∀ args w, (callFunc 46 args).run Tryd.prog w = .ok (.enter 46 args) w := enters_of Tryd.func46 (by kernel_rfl) rfl
theorem enters_put : ∀ args w, (callFunc 22 args).run Tryd.prog w = .ok (.enter 22 args) w := enters_of Tryd.func22 (by kernel_rfl) rfl
theorem nothing_any (w : World) : Calls Tryd.prog 46 #[] w fun r' w' => r' = .returned (.tuple #[]) ∧ w' = w := by
  go_enter Tryd.func46, Tryd.ntmps46
  go_wp2
  go_end0
  exact ⟨rfl, rfl⟩
/-- what holds of a disk all along -/
structure Fine (x : St) : Prop where
  ok : x.Ok 140737488355328
  arms : ∀ a ∈ x.a, a.1 ≤ 9223372036854775807
  keep : ∀ a ∈ x.a, -9223372036854775808 ≤ a.2 ∧ a.2 ≤ 9223372036854775807
theorem gate_nothing (w : World) (K p : Nat) (F : List Nat) (x : St) (h : Dk w p F x) (e : Nat → Addr) (he : Ed w K e) (hF : ∀ k ∈ F, K ≤ k) (hx : Fine x) :
    Calls Tryd.prog 21 #[ptr p, .func (.func 46) #[] #[]] w fun r' w' => r' = .returned (gateV e x) ∧ Mv w p F (x.gate id) w' :=
  gate_any w K p F x h e he hF hx.arms 46 #[] id (fun _ => ⟨hx.ok.syn, by have := hx.ok.most; show x.b.length ≤ _; omega⟩) enters_nothing fun W F' r hD _ _ => by
    refine (nothing_any W).mono ?_
    rintro r' w' ⟨rfl, rfl⟩
    exact ⟨rfl, hD.mv⟩
theorem neq_err (e : Nat → Addr) (i : Nat) (w : World) : (binOp .neq 40 (errw.E e i) .nilIface).run Tryd.prog w = .ok (.bool true) w := by kernel_rfl
theorem neq_nil (w : World) : (binOp .neq 40 .nilIface .nilIface).run Tryd.prog w = .ok (.bool false) w := by kernel_rfl
/-- what an operation answers -/
def errV (e : Nat → Addr) (n : Nat) : Value := if n = 0 then .nilIface else errw.E e (n - 1)

set_option maxRecDepth 100000 in
set_option maxHeartbeats 1600000 in
theorem sync_any (w : World) (K p : Nat) (F : List Nat) (x : St) (h : Dk w p F x) (e : Nat → Addr) (he : Ed w K e) (hF : ∀ k ∈ F, K ≤ k) (hx : Fine x) :
    Calls Tryd.prog 27 #[ptr p] w fun r' w' => r' = .returned (errV e x.syncs.2) ∧ Mv w p F x.syncs.1 w' := by
  have HG := hide (gate_nothing w K p F x h e he hF hx)
  unfold St.syncs
  rw [oper_gate]
  unfold gateV at HG
  clear h he hF hx
  generalize x.gate id = y at *
  cases hon : x.on with
  | true =>
    rw [hon] at HG
    rw [if_pos rfl] at HG ⊢
    go_enter Tryd.func27, Tryd.ntmps27
    go_wp2_with fail
    refine HG.out.mono ?_
    rintro r' w1 ⟨rfl, F1, ⟨gb, ga, vb, va, rfl, D1⟩, f1, s1⟩
    obtain ⟨ao, cap, rfl⟩ := D1.bytes.len
    have c0 : w1.cell? ⟨p, 0, none⟩ = some (.slice ao y.b.length cap) := cell_of D1.cell 0
    have c1 : w1.cell? ⟨p, 1, none⟩ = some (.int .i64 (y.s : Int)) := cell_of D1.cell 1
    have y1 : w1.frozen? ⟨p, 1, none⟩ = false := free_of D1.cell 1
    have HD := hide (D1.at1 y.b.length)
    have HF1 := hide (f1.trans ((Fr.refl (fp p gb ga) w1).set ⟨p, 1, none⟩ (.int .i64 (y.b.length : Int)) (Or.inl (fp_p _ _ _))) s1)
    have HS := hide s1
    have hnn := neq_nil w1
    clear D1 f1 s1 HG
    go_wp2
    go_ret
    exact ⟨rfl, fp p gb ga, HD.out.dk, HF1.out, HS.out⟩
  | false =>
    rw [hon] at HG
    rw [if_neg (by decide)] at HG ⊢
    go_enter Tryd.func27, Tryd.ntmps27
    go_wp2_with fail
    refine HG.out.mono ?_
    rintro r' w1 ⟨rfl, m1⟩
    have HM := hide m1
    have hnn := neq_err e 9 w1
    clear m1 HG
    go_wp2
    go_ret
    exact ⟨rfl, HM.out⟩
end Go.Proofs.YtkamnkldgeaaaaaDoor.dk
