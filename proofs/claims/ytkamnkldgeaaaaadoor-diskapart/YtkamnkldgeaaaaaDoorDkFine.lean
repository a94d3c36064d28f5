import Derived.Test.YtkamnkldgeaaaaaDoorDkOps
namespace Go.Proofs.YtkamnkldgeaaaaaDoor.dk
open Go.ChangeShapes Go.WideShapes Go.ChangeAt Go.RowKit Go.Proofs.YtkamnkldgeaaaaaDoor.common

theorem oper_mem {x : St} {dying on : St → St} {err : Nat} (h1 : ∀ y, (dying y).a = y.a) (h2 : ∀ y, (on y).a = y.a) {P : Nat × Int → Prop} (hx : ∀ a ∈ x.a, P a) (hd : ∀ n k, P (n + 1, k) → P (n, k)) : ∀ a ∈ (x.oper dying on err).1.a, P a := by
  unfold St.oper
  split
  · exact hx
  · split
    · rw [h2]; exact hx
    · rename_i k r e
      show ∀ a ∈ (dying _).a, P a
      rw [h1]
      exact fun a ha => hx a (by rw [e]; exact List.mem_cons_of_mem _ ha)
    · rename_i n k r e
      rw [h2]
      intro a ha
      rcases List.mem_cons.1 ha with rfl | ha
      · exact hd n k (hx _ (by rw [e]; exact List.mem_cons_self ..))
      · exact hx a (by rw [e]; exact List.mem_cons_of_mem _ ha)
theorem step_mem {x : St} {s : Sp} {P : Nat × Int → Prop} (hx : ∀ a ∈ x.a, P a) (hd : ∀ n k, P (n + 1, k) → P (n, k)) (hs : P (s.n.toNat, s.m)) : ∀ a ∈ (x.step s).1.a, P a := by
  unfold St.step
  repeat' split
  · exact oper_mem (fun y => put_arms y _) (fun y => put_arms y _) hx hd
  · exact oper_mem (dying := id) (on := St.sync) (err := 0) (fun y => rfl) (fun y => rfl) hx hd
  · exact oper_mem (dying := id) (on := id) (err := 0) (fun y => rfl) (fun y => rfl) hx hd
  · show ∀ a ∈ (x.trunc s.n).1.a, P a
    unfold St.trunc
    split
    · exact hx
    · exact oper_mem (dying := id) (on := fun y => y.cut s.n.toNat) (err := 0) (fun y => rfl) (fun y => rfl) hx hd
  · intro a ha
    rcases List.mem_append.1 ha with ha | ha
    · exact hx a ha
    · rw [List.mem_singleton.1 ha]; exact hs
  · show ∀ a ∈ (x.crash s.n).a, P a
    unfold St.crash
    split <;> exact hx
  · exact hx
  · exact hx
  · exact hx
  · exact hx
theorem Fine.step {x : St} (h : Fine x) (s : Sp) (h1 : s.n ≤ 9223372036854775807) (h2 : -9223372036854775808 ≤ s.m) (h3 : s.m ≤ 9223372036854775807) : Fine (x.step s).1 :=
  ⟨h.ok.step (by decide) s, step_mem h.arms (fun n k hn => by dsimp only at hn ⊢; omega) (by show s.n.toNat ≤ _; omega), step_mem h.keep (fun n k hn => hn) ⟨h2, h3⟩⟩
end Go.Proofs.YtkamnkldgeaaaaaDoor.dk
