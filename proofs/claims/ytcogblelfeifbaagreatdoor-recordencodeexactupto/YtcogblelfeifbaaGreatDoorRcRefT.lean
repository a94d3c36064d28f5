import Derived.Test.YtcogblelfeifbaaGreatDoorRcRefN
import Derived.Test.YtcogblelfeifbaaGreatDoorAppRd
import Derived.Test.YtcogblelfeifbaaGreatDoorRcRefC
import Derived.Deep.DeepCutAuto
namespace Go.Proofs.YtcogblelfeifbaaGreatDoor.rc
open Go.ChangeShapes Go.WideShapes Go.ChangeAt Go.RowKit Go.Proofs.YtcogblelfeifbaaGreatDoor.common Go.Proofs.YtcogblelfeifbaaGreatDoor.dk

theorem wpList_appendX {P : Program} {w : World} {ops : Array Oper} {rest : List Oper} {o : Oper} {a : Act} {Q : Exit → Act → World → Prop} (hgd : o.guard = none) (s x : Operand) (t tx : TypeId)
    (ho : o.op = .call { callee := .builtin .append, args := #[s, x], argTypes := #[t, tx] }) (vs vx : Value) (hs : a.eval s = vs) (hx : a.eval x = vx) (v' : Value) (w' : World)
    (hr : (Builtin.append_ #[t, tx] o.type #[vs, vx]).run P w = .ok v' w') (h : wpList P ops Q rest (a.put o.dst v') w') : wpList P ops Q (o :: rest) a w := by
  refine wpList_plain hgd fun K hK => ?_
  unfold Oper.wp execOp
  simp only [ho, resolve, invoke, builtin, Sem.run_bind, Sem.run_pure, Result.andThen_ok, List.map_toArray, List.map_cons, List.map_nil, hs, hx, hr]
  exact hK _ _ h
theorem gr_of {u v' : Value} {w w1 : World} (hf : Fr u.ownBlock.toList w w1) (hat : v'.ownBlock = u.ownBlock ∨ ∃ g, v'.ownBlock = some g ∧ w.heap.size ≤ g) : Gr u v' w w1 :=
  ⟨hf, fun k hk => by
    rcases hat with h | ⟨g, h, hg⟩
    · exact Or.inl (by rw [← h]; exact hk)
    · rw [h] at hk
      cases hk
      exact Or.inr hg⟩

set_option maxRecDepth 100000 in
set_option maxHeartbeats 3200000 in
theorem refText_any (s : ByteArray) (w : World) (hs : s.size ≤ 281474976) :
    Calls Tryz.prog 65 #[.string s] w fun e w' => ∃ v', e = .returned v' ∧ w'.ownsRow w.heap.size 5 1 v' (txL s).length ((txL s).map B) ∧ Below w.heap.size w w' := by
  have hnl : (numL s.size).length ≤ 10 := (numF_len 9 s.size).2
  have HN := hide (refNumber_any s.size w (by omega))
  go_enter Tryz.func65, Tryz.ntmps65
  go_wp2_with fail
  refine HN.out.mono ?_
  rintro x w1 ⟨v1, rfl, hown, b1⟩
  obtain ⟨v2, W2, hrun, hown2, hfr2, hat2⟩ := append_text w1 w.heap.size v1 _ hown s (by omega) b1.size
  have hgr := gr_of hfr2 hat2
  have hb2 : Below w.heap.size w W2 := b1.trans (hgr.below (fun k hk => own_ge hown k hk) b1.size)
  have HO := hide hown2
  have HB := hide hb2
  clear hown b1 hown2 hfr2 hat2 hgr hb2
  go_wp2_with (at_builtin; refine wpList_appendX rfl _ _ 35 9 rfl _ _ rfl rfl _ _ hrun ?_)
  go_ret
  exact ⟨_, rfl, HO.out, HB.out⟩
end Go.Proofs.YtcogblelfeifbaaGreatDoor.rc
