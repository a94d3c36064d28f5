import Derived.Test.YtcogblelfeifbaaGreatDoorRcNum
import Derived.Test.YtcogblelfeifbaaGreatDoorAppText
import Derived.Deep.RegionLaw
import Derived.Deep.AppendLies
namespace Go.Proofs.YtcogblelfeifbaaGreatDoor.rc
open Go.ChangeShapes Go.WideShapes Go.ChangeAt Go.RowKit Go.Proofs.YtcogblelfeifbaaGreatDoor.common Go.Proofs.YtcogblelfeifbaaGreatDoor.dk

theorem step_callsX {P : Program} {ops : Array Oper} {o : Oper} {a : Act} {w : World} {K : Act → World → Prop} {Q : Exit → Act → World → Prop} {E : Prop} (hgd : o.guard = none) {f : FuncId} {args : Array Value} {post : Value → World → Prop}
    (hx : (execOp a.eval o).run P w = .ok (.enter f args) w) (hC : Calls P f args w fun e w' => ∃ v, e = .returned v ∧ post v w') (hK : ∀ v w', post v w' → K (a.put o.dst v) w') : if Region.wanted o (yielded ops a.tmps) = true then Oper.wp P o a w K Q else E := by
  have hw : Region.wanted o (yielded ops a.tmps) = true := by simp [Region.wanted, hgd]
  rw [if_pos hw]
  unfold Oper.wp
  rw [hx, Oper.upon_enter]
  refine hC.mono ?_
  rintro e w' ⟨v, rfl, h⟩
  exact hK v w' h
theorem step_appendX {P : Program} {ops : Array Oper} {o : Oper} {a : Act} {w : World} {K : Act → World → Prop} {Q : Exit → Act → World → Prop} {E : Prop} (hgd : o.guard = none) (s x : Operand) (t tx : TypeId)
    (ho : o.op = .call { callee := .builtin .append, args := #[s, x], argTypes := #[t, tx] }) (vs vx : Value) (hs : a.eval s = vs) (hx : a.eval x = vx) (v' : Value) (w' : World)
    (hr : (Builtin.append_ #[t, tx] o.type #[vs, vx]).run P w = .ok v' w') (h : K (a.put o.dst v') w') : if Region.wanted o (yielded ops a.tmps) = true then Oper.wp P o a w K Q else E := by
  have hw : Region.wanted o (yielded ops a.tmps) = true := by simp [Region.wanted, hgd]
  rw [if_pos hw]
  unfold Oper.wp execOp
  simp only [ho, resolve, invoke, builtin, Sem.run_bind, Sem.run_pure, Result.andThen_ok, List.map_toArray, List.map_cons, List.map_nil, hs, hx, hr]
  exact h

theorem gr_appendD {u v' : Value} {wr w1 : World} {tmp : Obj} (hg : (wr.alloc tmp).drew.grownBy w1 u.ownBlock) (hat : ∀ k, v'.ownBlock = some k → u.ownBlock = some k ∨ wr.heap.size ≤ k) : Gr u v' wr w1 := by
  have hz : (wr.alloc tmp).heap.size = wr.heap.size + 1 := by simp
  have hs : (wr.alloc tmp).heap.size ≤ w1.heap.size := hg.size
  refine ⟨⟨hg.os, hg.tape, hg.output, by omega, fun k hk hn => ?_⟩, hat⟩
  have h1 : w1.heap[k]? = (wr.alloc tmp).heap[k]? := hg.block k (by show k < (wr.alloc tmp).heap.size; omega) (fun e => hn (by simp [← e]))
  rw [h1, Below.heap_alloc wr tmp k hk]
/-- a writer at p that has written l -/
def Wr (p : Nat) (w : World) (l : List UInt8) : Prop := ∃ v, w.heap[p]? = some (.cells #[v] 62 (0, 0)) ∧ w.ownsRow (p + 1) 5 1 v l.length (l.map B)
theorem Wr.lt {p : Nat} {w : World} {l : List UInt8} (h : Wr p w l) : p < w.heap.size := by
  obtain ⟨v, h1, _⟩ := h
  exact (Array.getElem?_eq_some_iff.1 h1).1
/-- what the writer holds is written anew -/
theorem wr_set {p : Nat} {v v1 : Value} {w w1 : World} {l l1 : List UInt8} (hp : w.heap[p]? = some (.cells #[v] 62 (0, 0))) (hv : w.ownsRow (p + 1) 5 1 v l.length (l.map B)) (hg : Gr v v1 w w1) (h1 : w1.ownsRow (p + 1) 5 1 v1 l1.length (l1.map B)) :
    w1.cell? ⟨p, 0, none⟩ = some v ∧ w1.frozen? ⟨p, 0, none⟩ = false ∧ Wr p (w1.setCell ⟨p, 0, none⟩ v1) l1 ∧ Below p w (w1.setCell ⟨p, 0, none⟩ v1) := by
  have hlt := (Array.getElem?_eq_some_iff.1 hp).1
  have hp1 : w1.heap[p]? = some (.cells #[v] 62 (0, 0)) := (hg.fr.block p hlt (fun hm => by
    have := own_ge hv p (by simpa using hm)
    omega)).trans hp
  refine ⟨cell_of hp1 0, free_of hp1 0, ⟨v1, ?_, ?_⟩, ?_⟩
  · simp [World.setCell, Array.getElem?_modify, hp1]
  · refine ⟨h1.1, ?_⟩
    rcases h1.2 with hh | ⟨g, cap, cur, rfl, hgb, hh, hn⟩
    · exact Or.inl hh
    · exact Or.inr ⟨g, cap, cur, rfl, hgb, (set_other _ _ _ _ (show g ≠ p by omega)).trans hh, hn⟩
  · exact (hg.below (fun k hk => by have := own_ge hv k hk; omega) (Nat.le_of_lt hlt)).setCell (p := ⟨p, 0, none⟩) (Nat.le_refl _) _
theorem wr_at {p b j : Nat} {v v1 u : Value} {w w1 : World} {l : List UInt8} (hv : w.ownsRow (p + 1) 5 1 v l.length (l.map B)) (hg : Gr v v1 w w1) (hc : w.cell? ⟨b, j, none⟩ = some u) (hb : b < p ∨ ∃ cs t, w.heap[b]? = some (.cells cs t (0, 0)) ∧ t ≠ 5) : w1.cell? ⟨b, j, none⟩ = some u := by
  refine (World.cell?_of_block (hg.fr.block b (World.block_lt_of_cell? w _ hc) (fun hm => ?_))).trans hc
  have hm' : v.ownBlock = some b := by simpa using hm
  rcases hb with h | ⟨cs, t, h, ht⟩
  · have := own_ge hv b hm'; omega
  · rcases hv.2 with ⟨rfl, _⟩ | ⟨g, cap, cur, rfl, _, hh, _⟩
    · cases hm'
    · cases hm'
      rw [h] at hh
      cases hh
      exact ht rfl

set_option maxRecDepth 100000 in
set_option maxHeartbeats 3200000 in
theorem wnumber_any (p b j n : Nat) (l : List UInt8) (w : World) (h : Wr p w l) (hc : w.cell? ⟨b, j, none⟩ = some (.int .i64 (n : Int))) (hn : n ≤ 9223372036854775807) (hl : l.length ≤ 140737488355000) :
    Calls Tryz.prog 228 #[.pointer (some ⟨p, 0, none⟩), .pointer (some ⟨b, j, none⟩)] w fun e w' => e = .returned (.tuple #[]) ∧ Wr p w' (l ++ numL n) ∧ Below p w w' := by
  obtain ⟨v, hp, hv⟩ := h
  have hlt := (Array.getElem?_eq_some_iff.1 hp).1
  have cp := cell_of hp 0
  have HP := hide hp
  have HV := hide hv
  obtain ⟨ov, cv, rfl⟩ : ∃ ov cv, v = .slice ov l.length cv := by
    rcases hv.2 with ⟨h1, h0⟩ | ⟨g, cap, cur, h1, _⟩
    · exact ⟨none, 0, by rw [h1, h0]⟩
    · exact ⟨_, cap, h1⟩
  have HC := hide (appendNumber_any (.slice ov l.length cv) l n (p + 1) w.drew hv hlt hn hl)
  clear hp hv
  go_enter Tryz.func228, Tryz.ntmps228
  go_wp2_with fail
  go_region_law (refine step_callsX (by rfl) (by simp [go_sem]) HC.out ?_; rintro v1 w2 ⟨hown, hgr⟩; obtain ⟨q1, q2, hW, hB⟩ := wr_set (w := w.drew) HP.out HV.out hgr hown; obtain ⟨o1, c1, rfl⟩ : ∃ o1 c1, v1 = .slice o1 (l ++ numL n).length c1 := (by rcases hown.2 with ⟨h1, h0⟩ | ⟨g, cap, cur, h1, _⟩; exact ⟨none, 0, by rw [h1, h0]⟩; exact ⟨_, cap, h1⟩); have HWW := hide hW; have HBB := hide hB; clear hown hgr hW hB)
  all_goals
    rw [List.length_append] at HWW HBB
    go_wp2
    first | go_end0 | refine bodyPost_end (results_none rfl _ _ _) rfl ?_
    exact ⟨rfl, HWW.out, (Below.refl p w).drew.trans HBB.out⟩

set_option maxRecDepth 100000 in
set_option maxHeartbeats 3200000 in
theorem wkind_any (p b j k : Nat) (l : List UInt8) (w : World) (h : Wr p w l) (hc : w.cell? ⟨b, j, none⟩ = some (.int .i64 (k : Int))) (hk : k < 256) (hl : l.length ≤ 140737488355000) :
    Calls Tryz.prog 226 #[.pointer (some ⟨p, 0, none⟩), .pointer (some ⟨b, j, none⟩)] w fun e w' => e = .returned (.tuple #[]) ∧ Wr p w' (l ++ [UInt8.ofNat k]) ∧ Below p w w' := by
  obtain ⟨i0, hi, hz0, hz1, hz2⟩ := info_parts info8
  obtain ⟨v, hp, hv⟩ := h
  have hlt := (Array.getElem?_eq_some_iff.1 hp).1
  have cp := cell_of hp 0
  have HP := hide hp
  have HV := hide hv
  obtain ⟨ov, cv, rfl⟩ : ∃ ov cv, v = .slice ov l.length cv := by
    rcases hv.2 with ⟨h1, h0⟩ | ⟨g, cap, cur, h1, _⟩
    · exact ⟨none, 0, by rw [h1, h0]⟩
    · exact ⟨_, cap, h1⟩
  have hkk : ((k : Int)) % 256 = (k : Int) := by omega
  have hB : Value.int .u8 (k : Int) = B (UInt8.ofNat k) := by show _ = Value.int .u8 _; rw [ofNat_val k hk]
  have HO := hide (hv.alloc (.cells #[B (UInt8.ofNat k)] 5))
  clear hp hv
  go_enter Tryz.func226, Tryz.ntmps226
  go_wp2_with fail
  go_region_law ((refine step_append_lies _ (by rfl) _ _ _ (by rfl) (p + 1) 5 i0 _ 1 1 Tryz.underlying35 hi hz0 hz1 hz2 rfl (by omega) (.slice ov l.length cv) l.length _ (by rfl) (HO.out.drew) ⟨w.heap.size, 0, none⟩ 1 1 [B (UInt8.ofNat k)] (by rfl) (by rfl) (World.news_of_block (cs := #[B (UInt8.ofNat k)]) (t := 5) (fr := (0, 0)) (heap_alloc_new w _)) (by simp [Value.oneCell']) (by omega) (by unfold maxLen; omega) (by omega) (by simp; omega) (w.heap.size + 1) (by simp) ?_; intro gg cap w8 hown8 hgrow hat hlt2; have hgr : Gr (.slice ov l.length cv) (.slice (some ⟨gg, 0, none⟩) (l.length + 1) cap) w w8 := gr_appendD hgrow (fun k hk => by cases hk; rcases hat with h | h; exact Or.inl h; exact Or.inr (show w.heap.size ≤ gg by omega)); obtain ⟨q1, q2, hW, hB2⟩ := wr_set (l1 := l ++ [UInt8.ofNat k]) HP.out HV.out hgr (by rw [List.length_append, List.map_append]; exact hown8); have HWW := hide hW; have HBB := hide hB2; clear hown8 hgrow hat hlt2 hgr hW hB2))
  all_goals
    go_wp2
    first | go_end0 | refine bodyPost_end (results_none rfl _ _ _) rfl ?_
    exact ⟨rfl, HWW.out, HBB.out⟩

set_option maxRecDepth 100000 in
set_option maxHeartbeats 6400000 in
theorem wtext_any (p b j : Nat) (s : ByteArray) (l : List UInt8) (w : World) (h : Wr p w l) (hc : w.cell? ⟨b, j, none⟩ = some (.string s)) (hb : b < p ∨ ∃ cs t, w.heap[b]? = some (.cells cs t (0, 0)) ∧ t ≠ 5) (hs : s.size ≤ 281474976) (hl : l.length ≤ 140737200000000) :
    Calls Tryz.prog 229 #[.pointer (some ⟨p, 0, none⟩), .pointer (some ⟨b, j, none⟩)] w fun e w' => e = .returned (.tuple #[]) ∧ Wr p w' (l ++ (numL s.size ++ s.data.toList)) ∧ Below p w w' := by
  obtain ⟨v, hp, hv⟩ := h
  have hlt := (Array.getElem?_eq_some_iff.1 hp).1
  have cp := cell_of hp 0
  have HP := hide hp
  have HV := hide hv
  have HC0 := hide hc
  have HBT := hide hb
  obtain ⟨ov, cv, rfl⟩ : ∃ ov cv, v = .slice ov l.length cv := by
    rcases hv.2 with ⟨h1, h0⟩ | ⟨g, cap, cur, h1, _⟩
    · exact ⟨none, 0, by rw [h1, h0]⟩
    · exact ⟨_, cap, h1⟩
  have hnl : (numL s.size).length ≤ 10 := (numF_len 9 s.size).2
  have HC := hide (appendNumber_any (.slice ov l.length cv) l s.size (p + 1) w.drew hv hlt (by omega) (by omega))
  clear hp hv hb
  go_enter Tryz.func229, Tryz.ntmps229
  go_wp2_with fail
  go_region_law (first
    | (refine step_callsX (by rfl) (by simp [go_sem]) HC.out ?_; rintro v1 w2 ⟨hown, hgr⟩; obtain ⟨v2, W2, hrun, hown2, hfr2, hat2⟩ := append_text w2 (p + 1) v1 _ hown s (by rw [List.length_append]; omega) (by have := hgr.fr.size; have : w.drew.heap.size = w.heap.size := rfl; omega); have hgr2 : Gr (.slice ov l.length cv) v2 w.drew W2 := hgr.trans ⟨hfr2, fun k hk => by rcases hat2 with h | ⟨g, h, hg⟩; exact Or.inl (by rw [← h]; exact hk); rw [h] at hk; cases hk; exact Or.inr hg⟩; obtain ⟨q1, q2, hW, hB⟩ := wr_set (w := w.drew) HP.out HV.out hgr2 hown2; have hc2 : w2.cell? ⟨b, j, none⟩ = some (.string s) := wr_at (w := w.drew) HV.out hgr HC0.out HBT.out; obtain ⟨o1, n1, c1, rfl⟩ : ∃ o1 n1 c1, v1 = .slice o1 n1 c1 := (by rcases hown.2 with ⟨h1, h0⟩ | ⟨g, cap, cur, h1, _⟩; exact ⟨none, 0, 0, h1⟩; exact ⟨_, _, cap, h1⟩); obtain ⟨o2, n2, c2, rfl⟩ : ∃ o2 n2 c2, v2 = .slice o2 n2 c2 := (by rcases hown2.2 with ⟨h1, h0⟩ | ⟨g, cap, cur, h1, _⟩; exact ⟨none, 0, 0, h1⟩; exact ⟨_, _, cap, h1⟩); have HWW := hide hW; have HBB := hide hB; clear hown hgr hW hB hown2 hfr2 hat2 hgr2)
    | (refine step_appendX rfl _ _ 35 9 rfl _ _ rfl rfl _ _ hrun ?_))
  all_goals
    go_wp2
    first | go_end0 | refine bodyPost_end (results_none rfl _ _ _) rfl ?_
    exact ⟨rfl, by rw [← List.append_assoc]; exact HWW.out, (Below.refl p w).drew.trans HBB.out⟩
end Go.Proofs.YtcogblelfeifbaaGreatDoor.rc
