import Derived.Test.YtkamnkldgeaaaaaDoorDkOps2
namespace Go.Proofs.YtkamnkldgeaaaaaDoor.dk
open Go.ChangeShapes Go.WideShapes Go.ChangeAt Go.RowKit Go.Proofs.YtkamnkldgeaaaaaDoor.common

theorem gate_on (x : St) (dy : St → St) (h : x.on = true) : (x.gate dy).b = x.b ∧ (x.gate dy).s = x.s ∧ (x.gate dy).r = x.r ∧ (x.gate dy).d = x.d ∧ (x.gate dy).a.length = x.a.length := by
  unfold St.on at h
  unfold St.gate
  cases hd : x.d with
  | true => rw [hd] at h; cases h
  | false =>
    rw [hd] at h
    rcases ha : x.a with _ | ⟨⟨n, k⟩, r⟩
    · exact ⟨rfl, rfl, rfl, hd, by rw [if_neg (by decide)]; exact congrArg _ ha⟩
    · cases n with
      | zero => rw [ha] at h; cases h
      | succ n => exact ⟨rfl, rfl, rfl, rfl, rfl⟩

set_option maxRecDepth 100000 in
set_option maxHeartbeats 1600000 in
theorem app1_any (W : World) (K p B0 : Nat) (F : List Nat) (y : St) (h : Dk W p F y) (v : Value) (l : List UInt8) (hv : Rd W v l) (hvF : 0 < l.length → ∀ a n c, v = .slice (some a) n c → a.block ∉ F) (e : Nat → Addr) (he : Er W K e) (hr : y.r ≤ 1073741824) (hb : y.b.length ≤ 140737488355328) (hl : l.length ≤ 9223372036854775807)
    (b0 : W.heap[B0]? = some (.cells #[ptr p] 27)) (b1 : W.heap[B0 + 1]? = some (.cells #[v] 25)) :
    Calls Tryd.prog 22 #[ptr B0, ptr (B0 + 1)] W fun r' w' => r' = .returned (.tuple #[]) ∧ Mv W p F (y.put l) w' := by
  have HP := hide (put_any W K p F y h v l hv hvF e he hr hb hl)
  have c0 : W.cell? ⟨B0, 0, none⟩ = some (ptr p) := cell_of b0 0
  have c1 : W.cell? ⟨B0 + 1, 0, none⟩ = some v := cell_of b1 0
  clear h hv hvF he hr hb hl b0 b1
  go_enter Tryd.func22, Tryd.ntmps22
  go_wp2_with fail
  refine HP.out.mono ?_
  rintro r' w1 ⟨rfl, m1⟩
  have HM := hide m1
  clear m1 HP
  go_wp2
  go_end0
  exact ⟨rfl, HM.out⟩

set_option maxRecDepth 100000 in
set_option maxHeartbeats 1600000 in
theorem append_any (w : World) (K p : Nat) (F : List Nat) (x : St) (h : Dk w p F x) (v : Value) (l : List UInt8) (hv : Rd w v l) (hvF : 0 < l.length → ∀ a n c, v = .slice (some a) n c → a.block ∉ F) (hvlt : 0 < l.length → ∀ a n c, v = .slice (some a) n c → a.block < w.heap.size) (e : Nat → Addr) (he : Er w K e) (hF : ∀ k ∈ F, K ≤ k) (hx : Fine x) (hl : l.length ≤ 9223372036854775807) :
    Calls Tryd.prog 9 #[ptr p, v] w fun r' w' => r' = .returned (errV e (x.append l).2) ∧ Mv w p F (x.append l).1 w' := by
  have hv0 := hv
  obtain ⟨oa, cp, rfl, _⟩ := hv0
  obtain ⟨v, hvv⟩ : ∃ v, v = Value.slice oa l.length cp := ⟨_, rfl⟩
  rw [← hvv] at hv hvF hvlt ⊢
  obtain ⟨V, hV⟩ : ∃ V, V = (w.alloc (.cells #[ptr p] 27)).alloc (.cells #[v] 25) := ⟨_, rfl⟩
  have BV : Below w.heap.size w V := by rw [hV]; exact ((Below.refl _ _).alloc (Nat.le_refl _) _).alloc (by simp) _
  have b0 : V.heap[w.heap.size]? = some (.cells #[ptr p] 27) := by
    rw [hV, heap_alloc_old _ _ (by simp)]; exact heap_alloc_new _ _
  have b1 : V.heap[w.heap.size + 1]? = some (.cells #[v] 25) := by
    have := heap_alloc_new (w.alloc (.cells #[ptr p] 27)) (.cells #[v] 25)
    rw [hV]; simpa using this
  have hzV : V.heap.size = w.heap.size + 2 := by rw [hV]; simp
  have hDV := h.below BV
  have hvV := hv.below BV
  have heV := he.below BV
  have hb := hx.ok.most
  have hs := hx.ok.syn
  have hr := hx.ok.room
  have hlt := h.lt
  have hn0 : w.heap.size ∉ F := fun hm => by have := hlt _ hm; omega
  have hn1 : w.heap.size + 1 ∉ F := fun hm => by have := hlt _ hm; omega
  have hG := gate_any V K p F x hDV e heV.ed hF hx.arms 22 #[ptr w.heap.size, ptr (w.heap.size + 1)] (fun y => y.put l)
    (fun r => by
      have h1 := ((hx.ok.arms r false).put l (by decide))
      exact ⟨h1.syn, by have := h1.most; omega⟩) enters_put
    (fun W F' r hD hfr hsub => by
      refine app1_any W K p w.heap.size F' _ hD v l ?_ (fun h0 a n c hv hm => hvF h0 a n c hv (hsub _ hm)) e (heV.fr hfr hF) hr hb hl ?_ ?_
      · refine hvV.keepL (fun h0 oa n cap hv => ?_) hfr.size
        exact hfr.block _ (by rw [hzV]; have := hvlt h0 oa n cap hv; omega) (hvF h0 _ _ _ hv)
      · rw [hfr.block _ (by omega) hn0]; exact b0
      · rw [hfr.block _ (by omega) hn1]; exact b1)
  have HG := hide hG
  have HBV : Hid (∀ X w', Mv V p F X w' → Mv w p F X w') := fun X w' hm => Mv.trans (Fr.of BV) (fun k hk => Or.inl hk) hm
  unfold St.append
  rw [oper_gate]
  unfold gateV at HG
  have c0 : V.cell? ⟨w.heap.size, 0, none⟩ = some (ptr p) := cell_of b0 0
  cases hon : x.on with
  | true =>
    rw [hon] at HG
    rw [if_pos rfl] at HG ⊢
    obtain ⟨g1, g2, g3, g4, g5⟩ := gate_on x (fun y => y.put l) hon
    have hfit : (x.gate (fun y => y.put l)).fits l = x.fits l := by unfold St.fits; rw [g1, g3]
    have HP : Hid (∀ w1 F1, Dk w1 p F1 (x.gate fun y => y.put l) → Fr F V w1 → (∀ k ∈ F1, k ∈ F ∨ V.heap.size ≤ k) → w1.cell? ⟨w.heap.size, 0, none⟩ = some (ptr p) ∧ w1.cell? ⟨w.heap.size + 1, 0, none⟩ = some v ∧ Calls Tryd.prog 23 #[ptr p, v] w1 fun r' w' => r' = .returned (if x.fits l then .nilIface else errw.E e 8) ∧ Mv w p F ((x.gate fun y => y.put l).put l) w') := by
      intro w1 F1 hD hfr hsub
      refine ⟨?_, ?_, ?_⟩
      · rw [World.cell?_of_block (a := ⟨w.heap.size, 0, none⟩) (hfr.block w.heap.size (by omega) hn0)]; exact c0
      · rw [World.cell?_of_block (a := ⟨w.heap.size + 1, 0, none⟩) (hfr.block (w.heap.size + 1) (by omega) hn1)]; exact cell_of b1 0
      · have hvw : Rd w1 v l := hvV.keepL (fun h0 oa n cap hv => hfr.block _ (by rw [hzV]; have := hvlt h0 oa n cap hv; omega) (hvF h0 _ _ _ hv)) hfr.size
        refine (put_any w1 K p F1 _ hD v l hvw (fun h0 a n c hv hm => ?_) e (heV.fr hfr hF) (by rw [g3]; exact hr) (by rw [g1]; exact hb) hl).mono ?_
        · rcases hsub _ hm with h1 | h1
          · exact hvF h0 a n c hv h1
          · have := hvlt h0 a n c hv; omega
        · rintro r' w' ⟨rfl, m⟩
          unfold putV
          rw [hfit]
          exact ⟨rfl, HBV.out _ _ (Mv.trans hfr hsub m)⟩
    clear h hv hvF he hF hDV hvV heV hG hlt hn0 hn1 b0 b1 BV hx hr hs hvlt hfit g1 g2 g3 g4 g5 HBV
    generalize x.gate (fun y => y.put l) = y at *
    have HV := hide hV
    have HVV := hide hvv
    clear hV hzV
    subst hvv
    go_enter Tryd.func9, Tryd.ntmps9
    go_wp2_with fail
    rw [← HV.out]
    refine HG.out.mono ?_
    rintro r' w1 ⟨rfl, F1, D1, f1, s1⟩
    obtain ⟨d0, d1, hP⟩ := HP.out w1 F1 D1 f1 s1
    have HPP := hide hP
    have hnn := neq_nil w1
    clear D1 f1 s1 HP hP HG c0
    cases hfx : x.fits l with
    | true =>
      rw [hfx, if_pos rfl] at HPP
      go_wp2_with fail
      refine HPP.out.mono ?_
      rintro r' w2 ⟨rfl, m2⟩
      have HM := hide m2
      clear m2 HPP
      go_wp2
      go_ret
      exact ⟨rfl, HM.out⟩
    | false =>
      rw [hfx, if_neg (by decide)] at HPP
      go_wp2_with fail
      refine HPP.out.mono ?_
      rintro r' w2 ⟨rfl, m2⟩
      have HM := hide m2
      clear m2 HPP
      go_wp2
      all_goals
        go_ret
        exact ⟨rfl, HM.out⟩
  | false =>
    rw [hon] at HG
    rw [if_neg (by decide)] at HG ⊢
    clear h hv hvF he hF hDV hvV heV hG hlt hn0 hn1 b0 b1 BV hx hr hs hvlt
    generalize x.gate (fun y => y.put l) = y at *
    have HV := hide hV
    clear hV hzV
    subst hvv
    go_enter Tryd.func9, Tryd.ntmps9
    go_wp2_with fail
    rw [← HV.out]
    refine HG.out.mono ?_
    rintro r' w1 ⟨rfl, m1⟩
    have HM := hide (HBV.out _ _ m1)
    have hnn := neq_err e 9 w1
    clear m1 HG
    go_wp2
    go_ret
    exact ⟨rfl, HM.out⟩
end Go.Proofs.YtkamnkldgeaaaaaDoor.dk
