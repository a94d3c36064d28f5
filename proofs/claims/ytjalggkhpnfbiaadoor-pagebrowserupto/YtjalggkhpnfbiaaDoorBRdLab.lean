import Derived.Test.YtjalggkhpnfbiaaDoorBRdName
import Derived.Test.YtjalggkhpnfbiaaDoorBTwinAll
namespace Go.Proofs.YtjalggkhpnfbiaaDoor.pg
open Go.ChangeShapes Go.WideShapes Go.ChangeAt Go.RowKit Go.Proofs.YtjalggkhpnfbiaaDoor.common Go.Maps
attribute [local go_sem ↓] Go.wp_at_zero Go.wp_at_succ

theorem REnv.next {w w' : World} {b : Nat} {ea : Addr} (h : REnv w b ea) (hk : Kr b w w') (hb : b ≤ w.heap.size) : REnv w' b ea :=
  ⟨h.esc.under (hk.under hb) h.lt, h.txt.under (hk.under hb) h.lt2, h.lt, h.lt2⟩
theorem size_of {a s r : List UInt8} {S R : ByteArray} (h : s = a ++ r) (hS : S.data.toList = s) (hR : R.data.toList = r) : R.size ≤ S.size := by
  have := congrArg List.length h
  rw [List.length_append, ← hS, ← hR, len_list, len_list] at this
  omega

theorem Kr.above {b : Nat} {w w' : World} (h : Kr b w w') (a : Addr) (v : Value) (ha : w.heap.size ≤ a.block) : Kr b w (w'.setCell a v) :=
  ⟨h.os, h.tape, h.output, by have := h.size; simpa [World.setCell] using this, fun k hk hn => (Below.heap_setCell w' a v k (by omega)).trans (h.block k hk hn)⟩
theorem sizeIn : (Tryd.prog.info? 28).map (·.size) = some 4 := by kernel_rfl
theorem set_four {w : World} {F : Nat} {x y z u : Value} {t : TypeId} (h : w.heap[F]? = some (.cells #[x, y, z, u] t)) (a b c d : Value) : ((((w.setCell ⟨F, 0, none⟩ a).setCell ⟨F, 1, none⟩ b).setCell ⟨F, 2, none⟩ c).setCell ⟨F, 3, none⟩ d).heap[F]? = some (.cells #[a, b, c, d] t) := by
  simp [World.setCell, Array.getElem?_modify, h]
theorem range4 {w : World} {F : Nat} {x y z u : Value} {t : TypeId} (h : w.heap[F]? = some (.cells #[x, y, z, u] t)) : w.rangeAt F 0 [x, y, z, u] := fun j v hv => by
  rw [Nat.zero_add]
  simp only [World.cell?, h]
  simpa using hv

set_option maxRecDepth 100000 in
set_option maxHeartbeats 1600000 in
theorem nameAndValue_any (b : Nat) (s : ByteArray) (k : Int) (ea : Addr) (w : World) (hs : s.size < 140737488355328) (h : Rr w b s) (he : REnv w b ea) :
    Calls Tryd.prog 64 #[ptr b, .int .i64 k] w fun e w' => RPost b ea w inV (valL k s.data.toList) e w' := by
  have BA : Below w.heap.size w (w.alloc (.cells #[.int .i64 0, .string ⟨#[]⟩, .string ⟨#[]⟩, .string ⟨#[]⟩] 28)) := (Below.refl _ _).alloc (Nat.le_refl _) _
  have hP : (w.alloc (.cells #[.int .i64 0, .string ⟨#[]⟩, .string ⟨#[]⟩, .string ⟨#[]⟩] 28)).heap[w.heap.size]? = some (.cells #[.int .i64 0, .string ⟨#[]⟩, .string ⟨#[]⟩, .string ⟨#[]⟩] 28) := by show (w.heap.push _)[w.heap.size]? = _; simp
  have HP := hide hP
  have hPl := (Array.getElem?_eq_some_iff.1 hP).1
  have hfb : w.heap.size ≠ b := by have := h.lt; omega
  have K0 : Hid (Kr b w (w.alloc (.cells #[.int .i64 0, .string ⟨#[]⟩, .string ⟨#[]⟩, .string ⟨#[]⟩] 28))) := Kr.of BA
  have HT := hide (name_any b s ea _ hs (h.below BA) (he.next (Kr.of BA) (Nat.le_of_lt h.lt)))
  have HE := hide (he.next (Kr.of BA) (Nat.le_of_lt h.lt))
  have hbl := (h.below BA).lt
  clear h he BA hP
  go_enter Tryd.func64, Tryd.ntmps64
  go_wp2_with fail
  generalize w.alloc (.cells #[.int .i64 0, .string ⟨#[]⟩, .string ⟨#[]⟩, .string ⟨#[]⟩] 28) = W at *
  refine HT.out.mono ?_
  rintro e w1 ⟨k1, ⟨n, r, g1, rfl, g2⟩ | ⟨g1, rfl⟩⟩
  · have hs1 : r.size < 140737488355328 := by have := size_of (namL_is g1).1 rfl rfl; omega
    have HE1 := hide (HE.out.next k1 (Nat.le_of_lt hbl))
    have HM := hide (must_any b r mInputValue ea w1 g2 HE1.out.txt HE1.out.lt2)
    have G1 := hide g1
    have K1 := hide (K0.out.trans k1)
    have KW := hide k1
    have hb1 := g2.lt
    clear g1 g2 k1 HT
    go_wp2_with fail
    refine HM.out.mono ?_
    rintro e w2 ⟨k2, ⟨_, r2, g3, rfl, g4⟩ | ⟨g3, rfl⟩⟩
    · have g5 : skp mInputValue.data.toList r.data.toList = some r2.data.toList := by
        cases hq : skp mInputValue.data.toList r.data.toList with
        | none => rw [hq] at g3; cases g3
        | some q => rw [hq] at g3; injection g3 with g3; injection g3 with _ g3; rw [g3]
      have hs2 : r2.size < 140737488355328 := by have := size_of (skp_is g5) rfl rfl; omega
      have HE2 := hide (HE1.out.next k2 (Nat.le_of_lt hb1))
      have HX := hide (rdText_any b r2 34 ea w2 hs2 g4 HE2.out.esc HE2.out.txt)
      have G3 := hide g5
      have K2 := hide (K1.out.trans k2)
      have KW2 := hide (KW.out.trans k2)
      clear g3 g4 g5 k2 HM
      go_wp2_with fail
      refine HX.out.mono ?_
      rintro e w3 ⟨k3, ⟨v, r3, g6, rfl, g7⟩ | ⟨g6, rfl⟩⟩
      · have HV : Hid (valL k s.data.toList = some (⟨k, n, v, ⟨#[]⟩⟩, r3.data.toList)) := by
          show _ = _
          unfold valL
          rw [G1.out, Option.bind_some, G3.out, Option.bind_some, g6, Option.bind_some]
        have G7 := hide g7
        have K3 := hide (K2.out.trans k3)
        have hP3 := ((KW2.out.trans k3).block _ hPl hfb).trans HP.out
        have q0 : w3.cell? ⟨w.heap.size, 0, none⟩ = some (.int .i64 0) := by simp [World.cell?, hP3]
        have q1 : w3.cell? ⟨w.heap.size, 0 + 1, none⟩ = some (.string ⟨#[]⟩) := by simp [World.cell?, hP3]
        have q2 : w3.cell? ⟨w.heap.size, 0 + 2, none⟩ = some (.string ⟨#[]⟩) := by simp [World.cell?, hP3]
        have q3 : w3.cell? ⟨w.heap.size, 0 + 3, none⟩ = some (.string ⟨#[]⟩) := by simp [World.cell?, hP3]
        have y0 : w3.frozen? ⟨w.heap.size, 0, none⟩ = false := by simp [World.frozen?, hP3]
        have y1 : w3.frozen? ⟨w.heap.size, 0 + 1, none⟩ = false := by simp [World.frozen?, hP3]
        have y2 : w3.frozen? ⟨w.heap.size, 0 + 2, none⟩ = false := by simp [World.frozen?, hP3]
        have y3 : w3.frozen? ⟨w.heap.size, 0 + 3, none⟩ = false := by simp [World.frozen?, hP3]
        clear g6 g7 k3 HX
        have HP3 := hide hP3
        clear hP3
        go_wp2
        have hR4 : Rr ((((w3.setCell ⟨w.heap.size, 0, none⟩ (.int .i64 k)).setCell ⟨w.heap.size, 1, none⟩ (.string n)).setCell ⟨w.heap.size, 2, none⟩ (.string v)).setCell ⟨w.heap.size, 3, none⟩ (.string ⟨#[]⟩)) b r3 := by
          unfold Rr
          rw [Below.heap_setCell _ _ _ _ (Ne.symm hfb), Below.heap_setCell _ _ _ _ (Ne.symm hfb), Below.heap_setCell _ _ _ _ (Ne.symm hfb), Below.heap_setCell _ _ _ _ (Ne.symm hfb)]
          exact G7.out
        have hK4 := (((K3.out.above ⟨w.heap.size, 0, none⟩ (.int .i64 k) (Nat.le_refl _)).above ⟨w.heap.size, 1, none⟩ (.string n) (Nat.le_refl _)).above ⟨w.heap.size, 2, none⟩ (.string v) (Nat.le_refl _)).above ⟨w.heap.size, 3, none⟩ (.string ⟨#[]⟩) (Nat.le_refl _)
        refine bodyPost_ret (results_c rfl _ rfl (range4 (set_four HP3.out (.int .i64 k) (.string n) (.string v) (.string ⟨#[]⟩))) Tryd.underlying28 rfl sizeIn) rfl ?_
        exact ⟨hK4, Or.inl ⟨⟨k, n, v, ⟨#[]⟩⟩, r3, HV.out, rfl, hR4⟩⟩
      · have HV : Hid (valL k s.data.toList = none) := by
          show _ = _
          unfold valL
          rw [G1.out, Option.bind_some, G3.out, Option.bind_some, g6]
          rfl
        have K3 := hide (K2.out.trans k3)
        clear g6 k3 HX
        go_wp2
        exact ⟨rfl, K3.out, Or.inr ⟨HV.out, rfl⟩⟩
    · have HV : Hid (valL k s.data.toList = none) := by
        show _ = _
        have g5 : skp mInputValue.data.toList r.data.toList = none := by
          cases hq : skp mInputValue.data.toList r.data.toList with
          | none => rfl
          | some q => rw [hq] at g3; cases g3
        unfold valL
        rw [G1.out, Option.bind_some, g5]
        rfl
      have K2 := hide (K1.out.trans k2)
      clear g3 k2 HM
      go_wp2
      exact ⟨rfl, K2.out, Or.inr ⟨HV.out, rfl⟩⟩
  · have HV : Hid (valL k s.data.toList = none) := by show _ = _; unfold valL; rw [g1]; rfl
    have K1 := hide (K0.out.trans k1)
    clear g1 k1
    go_wp2
    exact ⟨rfl, K1.out, Or.inr ⟨HV.out, rfl⟩⟩
end Go.Proofs.YtjalggkhpnfbiaaDoor.pg

namespace Go.Proofs.YtjalggkhpnfbiaaDoor.pg
open Go.ChangeShapes Go.WideShapes Go.ChangeAt Go.RowKit Go.Proofs.YtjalggkhpnfbiaaDoor.common Go.Maps
attribute [local go_sem ↓] Go.wp_at_zero Go.wp_at_succ

theorem take_last (l : List UInt8) (i : Nat) (h : i + 1 ≤ l.length) : (l.take (i + 1)).dropLast = l.take i ∧ (l.take (i + 1)).getLast?.toList ++ l.drop (i + 1) = l.drop i := by
  have e : l.take (i + 1) = l.take i ++ [l[i]'(by omega)] := List.take_succ_eq_append_getElem (by omega)
  rw [e, List.dropLast_concat, List.getLast?_concat]
  refine ⟨rfl, ?_⟩
  rw [List.drop_eq_getElem_cons (show i < l.length by omega)]
  rfl

set_option maxRecDepth 100000 in
set_option maxHeartbeats 800000 in
theorem labelAhead_any (b : Nat) (s : ByteArray) (ea : Addr) (w : World) (hs : s.size < 140737488355328) (h : Rr w b s) (he : REnv w b ea) :
    Calls Tryd.prog 73 #[ptr b] w fun e w' => RPost b ea w Value.string (labL s.data.toList) e w' := by
  have HI := hide (fun W => sIndexB_any s 60 W)
  have h' : w.heap[b]? = some (.cells #[.string s] 61) := h
  have c0 : w.cell? ⟨b, 0, none⟩ = some (.string s) := by simp [World.cell?, h']
  have ce : w.cell? ⟨1, 0, none⟩ = some (X ea) := he.txt
  have HK := hide (fun i hi => take_any b s i ea w hi hs h he.esc he.txt)
  clear h h' he
  rcases ahead_index 60 s.data.toList with ⟨h1, h2⟩ | ⟨i, h1, h2, h3⟩
  · have HT : Hid (labL s.data.toList = none) := by show _ = _; unfold labL; rw [h2]; rfl
    rw [h1] at HI
    clear h1 h2
    go_enter Tryd.func73, Tryd.ntmps73
    go_wp2_with (go_at_call 50; refine (HI.out _).mono ?_; rintro e w' ⟨rfl, rfl⟩)
    exact ⟨rfl, Kr.refl _ _, Or.inr ⟨HT.out, rfl⟩⟩
  · cases i with
    | zero =>
      have HT : Hid (labL s.data.toList = none) := by show _ = _; unfold labL; rw [h3, Option.bind_some]; exact if_pos rfl
      rw [h1] at HI
      clear h1 h2 h3
      go_enter Tryd.func73, Tryd.ntmps73
      go_wp2_with (go_at_call 50; refine (HI.out _).mono ?_; rintro e w' ⟨rfl, rfl⟩)
      exact ⟨rfl, Kr.refl _ _, Or.inr ⟨HT.out, rfl⟩⟩
    | succ i =>
      obtain ⟨t1, t2⟩ := take_last s.data.toList i (by omega)
      have HT : Hid (labL s.data.toList = (Pg.unesc (s.data.toList.take i)).map fun t => (⟨t.toArray⟩, s.data.toList.drop i)) := by
        show _ = _
        unfold labL
        rw [h3, Option.bind_some, if_neg (by intro e; have he : (s.data.toList.take (i + 1)).length = 0 := congrArg List.length e; rw [List.length_take] at he; omega)]
        show (Pg.unesc (s.data.toList.take (i + 1)).dropLast).bind (fun t => some ((⟨t.toArray⟩ : ByteArray), (s.data.toList.take (i + 1)).getLast?.toList ++ s.data.toList.drop (i + 1))) = _
        rw [t1, t2]
        cases Pg.unesc (s.data.toList.take i) <;> rfl
      rw [len_list] at h2
      have HK1 := hide (HK.out i (by omega))
      rw [h1] at HI
      have i1 : ¬ ((i + 1 : Nat) : Int) < 1 := by omega
      have i2 : ((i + 1 : Nat) : Int) - 1 = (i : Int) := by omega
      have i5 : ((i + 1 : Nat) : Int) ≤ 140737488355328 := by omega
      clear h1 h2 h3 t1 t2 HK
      generalize hI : ((i + 1 : Nat) : Int) = I at *
      have i4 : 1 ≤ I := by omega
      clear hI
      go_enter Tryd.func73, Tryd.ntmps73
      go_wp2_with (go_at_call 50; refine (HI.out _).mono ?_; rintro e w' ⟨rfl, rfl⟩)
      refine HK1.out.mono ?_
      rintro e w' ⟨k1, ⟨x, r, g1, rfl, g2⟩ | ⟨g1, rfl⟩⟩
      · have G1 := hide g1
        have G2 := hide g2
        have K1 := hide k1
        clear g1 g2 k1
        go_wp2
        go_ret
        exact ⟨K1.out, Or.inl ⟨x, r, by rw [HT.out]; exact G1.out, rfl, G2.out⟩⟩
      · have G1 := hide g1
        have K1 := hide k1
        clear g1 k1
        go_wp2
        exact ⟨rfl, K1.out, Or.inr ⟨by rw [HT.out]; exact G1.out, rfl⟩⟩
end Go.Proofs.YtjalggkhpnfbiaaDoor.pg
