import Derived.Test.YtjalggkhpnfbiaaDoorMRdVal
namespace Go.Proofs.YtjalggkhpnfbiaaDoor.pg
open Go.ChangeShapes Go.WideShapes Go.ChangeAt Go.RowKit Go.Proofs.YtjalggkhpnfbiaaDoor.common Go.Maps
attribute [local go_sem ↓] Go.wp_at_zero Go.wp_at_succ

theorem take_last (l : List UInt8) (i : Nat) (h : i + 1 ≤ l.length) : (l.take (i + 1)).dropLast = l.take i ∧ (l.take (i + 1)).getLast?.toList ++ l.drop (i + 1) = l.drop i := by
  have e : l.take (i + 1) = l.take i ++ [l[i]'(by omega)] := List.take_succ_eq_append_getElem (by omega)
  rw [e, List.dropLast_concat, List.getLast?_concat]
  refine ⟨rfl, ?_⟩
  rw [List.drop_eq_getElem_cons (show i < l.length by omega)]
  rfl

set_option maxRecDepth 100000 in
set_option maxHeartbeats 800000 in
theorem labelAhead_any (b : Nat) (s : ByteArray) (ea : Addr) (w : World) (hs : s.size < 140737488355328) (h : Rr w b s) (he : REnv w b ea) :
    Calls Tryd.prog 73 #[ptr b] w fun e w' => RPost b ea w Value.string (labL s.data.toList) e w' := by
  have HI := hide (fun W => sIndexB_any s 60 W)
  have h' : w.heap[b]? = some (.cells #[.string s] 61) := h
  have c0 : w.cell? ⟨b, 0, none⟩ = some (.string s) := by simp [World.cell?, h']
  have ce : w.cell? ⟨1, 0, none⟩ = some (X ea) := he.txt
  have HK := hide (fun i hi => take_any b s i ea w hi hs h he.esc he.txt)
  clear h h' he
  rcases ahead_index 60 s.data.toList with ⟨h1, h2⟩ | ⟨i, h1, h2, h3⟩
  · have HT : Hid (labL s.data.toList = none) := by show _ = _; unfold labL; rw [h2]; rfl
    rw [h1] at HI
    clear h1 h2
    go_enter Tryd.func73, Tryd.ntmps73
    go_wp2_with (go_at_call 50; refine (HI.out _).mono ?_; rintro e w' ⟨rfl, rfl⟩)
    exact ⟨rfl, Kr.refl _ _, Or.inr ⟨HT.out, rfl⟩⟩
  · cases i with
    | zero =>
      have HT : Hid (labL s.data.toList = none) := by show _ = _; unfold labL; rw [h3, Option.bind_some]; exact if_pos rfl
      rw [h1] at HI
      clear h1 h2 h3
      go_enter Tryd.func73, Tryd.ntmps73
      go_wp2_with (go_at_call 50; refine (HI.out _).mono ?_; rintro e w' ⟨rfl, rfl⟩)
      exact ⟨rfl, Kr.refl _ _, Or.inr ⟨HT.out, rfl⟩⟩
    | succ i =>
      obtain ⟨t1, t2⟩ := take_last s.data.toList i (by omega)
      have HT : Hid (labL s.data.toList = (Pg.unesc (s.data.toList.take i)).map fun t => (⟨t.toArray⟩, s.data.toList.drop i)) := by
        show _ = _
        unfold labL
        rw [h3, Option.bind_some, if_neg (by intro e; have he : (s.data.toList.take (i + 1)).length = 0 := congrArg List.length e; rw [List.length_take] at he; omega)]
        show (Pg.unesc (s.data.toList.take (i + 1)).dropLast).bind (fun t => some ((⟨t.toArray⟩ : ByteArray), (s.data.toList.take (i + 1)).getLast?.toList ++ s.data.toList.drop (i + 1))) = _
        rw [t1, t2]
        cases Pg.unesc (s.data.toList.take i) <;> rfl
      rw [len_list] at h2
      have HK1 := hide (HK.out i (by omega))
      rw [h1] at HI
      have i1 : ¬ ((i + 1 : Nat) : Int) < 1 := by omega
      have i2 : ((i + 1 : Nat) : Int) - 1 = (i : Int) := by omega
      have i5 : ((i + 1 : Nat) : Int) ≤ 140737488355328 := by omega
      clear h1 h2 h3 t1 t2 HK
      generalize hI : ((i + 1 : Nat) : Int) = I at *
      have i4 : 1 ≤ I := by omega
      clear hI
      go_enter Tryd.func73, Tryd.ntmps73
      go_wp2_with (go_at_call 50; refine (HI.out _).mono ?_; rintro e w' ⟨rfl, rfl⟩)
      refine HK1.out.mono ?_
      rintro e w' ⟨k1, ⟨x, r, g1, rfl, g2⟩ | ⟨g1, rfl⟩⟩
      · have G1 := hide g1
        have G2 := hide g2
        have K1 := hide k1
        clear g1 g2 k1
        go_wp2
        go_ret
        exact ⟨K1.out, Or.inl ⟨x, r, by rw [HT.out]; exact G1.out, rfl, G2.out⟩⟩
      · have G1 := hide g1
        have K1 := hide k1
        clear g1 k1
        go_wp2
        exact ⟨rfl, K1.out, Or.inr ⟨by rw [HT.out]; exact G1.out, rfl⟩⟩
end Go.Proofs.YtjalggkhpnfbiaaDoor.pg
