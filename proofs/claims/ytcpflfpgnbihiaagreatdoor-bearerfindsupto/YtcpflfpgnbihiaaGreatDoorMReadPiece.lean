import Derived.Test.YtcpflfpgnbihiaaGreatDoorMIndexOne
import Derived.Test.YtcpflfpgnbihiaaGreatDoorMUnescWalks
import Derived.Test.YtcpflfpgnbihiaaGreatDoorMLookWalks
namespace Go.Proofs.YtcpflfpgnbihiaaGreatDoor.pctw
open Go.ChangeShapes Go.WideShapes Go.ChangeAt Go.RowKit Go.Proofs.YtcpflfpgnbihiaaGreatDoor.common
attribute [local go_sem ↓] Go.wp_at_zero Go.wp_at_succ

theorem name_len (l : List UInt8) : (Pct.name l).length ≤ l.length := by
  induction l with
  | nil => exact Nat.le_refl _
  | cons c r ih => unfold Pct.name; split <;> simp; exact ih
theorem value_len (l : List UInt8) : (Pct.value l).length ≤ l.length := by
  induction l with
  | nil => exact Nat.le_refl _
  | cons c r ih => unfold Pct.value; split <;> simp; omega

theorem results_ct {fn : Func} {p t : Tmp} {ty : TypeId} {P : Program} {w : World} {b o : Nat} {cs : List Value} {d : TypeDesc} {u : Value} (h : fn.results = #[.cell p ty, .tmp t]) (tmps : Array Value) (hx : tmps.getD p undef = .pointer (some ⟨b, o, none⟩))
    (hc : w.rangeAt b o cs) (hu : P.underlying ty = some d) (hd : d.isRow = true) (hi : (P.info? ty).map (·.size) = some cs.length) (ht : tmps.getD t undef = u) : (results fn tmps).run P w = .ok (.tuple #[.agg cs.toArray, u]) w := by
  have hx' : tmps[p]?.getD undef = .pointer (some ⟨b, o, none⟩) := by simpa using hx
  have ht' : tmps[t]?.getD undef = u := by simpa using ht
  simp only [results, h]
  simp [hx', ht', asAddr, run_loadVar_mid w b o ty cs d hc hu hd hi]

theorem two_set (w : World) (R : Nat) (x y : Value) (h : w.there R 0 2) : ((w.setCell ⟨R, 0, none⟩ x).setCell ⟨R, 1, none⟩ y).rangeAt R 0 [x, y] := by
  obtain ⟨v0, h0⟩ := Option.isSome_iff_exists.1 (h 0 (by decide)).1
  obtain ⟨v1, h1⟩ := Option.isSome_iff_exists.1 (h 1 (by decide)).1
  have r : w.rangeAt R 0 [v0, v1] := by
    intro j u hu
    match j, hu with
    | 0, hu => cases hu; exact h0
    | 1, hu => cases hu; exact h1
  have r1 := range_set r 0 (by simp) x
  have r2 := range_set r1 1 (by simp) y
  simpa using r2

set_option maxRecDepth 100000 in
set_option maxHeartbeats 3200000 in
theorem readPiece_any (p : ByteArray) (w : World) (hs : p.size ≤ reachBytes) (ea : Addr) (he : Txt w ea) :
    Calls Tryz.prog 41 #[.string p] w fun x w' => Below w.heap.size w w' ∧
      ((∃ a b, Pct.pair p.data.toList = some (a, b) ∧ x = .returned (.tuple #[.agg #[S a, S b], .nilIface])) ∨
        (Pct.pair p.data.toList = none ∧ x = .returned (.tuple #[.agg #[.string ⟨#[]⟩, .string ⟨#[]⟩], X ea]))) := by
  have HS := hide hs
  have HE := hide he
  have HT0 : Hid ((w.alloc (.cells #[.string ⟨#[]⟩, .string ⟨#[]⟩] 35)).there w.heap.size 0 2) := there_new_at w _ _ _ _ rfl rfl
  have hb0 : Hid (Below w.heap.size w (w.alloc (.cells #[.string ⟨#[]⟩, .string ⟨#[]⟩] 35))) := (Below.refl _ _).alloc (Nat.le_refl _) _
  have hlt0 : Hid (w.heap.size < (w.alloc (.cells #[.string ⟨#[]⟩, .string ⟨#[]⟩] 35)).heap.size) := by show _ < _; simp
  clear hs he
  go_enter Tryz.func41, Tryz.ntmps41
  go_wp2_with fail
  generalize w.alloc (.cells #[.string ⟨#[]⟩, .string ⟨#[]⟩] 35) = W at *
  refine (cut_any p W HS.out).mono ?_
  rintro x w1 ⟨⟨f, rfl⟩, hb1⟩
  have HT1 := hide (there_below HT0.out hb1 hlt0.out)
  have HB1 := hide (hb0.out.trans (hb1.mono hb0.out.size))
  have HL1 : Hid (w.heap.size < w1.heap.size) := Nat.lt_of_lt_of_le hlt0.out hb1.size
  clear hb1 HT0 hb0 hlt0
  obtain ⟨N, hN⟩ : ∃ N : ByteArray, (⟨(Pct.name p.data.toList).toArray⟩ : ByteArray) = N := ⟨_, rfl⟩
  obtain ⟨V, hV⟩ : ∃ V : ByteArray, (⟨(Pct.value p.data.toList).toArray⟩ : ByteArray) = V := ⟨_, rfl⟩
  rw [show S (Pct.name p.data.toList) = .string N from congrArg Value.string hN, show S (Pct.value p.data.toList) = .string V from congrArg Value.string hV]
  have HNs : Hid (N.size ≤ reachBytes) := by show _ ≤ _; rw [← hN, str_size]; exact Nat.le_trans (name_len _) (by rw [len_list]; exact HS.out)
  have HVs : Hid (V.size ≤ reachBytes) := by show _ ≤ _; rw [← hV, str_size]; exact Nat.le_trans (value_len _) (by rw [len_list]; exact HS.out)
  have HPP : Hid (Pct.pair p.data.toList = match Pct.unesc true N.data.toList, Pct.unesc true V.data.toList with | some n, some v => some (n, v) | _, _ => none) := by
    show _ = _; rw [← hN, ← hV]; rfl
  clear hN hV
  go_wp2_with fail
  refine (unescape_any N true w1 HNs.out ea (HE.out.below HB1.out)).mono ?_
  rintro x w2 ⟨hb2, hx⟩
  have HT2 := hide (there_below HT1.out hb2 HL1.out)
  have HB2 := hide (HB1.out.trans (hb2.mono HB1.out.size))
  have HL2 : Hid (w.heap.size < w2.heap.size) := Nat.lt_of_lt_of_le HL1.out hb2.size
  clear hb2 HT1 HB1 HL1
  rcases hx with ⟨a, ha, rfl⟩ | ⟨hn, rfl⟩
  · have HA := hide ha
    clear ha
    go_wp2_with fail
    refine (unescape_any V true w2 HVs.out ea (HE.out.below HB2.out)).mono ?_
    rintro x w3 ⟨hb3, hx⟩
    have HT3 := hide (there_below HT2.out hb3 HL2.out)
    have HB3 := hide (HB2.out.trans (hb3.mono HB2.out.size))
    have HL3 : Hid (w.heap.size < w3.heap.size) := Nat.lt_of_lt_of_le HL2.out hb3.size
    clear hb3 HT2 HB2 HL2
    have f0 : w3.frozen? ⟨w.heap.size, 0, none⟩ = false := by simpa using (HT3.out 0 (by decide)).2
    have f1 : w3.frozen? ⟨w.heap.size, 1, none⟩ = false := by simpa using (HT3.out 1 (by decide)).2
    obtain ⟨u0, hu0⟩ : ∃ v, w3.cell? ⟨w.heap.size, 0, none⟩ = some v := Option.isSome_iff_exists.1 (by simpa using (HT3.out 0 (by decide)).1)
    obtain ⟨u1, hu1⟩ : ∃ v, w3.cell? ⟨w.heap.size, 1, none⟩ = some v := Option.isSome_iff_exists.1 (by simpa using (HT3.out 1 (by decide)).1)
    rcases hx with ⟨b, hb, rfl⟩ | ⟨hn, rfl⟩
    · have HP2 : Hid (Pct.pair p.data.toList = some (a, b)) := by show _ = _; rw [HPP.out, HA.out, hb]
      clear hb
      go_wp2_with fail
      refine bodyPost_ret (v := .tuple #[.agg #[S a, S b], .nilIface]) (results_ct (b := w.heap.size) (o := 0) (cs := [S a, S b]) Tryz.results41 _ rfl (two_set w3 _ _ _ HT3.out) Tryz.underlying35 rfl lst.sizeP rfl) rfl ⟨(HB3.out.setCell (Nat.le_refl _) _).setCell (Nat.le_refl _) _, Or.inl ⟨a, b, HP2.out, rfl⟩⟩
    · have HP2 : Hid (Pct.pair p.data.toList = none) := by show _ = _; rw [HPP.out, HA.out, hn]
      clear hn
      go_wp2_with fail
      first
        | (refine bodyPost_ret (v := .tuple #[.agg #[.string ⟨#[]⟩, .string ⟨#[]⟩], X ea]) (results_ct (b := w.heap.size) (o := 0) (cs := [.string ⟨#[]⟩, .string ⟨#[]⟩]) Tryz.results41 _ rfl (two_set w3 _ _ _ HT3.out) Tryz.underlying35 rfl lst.sizeP rfl) rfl ⟨(HB3.out.setCell (Nat.le_refl _) _).setCell (Nat.le_refl _) _, Or.inr ⟨HP2.out, rfl⟩⟩)
        | (go_region
           all_goals
             go_wp2_with fail
             refine bodyPost_ret (v := .tuple #[.agg #[.string ⟨#[]⟩, .string ⟨#[]⟩], X ea]) (results_ct (b := w.heap.size) (o := 0) (cs := [.string ⟨#[]⟩, .string ⟨#[]⟩]) Tryz.results41 _ rfl (two_set w3 _ _ _ HT3.out) Tryz.underlying35 rfl lst.sizeP rfl) rfl ⟨((HB3.out.setCell (Nat.le_refl _) _).setCell (Nat.le_refl _) _).drew, Or.inr ⟨HP2.out, rfl⟩⟩)
  · have HP2 : Hid (Pct.pair p.data.toList = none) := by
      show _ = _; rw [HPP.out, hn]
    clear hn
    have f0 : w2.frozen? ⟨w.heap.size, 0, none⟩ = false := by simpa using (HT2.out 0 (by decide)).2
    have f1 : w2.frozen? ⟨w.heap.size, 1, none⟩ = false := by simpa using (HT2.out 1 (by decide)).2
    obtain ⟨u0, hu0⟩ : ∃ v, w2.cell? ⟨w.heap.size, 0, none⟩ = some v := Option.isSome_iff_exists.1 (by simpa using (HT2.out 0 (by decide)).1)
    obtain ⟨u1, hu1⟩ : ∃ v, w2.cell? ⟨w.heap.size, 1, none⟩ = some v := Option.isSome_iff_exists.1 (by simpa using (HT2.out 1 (by decide)).1)
    go_wp2_with fail
    first
      | (refine bodyPost_ret (v := .tuple #[.agg #[.string ⟨#[]⟩, .string ⟨#[]⟩], X ea]) (results_ct (b := w.heap.size) (o := 0) (cs := [.string ⟨#[]⟩, .string ⟨#[]⟩]) Tryz.results41 _ rfl (two_set w2 _ _ _ HT2.out) Tryz.underlying35 rfl lst.sizeP rfl) rfl ⟨(HB2.out.setCell (Nat.le_refl _) _).setCell (Nat.le_refl _) _, Or.inr ⟨HP2.out, rfl⟩⟩)
      | (go_region
         all_goals
           go_wp2_with fail
           refine bodyPost_ret (v := .tuple #[.agg #[.string ⟨#[]⟩, .string ⟨#[]⟩], X ea]) (results_ct (b := w.heap.size) (o := 0) (cs := [.string ⟨#[]⟩, .string ⟨#[]⟩]) Tryz.results41 _ rfl (two_set w2 _ _ _ HT2.out) Tryz.underlying35 rfl lst.sizeP rfl) rfl ⟨((HB2.out.setCell (Nat.le_refl _) _).setCell (Nat.le_refl _) _).drew, Or.inr ⟨HP2.out, rfl⟩⟩)

end Go.Proofs.YtcpflfpgnbihiaaGreatDoor.pctw
