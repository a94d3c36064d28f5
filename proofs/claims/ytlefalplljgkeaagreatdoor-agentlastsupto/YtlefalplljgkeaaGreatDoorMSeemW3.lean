import Derived.Test.YtlefalplljgkeaaGreatDoorMSeemW2
namespace Go.Proofs.YtlefalplljgkeaaGreatDoor.fd
open Go.ChangeShapes Go.WideShapes Go.ChangeAt Go.RowKit Go.Proofs.YtlefalplljgkeaaGreatDoor.common Go.Proofs.YtlefalplljgkeaaGreatDoor.bk
attribute [local go_sem ↓] Go.wp_at_zero Go.wp_at_succ

def ckC (n v : ByteArray) (m : Int) : Value := .agg #[.string n, .string v, .int .i64 m]
/-- what ReadSetCookie answers -/
def RdOut (l : List UInt8) (xe xn : Value) (x : Ending) : Prop :=
  (∃ n v m, Good l n v m ∧ x = .returned (.tuple #[ckC n v m, xn])) ∨ ((∀ n v m, ¬ Good l n v m) ∧ x = .returned (.tuple #[ckC ⟨#[]⟩ ⟨#[]⟩ 0, xe]))
set_option maxRecDepth 100000 in
set_option maxHeartbeats 3200000 in
theorem readSet_any (s : ByteArray) (w : World) (ea : Addr) (hs : s.size ≤ 4194304) (h : Env6 w ea) :
    Calls Tryz.prog 41 #[.string s] w fun e w' => RdOut s.data.toList (X ea) .nilIface e ∧ Below w.heap.size w w' := by
  have hl := cut_lens 61 s.data.toList
  have hl2 := cut_lens 59 (behind 61 s.data.toList)
  rw [len_list] at hl
  have HE := hide h
  have H1 := hide (fun W (hW : Env6 W ea) => seemingCookie_any s W ea hs hW)
  have HSC : Hid (seemC s.data.toList = .agg #[S (seemN s.data.toList), S (seemV s.data.toList), .int .i64 (seemA s.data.toList)]) := rfl
  rw [HSC.out] at H1
  have hin : inR (seemA s.data.toList) := seemAge_in _
  have hsz : (⟨(seemN s.data.toList).toArray⟩ : ByteArray).size + (⟨(seemV s.data.toList).toArray⟩ : ByteArray).size ≤ 4611686018427387000 := by
    rw [str_size, str_size]; unfold seemN seemV; omega
  have H2 := hide (fun W (hW : Env6 W ea) => setCookie_any ⟨(seemN s.data.toList).toArray⟩ ⟨(seemV s.data.toList).toArray⟩ (seemA s.data.toList) W hin hsz hW.pow (X ea) hW.txt)
  have HG := hide (seem_good s.data.toList)
  have HBD := hide (seem_bad s.data.toList)
  have HEQ : Hid (∀ A : ByteArray, A.data.toList = s.data.toList ↔ A = s) := fun A => ⟨fun e => ba_ext e, fun e => by rw [e]⟩
  clear h hl hl2 HSC hin hsz
  generalize seemN s.data.toList = N1 at *
  generalize seemV s.data.toList = V1 at *
  generalize seemA s.data.toList = A1 at *
  have HRO : Hid (∀ x, RdOut s.data.toList (X ea) .nilIface x = ((∃ n v m, Good s.data.toList n v m ∧ x = .returned (.tuple #[ckC n v m, .nilIface])) ∨ ((∀ n v m, ¬ Good s.data.toList n v m) ∧ x = .returned (.tuple #[ckC ⟨#[]⟩ ⟨#[]⟩ 0, X ea])))) := fun _ => rfl
  obtain ⟨W0, hW0⟩ : ∃ W0 : World, W0 = w.alloc (.cells #[.string ⟨#[]⟩, .string ⟨#[]⟩, .int .i64 0] 30) := ⟨_, rfl⟩
  have HBL : Hid (Below w.heap.size w W0) := by rw [hW0]; exact (Below.refl _ _).alloc (Nat.le_refl _) _
  have HLT : Hid (w.heap.size < W0.heap.size) := by show _ < _; rw [hW0]; simp
  have HC0 : Hid (∀ X, Below W0.heap.size W0 X → X.cell? ⟨w.heap.size, 0, none⟩ = some (.string ⟨#[]⟩) ∧ X.cell? ⟨w.heap.size, 1, none⟩ = some (.string ⟨#[]⟩) ∧ X.cell? ⟨w.heap.size, 2, none⟩ = some (.int .i64 0) ∧ (∀ i, X.frozen? ⟨w.heap.size, i, none⟩ = false)) := by
    intro X hX
    refine ⟨?_, ?_, ?_, ?_⟩
    · rw [hX.cell (p := ⟨w.heap.size, 0, none⟩) HLT.out, hW0]; exact range_new w #[.string ⟨#[]⟩, .string ⟨#[]⟩, .int .i64 0] _ 0 _ rfl
    · rw [hX.cell (p := ⟨w.heap.size, 1, none⟩) HLT.out, hW0]; exact range_new w #[.string ⟨#[]⟩, .string ⟨#[]⟩, .int .i64 0] _ 1 _ rfl
    · rw [hX.cell (p := ⟨w.heap.size, 2, none⟩) HLT.out, hW0]; exact range_new w #[.string ⟨#[]⟩, .string ⟨#[]⟩, .int .i64 0] _ 2 _ rfl
    · intro i; rw [hX.frozen (p := ⟨w.heap.size, i, none⟩) HLT.out, hW0]; exact World.frozen?_alloc_at _ _ _ _ rfl
  have HW0 := hide hW0
  clear hW0
  go_enter Tryz.func41, Tryz.ntmps41
  go_wp2_with fail
  rw [← HW0.out]
  refine (H1.out W0 (HE.out.below HBL.out)).mono ?_
  rintro x w1 ⟨rfl, hb1⟩
  have HB1 := hide hb1
  clear hb1
  go_wp2_with fail
  obtain ⟨x0, x1, x2, hbl1⟩ := box3 w1 (S N1) (S V1) (.int .i64 A1) 30
  have HBL1 := hide (keepD HB1.out hbl1)
  clear hbl1
  generalize w1.alloc (.cells #[S N1, S V1, .int .i64 A1] 30) = W1 at *
  refine (H2.out W1 ((HE.out.below HBL.out).below HBL1.out)).mono ?_
  rintro x w2 ⟨rfl, hb2⟩
  have y0 := x0 w2 hb2
  have y1 := x1 w2 hb2
  have y2 := x2 w2 hb2
  have HB2 := hide (keepD HBL1.out hb2)
  clear hb2 x0 x1 x2 H1 H2
  obtain ⟨c0, c1, c2, hf⟩ := HC0.out w2 HB2.out
  have f0 := hf 0
  have f1 := hf 1
  have f2 := hf 2
  have hx : w2.cell? ⟨0, 0, none⟩ = some (X ea) := ((HE.out.below HBL.out).below HB2.out).txt
  have HBw := hide (HBL.out.trans (HB2.out.mono HBL.out.size))
  have hge : 0 < w.heap.size := HE.out.txt.lt
  have hx1 : (w2.setCell ⟨w.heap.size, 0, none⟩ (.string ⟨#[]⟩)).cell? ⟨0, 0, none⟩ = some (X ea) := (World.cell?_setCell_other (h := by intro e; injection e with e; omega) ..).trans hx
  clear hf
  cases hck : isCk ⟨N1.toArray⟩ ⟨V1.toArray⟩ with
  | false =>
    have HNO := hide (HBD.out (fun h => by rw [hck] at h; cases h.1))
    rw [if_neg (by decide)]
    clear hck HBD HG
    go_wp2_with fail
    go_region
    all_goals (try go_wp2)
    all_goals refine bodyPost_ret (v := .tuple #[ckC ⟨#[]⟩ ⟨#[]⟩ 0, X ea]) (results_ct (b := w.heap.size) (o := 0) (cs := [.string ⟨#[]⟩, .string ⟨#[]⟩, .int .i64 0]) Tryz.results41 _ rfl ?_ Tryz.underlying30 rfl sizeCk rfl) rfl ⟨?_, ?_⟩
    all_goals first
      | exact Or.inr ⟨HNO.out, rfl⟩
      | exact (((HBw.out.setCell (p := ⟨w.heap.size, 0, none⟩) (Nat.le_refl _) _).setCell (p := ⟨w.heap.size, 1, none⟩) (Nat.le_refl _) _).setCell (p := ⟨w.heap.size, 2, none⟩) (Nat.le_refl _) _).drew
      | exact ((((HBw.out.drew).setCell (p := ⟨w.heap.size, 0, none⟩) (Nat.le_refl _) _).setCell (p := ⟨w.heap.size, 1, none⟩) (Nat.le_refl _) _).setCell (p := ⟨w.heap.size, 2, none⟩) (Nat.le_refl _) _)
      | exact three_put w2 w.heap.size _ _ _ _ _ _ c0 c1 c2
      | exact three_put w2.drew w.heap.size _ _ _ _ _ _ c0 c1 c2
  | true =>
    rw [if_pos rfl]
    by_cases heq : setB ⟨N1.toArray⟩ ⟨V1.toArray⟩ A1 = s
    · have HGD := hide (HG.out hck (by rw [heq]))
      rw [heq]
      clear hck HBD HG heq
      go_wp2_with fail
      refine bodyPost_ret (v := .tuple #[ckC ⟨N1.toArray⟩ ⟨V1.toArray⟩ A1, .nilIface]) (results_ct (b := w.heap.size) (o := 0) (cs := [S N1, S V1, .int .i64 A1]) Tryz.results41 _ rfl (three_put w2 w.heap.size _ _ _ _ _ _ c0 c1 c2) Tryz.underlying30 rfl sizeCk rfl) rfl ⟨Or.inl ⟨_, _, _, HGD.out, rfl⟩, ((HBw.out.setCell (p := ⟨w.heap.size, 0, none⟩) (Nat.le_refl _) _).setCell (p := ⟨w.heap.size, 1, none⟩) (Nat.le_refl _) _).setCell (p := ⟨w.heap.size, 2, none⟩) (Nat.le_refl _) _⟩
    · have hn1 := bk.ne_list heq
      have HNO := hide (HBD.out (fun h => heq (ba_ext h.2)))
      clear hck HBD HG
      generalize setB ⟨N1.toArray⟩ ⟨V1.toArray⟩ A1 = T at *
      go_wp2_with fail
      go_region
      all_goals (try go_wp2)
      all_goals refine bodyPost_ret (v := .tuple #[ckC ⟨#[]⟩ ⟨#[]⟩ 0, X ea]) (results_ct (b := w.heap.size) (o := 0) (cs := [.string ⟨#[]⟩, .string ⟨#[]⟩, .int .i64 0]) Tryz.results41 _ rfl ?_ Tryz.underlying30 rfl sizeCk rfl) rfl ⟨?_, ?_⟩
      all_goals first
        | exact Or.inr ⟨HNO.out, rfl⟩
        | exact (((HBw.out.setCell (p := ⟨w.heap.size, 0, none⟩) (Nat.le_refl _) _).setCell (p := ⟨w.heap.size, 1, none⟩) (Nat.le_refl _) _).setCell (p := ⟨w.heap.size, 2, none⟩) (Nat.le_refl _) _).drew
        | exact ((((HBw.out.drew).setCell (p := ⟨w.heap.size, 0, none⟩) (Nat.le_refl _) _).setCell (p := ⟨w.heap.size, 1, none⟩) (Nat.le_refl _) _).setCell (p := ⟨w.heap.size, 2, none⟩) (Nat.le_refl _) _)
        | exact three_put w2 w.heap.size _ _ _ _ _ _ c0 c1 c2
        | exact three_put w2.drew w.heap.size _ _ _ _ _ _ c0 c1 c2

end Go.Proofs.YtlefalplljgkeaaGreatDoor.fd
