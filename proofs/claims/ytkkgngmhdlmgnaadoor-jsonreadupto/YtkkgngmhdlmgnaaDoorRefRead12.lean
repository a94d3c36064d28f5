import Derived.Test.YtkkgngmhdlmgnaaDoorRefRead11
namespace Go.Proofs.YtkkgngmhdlmgnaaDoor.jw
open Go.ChangeShapes Go.WideShapes Go.ChangeAt Go.RowKit Go.Proofs.YtkkgngmhdlmgnaaDoor.common
attribute [local go_sem ↓] Go.wp_at_zero Go.wp_at_succ

/-- a member's value -/
abbrev M5 (m : Mem) : Value := .agg #[S m.name, .int .i64 m.kind, S m.text, .int .i64 m.num, .bool m.flag]
def named (name : List UInt8) : Mem := ⟨name, 0, [], 0, false⟩
/-- a member and a place, or -1 -/
def VPl (s : ByteArray) (o : Option (Mem × List UInt8)) (x : Value) : Prop :=
  (o = none ∧ ∃ m, x = .tuple #[M5 m, .int .i64 (-1)]) ∨ ∃ (m : Mem) (r : List UInt8) (b : Nat), o = some (m, r) ∧ b ≤ s.size ∧ x = .tuple #[M5 m, .int .i64 (b : Int)] ∧ s.data.toList.drop b = r

theorem results_ct {fn : Func} {p t : Tmp} {ty : TypeId} {P : Program} {w : World} {b o : Nat} {cs : List Value} {d : TypeDesc} {u : Value} (h : fn.results = #[.cell p ty, .tmp t]) (tmps : Array Value) (hx : tmps.getD p undef = .pointer (some ⟨b, o, none⟩))
    (hc : w.rangeAt b o cs) (hu : P.underlying ty = some d) (hd : d.isRow = true) (hi : (P.info? ty).map (·.size) = some cs.length) (ht : tmps.getD t undef = u) : (results fn tmps).run P w = .ok (.tuple #[.agg cs.toArray, u]) w := by
  have hx' : tmps[p]?.getD undef = .pointer (some ⟨b, o, none⟩) := by simpa using hx
  have ht' : tmps[t]?.getD undef = u := by simpa using ht
  simp only [results, h]
  simp [hx', ht', asAddr, run_loadVar_mid w b o ty cs d hc hu hd hi]
theorem sizeM : (Tryd.prog.info? 37).map (·.size) = some 5 := by kernel_rfl
/-- the last of two new blocks, as a range -/
theorem range_last (w : World) (o : Obj) (cs : List Value) (t : TypeId) : ((w.alloc o).alloc (.cells cs.toArray t)).rangeAt (w.heap.size + 1) 0 cs := by
  intro j u hu
  have := range_new (w.alloc o) cs.toArray t j u (by simpa using hu)
  simpa using this

theorem two_blocks (w : World) (c1 c2 : Array Value) (t : TypeId) : ((w.alloc (.cells c1 t)).alloc (.cells c2 t)).heap[w.heap.size]? = some (.cells c1 t (0, 0)) ∧ ((w.alloc (.cells c1 t)).alloc (.cells c2 t)).heap[w.heap.size + 1]? = some (.cells c2 t (0, 0)) ∧
    Below w.heap.size w ((w.alloc (.cells c1 t)).alloc (.cells c2 t)) ∧ ((w.alloc (.cells c1 t)).alloc (.cells c2 t)).heap.size = w.heap.size + 2 := by
  refine ⟨?_, ?_, ((Below.refl _ _).alloc (Nat.le_refl _) _).alloc (by simp) _, by simp⟩
  · show ((w.heap.push _).push _)[w.heap.size]? = _
    simp [Array.getElem?_push]
  · show ((w.heap.push (.cells c1 t)).push (.cells c2 t))[w.heap.size + 1]? = _
    rw [Array.getElem?_push, if_pos (by simp)]
theorem other_block {w : World} {b B : Nat} (h : b ≠ B) (i : Nat) (v : Value) : (w.setCell ⟨b, i, none⟩ v).heap[B]? = w.heap[B]? := Below.heap_setCell _ _ _ _ (fun e => h e.symm)
/-- five cells stored one behind the other -/
theorem set_five {w : World} {B : Nat} {u0 u1 u2 u3 u4 : Value} {t : TypeId} (h : w.heap[B]? = some (.cells #[u0, u1, u2, u3, u4] t (0, 0))) (x0 x1 x2 x3 x4 : Value) :
    (((((w.setCell ⟨B, 0, none⟩ x0).setCell ⟨B, 1, none⟩ x1).setCell ⟨B, 2, none⟩ x2).setCell ⟨B, 3, none⟩ x3).setCell ⟨B, 4, none⟩ x4).rangeAt B 0 [x0, x1, x2, x3, x4] := by
  have e := set_block (set_block (set_block (set_block (set_block h 0 x0) 1 x1) 2 x2) 3 x3) 4 x4
  intro j u hu
  rw [Lib.cell_of_heap e]
  match j, hu with
  | 0, hu => simpa using hu
  | 1, hu => simpa using hu
  | 2, hu => simpa using hu
  | 3, hu => simpa using hu
  | 4, hu => simpa using hu
theorem below_seven {w0 w : World} {b : Nat} (h : Below b w0 w) (y1 y2 x0 x1 x2 x3 x4 : Value) :
    Below b w0 (((((((w.setCell ⟨b, 1, none⟩ y1).setCell ⟨b, 2, none⟩ y2).setCell ⟨b + 1, 0, none⟩ x0).setCell ⟨b + 1, 1, none⟩ x1).setCell ⟨b + 1, 2, none⟩ x2).setCell ⟨b + 1, 3, none⟩ x3).setCell ⟨b + 1, 4, none⟩ x4) := by
  have h1 : b ≤ b + 1 := by omega
  exact ((((((h.setCell (p := ⟨b, 1, none⟩) (Nat.le_refl _) _).setCell (p := ⟨b, 2, none⟩) (Nat.le_refl _) _).setCell (p := ⟨b + 1, 0, none⟩) h1 _).setCell (p := ⟨b + 1, 1, none⟩) h1 _).setCell (p := ⟨b + 1, 2, none⟩) h1 _).setCell (p := ⟨b + 1, 3, none⟩) h1 _).setCell (p := ⟨b + 1, 4, none⟩) h1 _
theorem other_two {w : World} {b : Nat} {o : Obj} (h : w.heap[b + 1]? = some o) (y1 y2 : Value) : ((w.setCell ⟨b, 1, none⟩ y1).setCell ⟨b, 2, none⟩ y2).heap[b + 1]? = some o := by
  rw [other_block (by omega), other_block (by omega)]; exact h

set_option maxRecDepth 100000 in
set_option maxHeartbeats 1600000 in
theorem refValue_none (s n : ByteArray) (w : World) :
    Calls Tryd.prog 52 #[.string s, .int .i64 (-1), .agg #[.string n, .int .i64 0, .string ⟨#[]⟩, .int .i64 0, .bool false]] w fun x w' => x = .returned (.tuple #[.agg #[.string n, .int .i64 0, .string ⟨#[]⟩, .int .i64 0, .bool false], .int .i64 (-1)]) ∧ Below w.heap.size w w' := by
  go_enter Tryd.func52, Tryd.ntmps52
  go_wp2_with fail
  refine bodyPost_ret (results_ct (b := w.heap.size + 1) (o := 0) Tryd.results52 _ rfl (range_last _ _ _ _) Tryd.underlying37 rfl sizeM rfl) rfl ⟨rfl, ((Below.refl _ _).alloc (Nat.le_refl _) _).alloc (by simp) _⟩

set_option maxRecDepth 100000 in
set_option maxHeartbeats 1600000 in
theorem refValue_any (s n : ByteArray) (a : Nat) (w : World) (hs : s.size ≤ 140737488351232) (ha : a ≤ s.size) (I : Int) (hI : I = (a : Int)) :
    Calls Tryd.prog 52 #[.string s, .int .i64 I, .agg #[.string n, .int .i64 0, .string ⟨#[]⟩, .int .i64 0, .bool false]] w fun x w' => (∃ v, x = .returned v ∧ VPl s ((Json.valueR (s.data.toList.drop a)).map fun q => ({ q.1 with name := n.data.toList }, q.2)) v) ∧ Below w.heap.size w w' := by
  have HI := hide hI
  have i0 : ¬ I < 0 := by omega
  obtain ⟨O, hO⟩ : ∃ O, Json.valueR (s.data.toList.drop a) = O := ⟨_, rfl⟩
  have HO := hide hO
  rw [hO]
  clear hO
  by_cases hlt : a < s.size
  · have i1 : ¬ (s.size : Int) ≤ I := by omega
    have i2 : I < (s.size : Int) := by omega
    have i3 : I.toNat = a := by omega
    have i4 : (0 : Int) ≤ I := by omega
    have HW1 := hide (fun W => refWord_any s ⟨#[116, 114, 117, 101]⟩ a W (by omega) (by decide) ha I HI.out)
    have HW2 := hide (fun W => refWord_any s ⟨#[102, 97, 108, 115, 101]⟩ a W (by omega) (by decide) ha I HI.out)
    rw [show (⟨#[116, 114, 117, 101]⟩ : ByteArray).data.toList = [116, 114, 117, 101] from rfl] at HW1
    rw [show (⟨#[102, 97, 108, 115, 101]⟩ : ByteArray).data.toList = [102, 97, 108, 115, 101] from rfl] at HW2
    clear hI
    by_cases h1 : List.isPrefixOf [116, 114, 117, 101] (s.data.toList.drop a) = true
    · rw [h1] at HW1
      have HV : Hid (O = some (Json.flagMem true, s.data.toList.drop (a + 4)) ∧ a + 4 ≤ s.size) := by
        have hw : Json.word [116, 114, 117, 101] (s.data.toList.drop a) = some (s.data.toList.drop (a + 4)) := by
          unfold Json.word; rw [if_pos h1, List.drop_drop]; rfl
        refine ⟨?_, ?_⟩
        · rw [← HO.out]; unfold Json.valueR; rw [hw]
        · have := (Json.word_le hw).1
          rw [List.length_drop, List.length_drop, len_list] at this
          simp at this; omega
      generalize List.isPrefixOf [102, 97, 108, 115, 101] (s.data.toList.drop a) = b2 at *
      clear h1
      go_enter Tryd.func52, Tryd.ntmps52
      go_wp2_with fail
      refine (HW1.out _).mono ?_
      rintro x w1 ⟨rfl, hw1⟩
      obtain rfl := hw1
      go_wp2_with fail
      refine (HW2.out _).mono ?_
      rintro x w1 ⟨rfl, hw1⟩
      obtain rfl := hw1
      go_wp2_with fail
      refine bodyPost_ret (results_ct (b := w.heap.size + 1) (o := 0) Tryd.results52 _ rfl (range_last _ _ _ _) Tryd.underlying37 rfl sizeM rfl) rfl ⟨⟨_, rfl, ?_⟩, ((Below.refl _ _).alloc (Nat.le_refl _) _).alloc (by simp) _⟩
      exact Or.inr ⟨_, _, a + 4, by rw [HV.out.1]; rfl, HV.out.2, by rw [show ((a + 4 : Nat) : Int) = I + 4 by have := HI.out; omega]; rfl, rfl⟩
    · have h1f : List.isPrefixOf [116, 114, 117, 101] (s.data.toList.drop a) = false := Bool.eq_false_iff.2 h1
      have hw1 : Json.word [116, 114, 117, 101] (s.data.toList.drop a) = none := by unfold Json.word; rw [if_neg h1]
      rw [h1f] at HW1
      by_cases h2 : List.isPrefixOf [102, 97, 108, 115, 101] (s.data.toList.drop a) = true
      · rw [h2] at HW2
        have HV : Hid (O = some (Json.flagMem false, s.data.toList.drop (a + 5)) ∧ a + 5 ≤ s.size) := by
          have hw : Json.word [102, 97, 108, 115, 101] (s.data.toList.drop a) = some (s.data.toList.drop (a + 5)) := by
            unfold Json.word; rw [if_pos h2, List.drop_drop]; rfl
          refine ⟨?_, ?_⟩
          · rw [← HO.out]; unfold Json.valueR; rw [hw1, hw]
          · have := (Json.word_le hw).1
            rw [List.length_drop, List.length_drop, len_list] at this
            simp at this; omega
        clear h1 h2 h1f hw1
        go_enter Tryd.func52, Tryd.ntmps52
        go_wp2_with fail
        refine (HW1.out _).mono ?_
        rintro x w1 ⟨rfl, hw1⟩
        obtain rfl := hw1
        go_wp2_with fail
        refine (HW2.out _).mono ?_
        rintro x w1 ⟨rfl, hw1⟩
        obtain rfl := hw1
        go_wp2_with fail
        refine bodyPost_ret (results_ct (b := w.heap.size + 1) (o := 0) Tryd.results52 _ rfl (range_last _ _ _ _) Tryd.underlying37 rfl sizeM rfl) rfl ⟨⟨_, rfl, ?_⟩, ((Below.refl _ _).alloc (Nat.le_refl _) _).alloc (by simp) _⟩
        exact Or.inr ⟨_, _, a + 5, by rw [HV.out.1]; rfl, HV.out.2, by rw [show ((a + 5 : Nat) : Int) = I + 5 by have := HI.out; omega]; rfl, rfl⟩
      · have h2f : List.isPrefixOf [102, 97, 108, 115, 101] (s.data.toList.drop a) = false := Bool.eq_false_iff.2 h2
        have hw2 : Json.word [102, 97, 108, 115, 101] (s.data.toList.drop a) = none := by unfold Json.word; rw [if_neg h2]
        rw [h2f] at HW2
        have HHd : Hid ((s.data.toList.drop a).head? = some s[a]) := by show _ = _; rw [drop_cons s a hlt]; rfl
        by_cases h34 : s[a] = 34
        · have HV : Hid (O = match Json.quoted (s.data.toList.drop a) with | none => none | some (t, r) => some (Json.textMem t, r)) := by
            show _ = _
            rw [← HO.out]; unfold Json.valueR; rw [hw1, hw2, HHd.out, h34]
            exact if_pos rfl
          have p1 : (s[a].toNat : Int) = 34 := by rw [h34]; rfl
          clear h1 h2 h1f hw1 h2f hw2 h34
          go_enter Tryd.func52, Tryd.ntmps52
          go_wp2_with fail
          refine (HW1.out _).mono ?_
          rintro x w1 ⟨rfl, hw1⟩
          obtain rfl := hw1
          go_wp2_with fail
          refine (HW2.out _).mono ?_
          rintro x w1 ⟨rfl, hw1⟩
          obtain rfl := hw1
          go_wp2_with fail
          obtain ⟨hB0, hB1, hBl, hBs⟩ := two_blocks w #[.string n, .int .i64 0, .string ⟨#[]⟩, .int .i64 0, .bool false] #[.string ⟨#[]⟩, .int .i64 0, .string ⟨#[]⟩, .int .i64 0, .bool false] 37
          generalize (w.alloc (.cells #[.string n, .int .i64 0, .string ⟨#[]⟩, .int .i64 0, .bool false] 37)).alloc (.cells #[.string ⟨#[]⟩, .int .i64 0, .string ⟨#[]⟩, .int .i64 0, .bool false] 37) = W at *
          refine (refQText_any s a W hs ha I HI.out).mono ?_
          rintro x w2 ⟨⟨v1, rfl, hv1⟩, hb2⟩
          have h0 := (hb2.block w.heap.size (by omega)).trans hB0
          have h1 := (hb2.block (w.heap.size + 1) (by omega)).trans hB1
          have HB2 := hide (hBl.trans (hb2.mono (by omega)))
          clear hB0 hB1 hBl hBs hb2
          have c0 : w2.cell? ⟨w.heap.size, 0, none⟩ = some (.string n) := by rw [Lib.cell_of_heap h0]; rfl
          have c1 : w2.cell? ⟨w.heap.size, 1, none⟩ = some (.int .i64 0) := by rw [Lib.cell_of_heap h0]; rfl
          have c2 : w2.cell? ⟨w.heap.size, 2, none⟩ = some (.string ⟨#[]⟩) := by rw [Lib.cell_of_heap h0]; rfl
          have c3 : w2.cell? ⟨w.heap.size, 3, none⟩ = some (.int .i64 0) := by rw [Lib.cell_of_heap h0]; rfl
          have c4 : w2.cell? ⟨w.heap.size, 4, none⟩ = some (.bool false) := by rw [Lib.cell_of_heap h0]; rfl
          have f0 := Lib.frozen_of_heap h0
          have f1 := Lib.frozen_of_heap h1
          have d0 : w2.cell? ⟨w.heap.size + 1, 0, none⟩ = some (.string ⟨#[]⟩) := by rw [Lib.cell_of_heap h1]; rfl
          have d1 : w2.cell? ⟨w.heap.size + 1, 1, none⟩ = some (.int .i64 0) := by rw [Lib.cell_of_heap h1]; rfl
          have d2 : w2.cell? ⟨w.heap.size + 1, 2, none⟩ = some (.string ⟨#[]⟩) := by rw [Lib.cell_of_heap h1]; rfl
          have d3 : w2.cell? ⟨w.heap.size + 1, 3, none⟩ = some (.int .i64 0) := by rw [Lib.cell_of_heap h1]; rfl
          have d4 : w2.cell? ⟨w.heap.size + 1, 4, none⟩ = some (.bool false) := by rw [Lib.cell_of_heap h1]; rfl
          have H0 := hide h0
          have H1 := hide h1
          clear h0 h1
          rcases hv1 with ⟨hn, rfl⟩ | ⟨t, r, b, hn, hbs, rfl, hdr⟩
          · have HN : Hid (O = none) := by show _ = _; rw [HV.out, hn]
            clear hn
            go_wp2_with fail
            refine bodyPost_ret (results_ct (b := w.heap.size + 1) (o := 0) Tryd.results52 _ rfl (set_five (other_two H1.out _ _) _ _ _ _ _) Tryd.underlying37 rfl sizeM rfl) rfl ⟨⟨_, rfl, ?_⟩, below_seven HB2.out _ _ _ _ _ _ _⟩
            exact Or.inl ⟨by rw [HN.out]; rfl, ⟨n.data.toList, 1, [], 0, false⟩, rfl⟩
          · have HN : Hid (O = some (Json.textMem t, r)) := by show _ = _; rw [HV.out, hn]
            have HDR := hide hdr
            clear hn hdr
            go_wp2_with fail
            refine bodyPost_ret (results_ct (b := w.heap.size + 1) (o := 0) Tryd.results52 _ rfl (set_five (other_two H1.out _ _) _ _ _ _ _) Tryd.underlying37 rfl sizeM rfl) rfl ⟨⟨_, rfl, ?_⟩, below_seven HB2.out _ _ _ _ _ _ _⟩
            exact Or.inr ⟨_, _, b, by rw [HN.out]; rfl, hbs, rfl, HDR.out⟩
        · have HV : Hid (O = match Json.numberR (s.data.toList.drop a) with | none => none | some (t, r) => some (Json.numMem t, r)) := by
            show _ = _
            rw [← HO.out]; unfold Json.valueR; rw [hw1, hw2, HHd.out]
            exact if_neg (by intro h; injection h with h; exact h34 h)
          have p1 : ((s[a].toNat : Int) == 34) = false := beq_false_of_ne (fun e => h34 (UInt8.toNat_inj.1 (by show _ = 34; omega)))
          clear h1 h2 h1f hw1 h2f hw2 h34
          go_enter Tryd.func52, Tryd.ntmps52
          go_wp2_with fail
          refine (HW1.out _).mono ?_
          rintro x w1 ⟨rfl, hw1⟩
          obtain rfl := hw1
          go_wp2_with fail
          refine (HW2.out _).mono ?_
          rintro x w1 ⟨rfl, hw1⟩
          obtain rfl := hw1
          go_wp2_with fail
          refine (refNumber_any s a _ (by omega) hlt I HI.out).mono ?_
          rintro x w1 ⟨⟨v1, rfl, hv1⟩, hw1⟩
          obtain rfl := hw1
          rcases hv1 with ⟨hn, rfl⟩ | ⟨q, r, b, hn, hbs, rfl, hdr⟩
          · have HN : Hid (O = none) := by show _ = _; rw [HV.out, hn]
            clear hn
            go_wp2_with fail
            refine bodyPost_ret (results_ct (b := w.heap.size + 1) (o := 0) Tryd.results52 _ rfl (range_last _ _ _ _) Tryd.underlying37 rfl sizeM rfl) rfl ⟨⟨_, rfl, ?_⟩, ((Below.refl _ _).alloc (Nat.le_refl _) _).alloc (by simp) _⟩
            exact Or.inl ⟨by rw [HN.out]; rfl, ⟨n.data.toList, 2, [], 0, false⟩, rfl⟩
          · have HN : Hid (O = some (Json.numMem q, r)) := by show _ = _; rw [HV.out, hn]
            have HDR := hide hdr
            clear hn hdr
            go_wp2_with fail
            refine bodyPost_ret (results_ct (b := w.heap.size + 1) (o := 0) Tryd.results52 _ rfl (range_last _ _ _ _) Tryd.underlying37 rfl sizeM rfl) rfl ⟨⟨_, rfl, ?_⟩, ((Below.refl _ _).alloc (Nat.le_refl _) _).alloc (by simp) _⟩
            exact Or.inr ⟨_, _, b, by rw [HN.out]; rfl, hbs, rfl, HDR.out⟩
  · have i1 : (s.size : Int) ≤ I := by omega
    have HN : Hid (O = none) := by show _ = _; rw [← HO.out, drop_end s a hlt]; rfl
    clear hI
    go_enter Tryd.func52, Tryd.ntmps52
    go_wp2_with fail
    refine bodyPost_ret (results_ct (b := w.heap.size + 1) (o := 0) Tryd.results52 _ rfl (range_last _ _ _ _) Tryd.underlying37 rfl sizeM rfl) rfl ⟨⟨_, rfl, ?_⟩, ((Below.refl _ _).alloc (Nat.le_refl _) _).alloc (by simp) _⟩
    exact Or.inl ⟨by rw [HN.out]; rfl, ⟨n.data.toList, 0, [], 0, false⟩, rfl⟩
end Go.Proofs.YtkkgngmhdlmgnaaDoor.jw
