import Derived.Test.YtkkgngmhdlmgnaaDoorRefReadB
import Derived.Test.YtkkgngmhdlmgnaaDoorRefReadM
import Derived.Test.YtkkgngmhdlmgnaaDoorRefObj
import Derived.Test.YtkkgngmhdlmgnaaDoorReadForm
namespace Go.Proofs.YtkkgngmhdlmgnaaDoor.jw
open Go.ChangeShapes Go.WideShapes Go.ChangeAt Go.RowKit Go.Proofs.YtkkgngmhdlmgnaaDoor.common
attribute [local go_sem ↓] Go.wp_at_zero Go.wp_at_succ

/-- a member's value -/
abbrev M5 (m : Mem) : Value := .agg #[S m.name, .int .i64 m.kind, S m.text, .int .i64 m.num, .bool m.flag]
def named (name : List UInt8) : Mem := ⟨name, 0, [], 0, false⟩
/-- a member and a place, or -1 -/
def VPl (s : ByteArray) (o : Option (Mem × List UInt8)) (x : Value) : Prop :=
  (o = none ∧ ∃ m, x = .tuple #[M5 m, .int .i64 (-1)]) ∨ ∃ (m : Mem) (r : List UInt8) (b : Nat), o = some (m, r) ∧ b ≤ s.size ∧ x = .tuple #[M5 m, .int .i64 (b : Int)] ∧ s.data.toList.drop b = r

theorem results_ct {fn : Func} {p t : Tmp} {ty : TypeId} {P : Program} {w : World} {b o : Nat} {cs : List Value} {d : TypeDesc} {u : Value} (h : fn.results = #[.cell p ty, .tmp t]) (tmps : Array Value) (hx : tmps.getD p undef = .pointer (some ⟨b, o, none⟩))
    (hc : w.rangeAt b o cs) (hu : P.underlying ty = some d) (hd : d.isRow = true) (hi : (P.info? ty).map (·.size) = some cs.length) (ht : tmps.getD t undef = u) : (results fn tmps).run P w = .ok (.tuple #[.agg cs.toArray, u]) w := by
  have hx' : tmps[p]?.getD undef = .pointer (some ⟨b, o, none⟩) := by simpa using hx
  have ht' : tmps[t]?.getD undef = u := by simpa using ht
  simp only [results, h]
  simp [hx', ht', asAddr, run_loadVar_mid w b o ty cs d hc hu hd hi]
theorem sizeM : (Tryd.prog.info? 37).map (·.size) = some 5 := by kernel_rfl
/-- the last of two new blocks, as a range -/
theorem range_last (w : World) (o : Obj) (cs : List Value) (t : TypeId) : ((w.alloc o).alloc (.cells cs.toArray t)).rangeAt (w.heap.size + 1) 0 cs := by
  intro j u hu
  have := range_new (w.alloc o) cs.toArray t j u (by simpa using hu)
  simpa using this

theorem two_blocks (w : World) (c1 c2 : Array Value) (t : TypeId) : ((w.alloc (.cells c1 t)).alloc (.cells c2 t)).heap[w.heap.size]? = some (.cells c1 t (0, 0)) ∧ ((w.alloc (.cells c1 t)).alloc (.cells c2 t)).heap[w.heap.size + 1]? = some (.cells c2 t (0, 0)) ∧
    Below w.heap.size w ((w.alloc (.cells c1 t)).alloc (.cells c2 t)) ∧ ((w.alloc (.cells c1 t)).alloc (.cells c2 t)).heap.size = w.heap.size + 2 := by
  refine ⟨?_, ?_, ((Below.refl _ _).alloc (Nat.le_refl _) _).alloc (by simp) _, by simp⟩
  · show ((w.heap.push _).push _)[w.heap.size]? = _
    simp [Array.getElem?_push]
  · show ((w.heap.push (.cells c1 t)).push (.cells c2 t))[w.heap.size + 1]? = _
    rw [Array.getElem?_push, if_pos (by simp)]
theorem other_block {w : World} {b B : Nat} (h : b ≠ B) (i : Nat) (v : Value) : (w.setCell ⟨b, i, none⟩ v).heap[B]? = w.heap[B]? := Below.heap_setCell _ _ _ _ (fun e => h e.symm)
/-- five cells stored one behind the other -/
theorem set_five {w : World} {B : Nat} {u0 u1 u2 u3 u4 : Value} {t : TypeId} (h : w.heap[B]? = some (.cells #[u0, u1, u2, u3, u4] t (0, 0))) (x0 x1 x2 x3 x4 : Value) :
    (((((w.setCell ⟨B, 0, none⟩ x0).setCell ⟨B, 1, none⟩ x1).setCell ⟨B, 2, none⟩ x2).setCell ⟨B, 3, none⟩ x3).setCell ⟨B, 4, none⟩ x4).rangeAt B 0 [x0, x1, x2, x3, x4] := by
  have e := set_block (set_block (set_block (set_block (set_block h 0 x0) 1 x1) 2 x2) 3 x3) 4 x4
  intro j u hu
  rw [Lib.cell_of_heap e]
  match j, hu with
  | 0, hu => simpa using hu
  | 1, hu => simpa using hu
  | 2, hu => simpa using hu
  | 3, hu => simpa using hu
  | 4, hu => simpa using hu
theorem below_seven {w0 w : World} {b : Nat} (h : Below b w0 w) (y1 y2 x0 x1 x2 x3 x4 : Value) :
    Below b w0 (((((((w.setCell ⟨b, 1, none⟩ y1).setCell ⟨b, 2, none⟩ y2).setCell ⟨b + 1, 0, none⟩ x0).setCell ⟨b + 1, 1, none⟩ x1).setCell ⟨b + 1, 2, none⟩ x2).setCell ⟨b + 1, 3, none⟩ x3).setCell ⟨b + 1, 4, none⟩ x4) := by
  have h1 : b ≤ b + 1 := by omega
  exact ((((((h.setCell (p := ⟨b, 1, none⟩) (Nat.le_refl _) _).setCell (p := ⟨b, 2, none⟩) (Nat.le_refl _) _).setCell (p := ⟨b + 1, 0, none⟩) h1 _).setCell (p := ⟨b + 1, 1, none⟩) h1 _).setCell (p := ⟨b + 1, 2, none⟩) h1 _).setCell (p := ⟨b + 1, 3, none⟩) h1 _).setCell (p := ⟨b + 1, 4, none⟩) h1 _
theorem other_two {w : World} {b : Nat} {o : Obj} (h : w.heap[b + 1]? = some o) (y1 y2 : Value) : ((w.setCell ⟨b, 1, none⟩ y1).setCell ⟨b, 2, none⟩ y2).heap[b + 1]? = some o := by
  rw [other_block (by omega), other_block (by omega)]; exact h

set_option maxRecDepth 100000 in
set_option maxHeartbeats 1600000 in
theorem refValue_none (s n : ByteArray) (w : World) :
    Calls Tryd.prog 52 #[.string s, .int .i64 (-1), .agg #[.string n, .int .i64 0, .string ⟨#[]⟩, .int .i64 0, .bool false]] w fun x w' => x = .returned (.tuple #[.agg #[.string n, .int .i64 0, .string ⟨#[]⟩, .int .i64 0, .bool false], .int .i64 (-1)]) ∧ Below w.heap.size w w' := by
  go_enter Tryd.func52, Tryd.ntmps52
  go_wp2_with fail
  refine bodyPost_ret (results_ct (b := w.heap.size + 1) (o := 0) Tryd.results52 _ rfl (range_last _ _ _ _) Tryd.underlying37 rfl sizeM rfl) rfl ⟨rfl, ((Below.refl _ _).alloc (Nat.le_refl _) _).alloc (by simp) _⟩

set_option maxRecDepth 100000 in
set_option maxHeartbeats 1600000 in
theorem refValue_any (s n : ByteArray) (a : Nat) (w : World) (hs : s.size ≤ 140737488351232) (ha : a ≤ s.size) (I : Int) (hI : I = (a : Int)) :
    Calls Tryd.prog 52 #[.string s, .int .i64 I, .agg #[.string n, .int .i64 0, .string ⟨#[]⟩, .int .i64 0, .bool false]] w fun x w' => (∃ v, x = .returned v ∧ VPl s ((Json.valueR (s.data.toList.drop a)).map fun q => ({ q.1 with name := n.data.toList }, q.2)) v) ∧ Below w.heap.size w w' := by
  have HI := hide hI
  have i0 : ¬ I < 0 := by omega
  obtain ⟨O, hO⟩ : ∃ O, Json.valueR (s.data.toList.drop a) = O := ⟨_, rfl⟩
  have HO := hide hO
  rw [hO]
  clear hO
  by_cases hlt : a < s.size
  · have i1 : ¬ (s.size : Int) ≤ I := by omega
    have i2 : I < (s.size : Int) := by omega
    have i3 : I.toNat = a := by omega
    have i4 : (0 : Int) ≤ I := by omega
    have HW1 := hide (fun W => refWord_any s ⟨#[116, 114, 117, 101]⟩ a W (by omega) (by decide) ha I HI.out)
    have HW2 := hide (fun W => refWord_any s ⟨#[102, 97, 108, 115, 101]⟩ a W (by omega) (by decide) ha I HI.out)
    rw [show (⟨#[116, 114, 117, 101]⟩ : ByteArray).data.toList = [116, 114, 117, 101] from rfl] at HW1
    rw [show (⟨#[102, 97, 108, 115, 101]⟩ : ByteArray).data.toList = [102, 97, 108, 115, 101] from rfl] at HW2
    clear hI
    by_cases h1 : List.isPrefixOf [116, 114, 117, 101] (s.data.toList.drop a) = true
    · rw [h1] at HW1
      have HV : Hid (O = some (Json.flagMem true, s.data.toList.drop (a + 4)) ∧ a + 4 ≤ s.size) := by
        have hw : Json.word [116, 114, 117, 101] (s.data.toList.drop a) = some (s.data.toList.drop (a + 4)) := by
          unfold Json.word; rw [if_pos h1, List.drop_drop]; rfl
        refine ⟨?_, ?_⟩
        · rw [← HO.out]; unfold Json.valueR; rw [hw]
        · have := (Json.word_le hw).1
          rw [List.length_drop, List.length_drop, len_list] at this
          simp at this; omega
      generalize List.isPrefixOf [102, 97, 108, 115, 101] (s.data.toList.drop a) = b2 at *
      clear h1
      go_enter Tryd.func52, Tryd.ntmps52
      go_wp2_with fail
      refine (HW1.out _).mono ?_
      rintro x w1 ⟨rfl, hw1⟩
      obtain rfl := hw1
      go_wp2_with fail
      refine (HW2.out _).mono ?_
      rintro x w1 ⟨rfl, hw1⟩
      obtain rfl := hw1
      go_wp2_with fail
      refine bodyPost_ret (results_ct (b := w.heap.size + 1) (o := 0) Tryd.results52 _ rfl (range_last _ _ _ _) Tryd.underlying37 rfl sizeM rfl) rfl ⟨⟨_, rfl, ?_⟩, ((Below.refl _ _).alloc (Nat.le_refl _) _).alloc (by simp) _⟩
      exact Or.inr ⟨_, _, a + 4, by rw [HV.out.1]; rfl, HV.out.2, by rw [show ((a + 4 : Nat) : Int) = I + 4 by have := HI.out; omega]; rfl, rfl⟩
    · have h1f : List.isPrefixOf [116, 114, 117, 101] (s.data.toList.drop a) = false := Bool.eq_false_iff.2 h1
      have hw1 : Json.word [116, 114, 117, 101] (s.data.toList.drop a) = none := by unfold Json.word; rw [if_neg h1]
      rw [h1f] at HW1
      by_cases h2 : List.isPrefixOf [102, 97, 108, 115, 101] (s.data.toList.drop a) = true
      · rw [h2] at HW2
        have HV : Hid (O = some (Json.flagMem false, s.data.toList.drop (a + 5)) ∧ a + 5 ≤ s.size) := by
          have hw : Json.word [102, 97, 108, 115, 101] (s.data.toList.drop a) = some (s.data.toList.drop (a + 5)) := by
            unfold Json.word; rw [if_pos h2, List.drop_drop]; rfl
          refine ⟨?_, ?_⟩
          · rw [← HO.out]; unfold Json.valueR; rw [hw1, hw]
          · have := (Json.word_le hw).1
            rw [List.length_drop, List.length_drop, len_list] at this
            simp at this; omega
        clear h1 h2 h1f hw1
        go_enter Tryd.func52, Tryd.ntmps52
        go_wp2_with fail
        refine (HW1.out _).mono ?_
        rintro x w1 ⟨rfl, hw1⟩
        obtain rfl := hw1
        go_wp2_with fail
        refine (HW2.out _).mono ?_
        rintro x w1 ⟨rfl, hw1⟩
        obtain rfl := hw1
        go_wp2_with fail
        refine bodyPost_ret (results_ct (b := w.heap.size + 1) (o := 0) Tryd.results52 _ rfl (range_last _ _ _ _) Tryd.underlying37 rfl sizeM rfl) rfl ⟨⟨_, rfl, ?_⟩, ((Below.refl _ _).alloc (Nat.le_refl _) _).alloc (by simp) _⟩
        exact Or.inr ⟨_, _, a + 5, by rw [HV.out.1]; rfl, HV.out.2, by rw [show ((a + 5 : Nat) : Int) = I + 5 by have := HI.out; omega]; rfl, rfl⟩
      · have h2f : List.isPrefixOf [102, 97, 108, 115, 101] (s.data.toList.drop a) = false := Bool.eq_false_iff.2 h2
        have hw2 : Json.word [102, 97, 108, 115, 101] (s.data.toList.drop a) = none := by unfold Json.word; rw [if_neg h2]
        rw [h2f] at HW2
        have HHd : Hid ((s.data.toList.drop a).head? = some s[a]) := by show _ = _; rw [drop_cons s a hlt]; rfl
        by_cases h34 : s[a] = 34
        · have HV : Hid (O = match Json.quoted (s.data.toList.drop a) with | none => none | some (t, r) => some (Json.textMem t, r)) := by
            show _ = _
            rw [← HO.out]; unfold Json.valueR; rw [hw1, hw2, HHd.out, h34]
            exact if_pos rfl
          have p1 : (s[a].toNat : Int) = 34 := by rw [h34]; rfl
          clear h1 h2 h1f hw1 h2f hw2 h34
          go_enter Tryd.func52, Tryd.ntmps52
          go_wp2_with fail
          refine (HW1.out _).mono ?_
          rintro x w1 ⟨rfl, hw1⟩
          obtain rfl := hw1
          go_wp2_with fail
          refine (HW2.out _).mono ?_
          rintro x w1 ⟨rfl, hw1⟩
          obtain rfl := hw1
          go_wp2_with fail
          obtain ⟨hB0, hB1, hBl, hBs⟩ := two_blocks w #[.string n, .int .i64 0, .string ⟨#[]⟩, .int .i64 0, .bool false] #[.string ⟨#[]⟩, .int .i64 0, .string ⟨#[]⟩, .int .i64 0, .bool false] 37
          generalize (w.alloc (.cells #[.string n, .int .i64 0, .string ⟨#[]⟩, .int .i64 0, .bool false] 37)).alloc (.cells #[.string ⟨#[]⟩, .int .i64 0, .string ⟨#[]⟩, .int .i64 0, .bool false] 37) = W at *
          refine (refQText_any s a W hs ha I HI.out).mono ?_
          rintro x w2 ⟨⟨v1, rfl, hv1⟩, hb2⟩
          have h0 := (hb2.block w.heap.size (by omega)).trans hB0
          have h1 := (hb2.block (w.heap.size + 1) (by omega)).trans hB1
          have HB2 := hide (hBl.trans (hb2.mono (by omega)))
          clear hB0 hB1 hBl hBs hb2
          have c0 : w2.cell? ⟨w.heap.size, 0, none⟩ = some (.string n) := by rw [Lib.cell_of_heap h0]; rfl
          have c1 : w2.cell? ⟨w.heap.size, 1, none⟩ = some (.int .i64 0) := by rw [Lib.cell_of_heap h0]; rfl
          have c2 : w2.cell? ⟨w.heap.size, 2, none⟩ = some (.string ⟨#[]⟩) := by rw [Lib.cell_of_heap h0]; rfl
          have c3 : w2.cell? ⟨w.heap.size, 3, none⟩ = some (.int .i64 0) := by rw [Lib.cell_of_heap h0]; rfl
          have c4 : w2.cell? ⟨w.heap.size, 4, none⟩ = some (.bool false) := by rw [Lib.cell_of_heap h0]; rfl
          have f0 := Lib.frozen_of_heap h0
          have f1 := Lib.frozen_of_heap h1
          have d0 : w2.cell? ⟨w.heap.size + 1, 0, none⟩ = some (.string ⟨#[]⟩) := by rw [Lib.cell_of_heap h1]; rfl
          have d1 : w2.cell? ⟨w.heap.size + 1, 1, none⟩ = some (.int .i64 0) := by rw [Lib.cell_of_heap h1]; rfl
          have d2 : w2.cell? ⟨w.heap.size + 1, 2, none⟩ = some (.string ⟨#[]⟩) := by rw [Lib.cell_of_heap h1]; rfl
          have d3 : w2.cell? ⟨w.heap.size + 1, 3, none⟩ = some (.int .i64 0) := by rw [Lib.cell_of_heap h1]; rfl
          have d4 : w2.cell? ⟨w.heap.size + 1, 4, none⟩ = some (.bool false) := by rw [Lib.cell_of_heap h1]; rfl
          have H0 := hide h0
          have H1 := hide h1
          clear h0 h1
          rcases hv1 with ⟨hn, rfl⟩ | ⟨t, r, b, hn, hbs, rfl, hdr⟩
          · have HN : Hid (O = none) := by show _ = _; rw [HV.out, hn]
            clear hn
            go_wp2_with fail
            refine bodyPost_ret (results_ct (b := w.heap.size + 1) (o := 0) Tryd.results52 _ rfl (set_five (other_two H1.out _ _) _ _ _ _ _) Tryd.underlying37 rfl sizeM rfl) rfl ⟨⟨_, rfl, ?_⟩, below_seven HB2.out _ _ _ _ _ _ _⟩
            exact Or.inl ⟨by rw [HN.out]; rfl, ⟨n.data.toList, 1, [], 0, false⟩, rfl⟩
          · have HN : Hid (O = some (Json.textMem t, r)) := by show _ = _; rw [HV.out, hn]
            have HDR := hide hdr
            clear hn hdr
            go_wp2_with fail
            refine bodyPost_ret (results_ct (b := w.heap.size + 1) (o := 0) Tryd.results52 _ rfl (set_five (other_two H1.out _ _) _ _ _ _ _) Tryd.underlying37 rfl sizeM rfl) rfl ⟨⟨_, rfl, ?_⟩, below_seven HB2.out _ _ _ _ _ _ _⟩
            exact Or.inr ⟨_, _, b, by rw [HN.out]; rfl, hbs, rfl, HDR.out⟩
        · have HV : Hid (O = match Json.numberR (s.data.toList.drop a) with | none => none | some (t, r) => some (Json.numMem t, r)) := by
            show _ = _
            rw [← HO.out]; unfold Json.valueR; rw [hw1, hw2, HHd.out]
            exact if_neg (by intro h; injection h with h; exact h34 h)
          have p1 : ((s[a].toNat : Int) == 34) = false := beq_false_of_ne (fun e => h34 (UInt8.toNat_inj.1 (by show _ = 34; omega)))
          clear h1 h2 h1f hw1 h2f hw2 h34
          go_enter Tryd.func52, Tryd.ntmps52
          go_wp2_with fail
          refine (HW1.out _).mono ?_
          rintro x w1 ⟨rfl, hw1⟩
          obtain rfl := hw1
          go_wp2_with fail
          refine (HW2.out _).mono ?_
          rintro x w1 ⟨rfl, hw1⟩
          obtain rfl := hw1
          go_wp2_with fail
          refine (refNumber_any s a _ (by omega) hlt I HI.out).mono ?_
          rintro x w1 ⟨⟨v1, rfl, hv1⟩, hw1⟩
          obtain rfl := hw1
          rcases hv1 with ⟨hn, rfl⟩ | ⟨q, r, b, hn, hbs, rfl, hdr⟩
          · have HN : Hid (O = none) := by show _ = _; rw [HV.out, hn]
            clear hn
            go_wp2_with fail
            refine bodyPost_ret (results_ct (b := w.heap.size + 1) (o := 0) Tryd.results52 _ rfl (range_last _ _ _ _) Tryd.underlying37 rfl sizeM rfl) rfl ⟨⟨_, rfl, ?_⟩, ((Below.refl _ _).alloc (Nat.le_refl _) _).alloc (by simp) _⟩
            exact Or.inl ⟨by rw [HN.out]; rfl, ⟨n.data.toList, 2, [], 0, false⟩, rfl⟩
          · have HN : Hid (O = some (Json.numMem q, r)) := by show _ = _; rw [HV.out, hn]
            have HDR := hide hdr
            clear hn hdr
            go_wp2_with fail
            refine bodyPost_ret (results_ct (b := w.heap.size + 1) (o := 0) Tryd.results52 _ rfl (range_last _ _ _ _) Tryd.underlying37 rfl sizeM rfl) rfl ⟨⟨_, rfl, ?_⟩, ((Below.refl _ _).alloc (Nat.le_refl _) _).alloc (by simp) _⟩
            exact Or.inr ⟨_, _, b, by rw [HN.out]; rfl, hbs, rfl, HDR.out⟩
  · have i1 : (s.size : Int) ≤ I := by omega
    have HN : Hid (O = none) := by show _ = _; rw [← HO.out, drop_end s a hlt]; rfl
    clear hI
    go_enter Tryd.func52, Tryd.ntmps52
    go_wp2_with fail
    refine bodyPost_ret (results_ct (b := w.heap.size + 1) (o := 0) Tryd.results52 _ rfl (range_last _ _ _ _) Tryd.underlying37 rfl sizeM rfl) rfl ⟨⟨_, rfl, ?_⟩, ((Below.refl _ _).alloc (Nat.le_refl _) _).alloc (by simp) _⟩
    exact Or.inl ⟨by rw [HN.out]; rfl, ⟨n.data.toList, 0, [], 0, false⟩, rfl⟩
end Go.Proofs.YtkkgngmhdlmgnaaDoor.jw

namespace Go.Proofs.YtkkgngmhdlmgnaaDoor.jw
open Go.ChangeShapes Go.WideShapes Go.ChangeAt Go.RowKit Go.Proofs.YtkkgngmhdlmgnaaDoor.common
attribute [local go_sem ↓] Go.wp_at_zero Go.wp_at_succ

/-- a place in s where r is left, or -1 -/
def PlI (s : ByteArray) (o : Option (List UInt8)) (I : Int) : Prop :=
  (o = none ∧ I = -1) ∨ ∃ (r : List UInt8) (b : Nat), o = some r ∧ b ≤ s.size ∧ I = (b : Int) ∧ s.data.toList.drop b = r
theorem PlI.at {s : ByteArray} {a : Nat} (h : a ≤ s.size) : PlI s (some (s.data.toList.drop a)) (a : Int) := Or.inr ⟨_, a, rfl, h, rfl, rfl⟩
theorem QPl.split {s : ByteArray} {o : Option (List UInt8 × List UInt8)} {v : Value} (h : QPl s o v) : ∃ (N : ByteArray) (I : Int), v = .tuple #[.string N, .int .i64 I] ∧ PlI s (o.map (·.2)) I ∧ ∀ t r, o = some (t, r) → N.data.toList = t := by
  rcases h with ⟨rfl, rfl⟩ | ⟨t, r, b, rfl, hb, rfl, hd⟩
  · exact ⟨_, _, rfl, Or.inl ⟨rfl, rfl⟩, fun _ _ h => by cases h⟩
  · exact ⟨_, _, rfl, Or.inr ⟨r, b, rfl, hb, rfl, hd⟩, fun _ _ h => by injection h with h; injection h⟩

theorem mark_at (s : ByteArray) (o : Option (List UInt8)) (c : UInt8) (w : World) (hs : s.size < 9223372036854775800) (I J : Int) (hI : PlI s o I) (hJ : J = (c.toNat : Int)) :
    Calls Tryd.prog 20 #[.string s, .int .i64 I, .int .u8 J] w fun x w' => (∃ I', x = .returned (.int .i64 I') ∧ PlI s (o.bind fun r => Json.part c (Json.blanks r)) I') ∧ w' = w := by
  rcases hI with ⟨rfl, rfl⟩ | ⟨r, b, rfl, hb, rfl, rfl⟩
  · refine (refMark_none s _ w).mono ?_
    rintro x w' ⟨rfl, rfl⟩
    exact ⟨⟨_, rfl, Or.inl ⟨rfl, rfl⟩⟩, rfl⟩
  · refine (refMark_any s b c w hb hs _ J rfl hJ).mono ?_
    rintro x w' ⟨⟨v, rfl, hv⟩, rfl⟩
    rcases hv with ⟨h1, rfl⟩ | ⟨r', b', h1, hb', rfl, hd⟩
    · exact ⟨⟨_, rfl, Or.inl ⟨h1, rfl⟩⟩, rfl⟩
    · exact ⟨⟨_, rfl, Or.inr ⟨r', b', h1, hb', rfl, hd⟩⟩, rfl⟩
theorem value_at (s n : ByteArray) (o : Option (List UInt8)) (w : World) (hs : s.size ≤ 140737488351232) (I : Int) (hI : PlI s o I) :
    Calls Tryd.prog 52 #[.string s, .int .i64 I, .agg #[.string n, .int .i64 0, .string ⟨#[]⟩, .int .i64 0, .bool false]] w fun x w' => (∃ (N T : ByteArray) (k q : Int) (f : Bool) (I' : Int), x = .returned (.tuple #[.agg #[.string N, .int .i64 k, .string T, .int .i64 q, .bool f], .int .i64 I']) ∧ PlI s ((o.bind Json.valueR).map (·.2)) I' ∧ ∀ m r, o.bind Json.valueR = some (m, r) → ({ m with name := n.data.toList } : Mem) = ⟨N.data.toList, k, T.data.toList, q, f⟩) ∧ Below w.heap.size w w' := by
  rcases hI with ⟨rfl, rfl⟩ | ⟨r, b, rfl, hb, rfl, rfl⟩
  · refine (refValue_none s n w).mono ?_
    rintro x w' ⟨rfl, hb⟩
    exact ⟨⟨_, _, _, _, _, _, rfl, Or.inl ⟨rfl, rfl⟩, fun _ _ h => by cases h⟩, hb⟩
  · refine (refValue_any s n b w hs hb _ rfl).mono ?_
    rintro x w' ⟨⟨v, rfl, hv⟩, hbl⟩
    refine ⟨?_, hbl⟩
    show ∃ N T k q f I', Ending.returned v = _ ∧ PlI s ((Json.valueR (s.data.toList.drop b)).map (·.2)) I' ∧ ∀ m r, Json.valueR (s.data.toList.drop b) = some (m, r) → _
    cases hx : Json.valueR (s.data.toList.drop b) with
    | none =>
      rw [hx] at hv
      rcases hv with ⟨_, m, rfl⟩ | ⟨m, r, c, h, _⟩
      · exact ⟨_, _, _, _, _, _, rfl, Or.inl ⟨rfl, rfl⟩, fun _ _ h => by cases h⟩
      · cases h
    | some p =>
      obtain ⟨m0, r0⟩ := p
      rw [hx] at hv
      rcases hv with ⟨h, _⟩ | ⟨m, r, c, h, hc, rfl, hd⟩
      · cases h
      · injection h with h
        injection h with h1 h2
        subst h1 h2
        refine ⟨_, _, _, _, _, _, rfl, Or.inr ⟨_, c, rfl, hc, rfl, hd⟩, fun m r h => ?_⟩
        injection h with h
        injection h with h1 h2
        subst h1
        rfl
theorem blanks_exact (s : ByteArray) (a : Nat) (w : World) (ha : a ≤ s.size) (hs : s.size < 9223372036854775800) (I : Int) (hI : I = (a : Int)) (c : Nat) (hc : c = s.size - (Json.blanks (s.data.toList.drop a)).length) :
    Calls Tryd.prog 38 #[.string s, .int .i64 I] w fun x w' => x = .returned (.int .i64 (c : Int)) ∧ w' = w := by
  refine (refBlanks_any s a w ha hs I hI).mono ?_
  rintro x w' ⟨b, rfl, h1, h2, h3, rfl⟩
  have hl := congrArg List.length h3
  rw [List.length_drop, len_list] at hl
  obtain rfl : c = b := by omega
  exact ⟨rfl, rfl⟩
theorem blanks_place (s : ByteArray) (a c : Nat) (hc : c = s.size - (Json.blanks (s.data.toList.drop a)).length) : c ≤ s.size ∧ s.data.toList.drop c = Json.blanks (s.data.toList.drop a) := by
  refine ⟨by omega, ?_⟩
  have hsuf : Json.blanks (s.data.toList.drop a) <:+ s.data.toList := (List.dropWhile_suffix _).trans (List.drop_suffix _ _)
  have := List.suffix_iff_eq_drop.1 hsuf
  rw [len_list] at this
  rw [hc]; exact this.symm
/-- both blocks stored -/
theorem set_ten {w : World} {b : Nat} {u0 u1 u2 u3 u4 : Value} {t : TypeId} (h : w.heap[b]? = some (.cells #[u0, u1, u2, u3, u4] t (0, 0))) (y0 y1 y2 y3 y4 : Value) :
    (((((w.setCell ⟨b + 1, 0, none⟩ y0).setCell ⟨b + 1, 1, none⟩ y1).setCell ⟨b + 1, 2, none⟩ y2).setCell ⟨b + 1, 3, none⟩ y3).setCell ⟨b + 1, 4, none⟩ y4).heap[b]? = some (.cells #[u0, u1, u2, u3, u4] t (0, 0)) := by
  rw [other_block (by omega), other_block (by omega), other_block (by omega), other_block (by omega), other_block (by omega)]; exact h
theorem below_five {w0 w : World} {b c : Nat} (hc : c ≤ b) (h : Below c w0 w) (x0 x1 x2 x3 x4 : Value) :
    Below c w0 (((((w.setCell ⟨b, 0, none⟩ x0).setCell ⟨b, 1, none⟩ x1).setCell ⟨b, 2, none⟩ x2).setCell ⟨b, 3, none⟩ x3).setCell ⟨b, 4, none⟩ x4) :=
  ((((h.setCell (p := ⟨b, 0, none⟩) hc _).setCell (p := ⟨b, 1, none⟩) hc _).setCell (p := ⟨b, 2, none⟩) hc _).setCell (p := ⟨b, 3, none⟩) hc _).setCell (p := ⟨b, 4, none⟩) hc _
theorem five_block {w : World} {B : Nat} {u0 u1 u2 u3 u4 : Value} {t : TypeId} (h : w.heap[B]? = some (.cells #[u0, u1, u2, u3, u4] t (0, 0))) (x0 x1 x2 x3 x4 : Value) :
    (((((w.setCell ⟨B, 0, none⟩ x0).setCell ⟨B, 1, none⟩ x1).setCell ⟨B, 2, none⟩ x2).setCell ⟨B, 3, none⟩ x3).setCell ⟨B, 4, none⟩ x4).heap[B]? = some (.cells #[x0, x1, x2, x3, x4] t (0, 0)) :=
  set_block (set_block (set_block (set_block (set_block h 0 x0) 1 x1) 2 x2) 3 x3) 4 x4
theorem range_drew {w : World} {b o : Nat} {cs : List Value} (h : w.rangeAt b o cs) : w.drew.rangeAt b o cs := fun j u hu => h j u hu
/-- the member in parts -/
theorem member_parts (l : List UInt8) (oq : Option (List UInt8 × List UInt8)) (hq : Json.quoted l = oq) (o3 : Option (Mem × List UInt8)) (h3 : ((oq.map (·.2)).bind fun r => Json.part 58 (Json.blanks r)).bind Json.valueR = o3) :
    (o3 = none → Json.memberR l = none) ∧ ∀ m r, o3 = some (m, r) → ∃ t r0, oq = some (t, r0) ∧ Json.memberR l = some ({ m with name := t }, Json.blanks r) := by
  unfold Json.memberR
  rw [hq]
  cases oq with
  | none =>
    subst h3
    exact ⟨fun _ => rfl, fun _ _ h => by cases h⟩
  | some x =>
    obtain ⟨t, r0⟩ := x
    simp only [Option.map_some, Option.bind_some] at h3
    cases hp : Json.part 58 (Json.blanks r0) with
    | none =>
      rw [hp] at h3
      subst h3
      exact ⟨fun _ => by simp [hp], fun _ _ h => by cases h⟩
    | some r1 =>
      rw [hp] at h3
      simp only [Option.bind_some] at h3
      subst h3
      refine ⟨fun h => by simp [hp, h], fun m r h => ⟨t, r0, rfl, by simp [hp, h]⟩⟩

set_option maxRecDepth 100000 in
set_option maxHeartbeats 1600000 in
theorem refMember_any (s : ByteArray) (a : Nat) (w : World) (hs : s.size ≤ 140737488351232) (ha : a ≤ s.size) (I : Int) (hI : I = (a : Int)) :
    Calls Tryd.prog 39 #[.string s, .int .i64 I] w fun x w' => (∃ v, x = .returned v ∧ VPl s (Json.memberR (s.data.toList.drop a)) v) ∧ Below w.heap.size w w' := by
  have HI := hide hI
  have HS := hide hs
  obtain ⟨O, hO⟩ : ∃ O, Json.memberR (s.data.toList.drop a) = O := ⟨_, rfl⟩
  obtain ⟨OQ, hOQ⟩ : ∃ O, Json.quoted (s.data.toList.drop a) = O := ⟨_, rfl⟩
  have HQ := hide (fun W => refQText_any s a W hs ha I HI.out)
  have HP := hide (fun o3 => member_parts (s.data.toList.drop a) OQ hOQ o3)
  rw [hO] at HP
  rw [hOQ] at HQ
  rw [hO]
  clear hO hI hOQ
  go_enter Tryd.func39, Tryd.ntmps39
  go_wp2_with fail
  obtain ⟨hB0, hB1, hBl, hBs⟩ := two_blocks w #[.string ⟨#[]⟩, .int .i64 0, .string ⟨#[]⟩, .int .i64 0, .bool false] #[.string ⟨#[]⟩, .int .i64 0, .string ⟨#[]⟩, .int .i64 0, .bool false] 37
  generalize (w.alloc (.cells #[.string ⟨#[]⟩, .int .i64 0, .string ⟨#[]⟩, .int .i64 0, .bool false] 37)).alloc (.cells #[.string ⟨#[]⟩, .int .i64 0, .string ⟨#[]⟩, .int .i64 0, .bool false] 37) = W at *
  refine (HQ.out W).mono ?_
  rintro x w2 ⟨⟨v1, rfl, hv1⟩, hb2⟩
  have h0 := (hb2.block w.heap.size (by omega)).trans hB0
  have h1 := (hb2.block (w.heap.size + 1) (by omega)).trans hB1
  have HB2 := hide (hBl.trans (hb2.mono (by omega)))
  clear hB0 hB1 hBl hBs hb2 HQ
  obtain ⟨N, I1, rfl, hp1, hN⟩ := hv1.split
  have HP1 := hide hp1
  have HN := hide hN
  clear hv1 hp1 hN
  have f1 := Lib.frozen_of_heap h1
  have d0 : w2.cell? ⟨w.heap.size + 1, 0, none⟩ = some (.string ⟨#[]⟩) := by rw [Lib.cell_of_heap h1]; rfl
  have d1 : w2.cell? ⟨w.heap.size + 1, 1, none⟩ = some (.int .i64 0) := by rw [Lib.cell_of_heap h1]; rfl
  have d2 : w2.cell? ⟨w.heap.size + 1, 2, none⟩ = some (.string ⟨#[]⟩) := by rw [Lib.cell_of_heap h1]; rfl
  have d3 : w2.cell? ⟨w.heap.size + 1, 3, none⟩ = some (.int .i64 0) := by rw [Lib.cell_of_heap h1]; rfl
  have d4 : w2.cell? ⟨w.heap.size + 1, 4, none⟩ = some (.bool false) := by rw [Lib.cell_of_heap h1]; rfl
  have H0 := hide h0
  have H1 := hide h1
  clear h0 h1
  go_wp2_with fail
  refine (mark_at s _ 58 _ (by have := HS.out; omega) I1 58 HP1.out rfl).mono ?_
  rintro x w3 ⟨⟨I2, rfl, hp2⟩, hw3⟩
  obtain rfl := hw3
  have HP2 := hide hp2
  clear hp2
  go_wp2_with fail
  refine (value_at s N _ _ HS.out I2 HP2.out).mono ?_
  rintro x w4 ⟨⟨N4, T4, k4, q4, g4, I4, rfl, hp4, hm4⟩, hb4⟩
  have e1 : (w2.setCell ⟨w.heap.size + 1, 0, none⟩ (.string N)).heap[w.heap.size + 1]? = some (.cells #[.string N, .int .i64 0, .string ⟨#[]⟩, .int .i64 0, .bool false] 37 (0, 0)) := set_block H1.out 0 _
  have e0 : (w2.setCell ⟨w.heap.size + 1, 0, none⟩ (.string N)).heap[w.heap.size]? = some (.cells #[.string ⟨#[]⟩, .int .i64 0, .string ⟨#[]⟩, .int .i64 0, .bool false] 37 (0, 0)) := by rw [other_block (by omega)]; exact H0.out
  have hlt : w.heap.size + 1 < (w2.setCell ⟨w.heap.size + 1, 0, none⟩ (.string N)).heap.size := (Array.getElem?_eq_some_iff.1 e1).1
  have h0 := (hb4.block w.heap.size (by omega)).trans e0
  have h1 := (hb4.block (w.heap.size + 1) hlt).trans e1
  have HB4 := hide ((HB2.out.setCell (p := ⟨w.heap.size + 1, 0, none⟩) (by show w.heap.size ≤ w.heap.size + 1; omega) (.string N)).trans (hb4.mono (by omega)))
  clear e0 e1 hlt hb4 d0 d1 d2 d3 d4 f1
  have HP4 := hide hp4
  have HM4 := hide hm4
  clear hp4 hm4
  have f0 := Lib.frozen_of_heap h0
  have f1 := Lib.frozen_of_heap h1
  have c0 : w4.cell? ⟨w.heap.size, 0, none⟩ = some (.string ⟨#[]⟩) := by rw [Lib.cell_of_heap h0]; rfl
  have c1 : w4.cell? ⟨w.heap.size, 1, none⟩ = some (.int .i64 0) := by rw [Lib.cell_of_heap h0]; rfl
  have c2 : w4.cell? ⟨w.heap.size, 2, none⟩ = some (.string ⟨#[]⟩) := by rw [Lib.cell_of_heap h0]; rfl
  have c3 : w4.cell? ⟨w.heap.size, 3, none⟩ = some (.int .i64 0) := by rw [Lib.cell_of_heap h0]; rfl
  have c4 : w4.cell? ⟨w.heap.size, 4, none⟩ = some (.bool false) := by rw [Lib.cell_of_heap h0]; rfl
  have d0 : w4.cell? ⟨w.heap.size + 1, 0, none⟩ = some (.string N) := by rw [Lib.cell_of_heap h1]; rfl
  have d1 : w4.cell? ⟨w.heap.size + 1, 1, none⟩ = some (.int .i64 0) := by rw [Lib.cell_of_heap h1]; rfl
  have d2 : w4.cell? ⟨w.heap.size + 1, 2, none⟩ = some (.string ⟨#[]⟩) := by rw [Lib.cell_of_heap h1]; rfl
  have d3 : w4.cell? ⟨w.heap.size + 1, 3, none⟩ = some (.int .i64 0) := by rw [Lib.cell_of_heap h1]; rfl
  have d4 : w4.cell? ⟨w.heap.size + 1, 4, none⟩ = some (.bool false) := by rw [Lib.cell_of_heap h1]; rfl
  have H0 := hide h0
  have H1 := hide h1
  clear h0 h1
  obtain ⟨O3, hO3⟩ : ∃ O3, ((OQ.map (·.2)).bind fun r => Json.part 58 (Json.blanks r)).bind Json.valueR = O3 := ⟨_, rfl⟩
  have HPP := hide (HP.out O3 hO3)
  rw [hO3] at HP4 HM4
  clear hO3 HP
  by_cases hneg : I4 < 0
  · have HX : Hid (O = none) := by
      rcases HP4.out with ⟨h, _⟩ | ⟨r, b, _, _, h, _⟩
      · refine HPP.out.1 ?_
        cases O3 with
        | none => rfl
        | some x => cases h
      · omega
    go_wp2_with fail
    refine bodyPost_ret (results_ct (b := w.heap.size) (o := 0) Tryd.results39 _ rfl (set_five (set_ten H0.out _ _ _ _ _) _ _ _ _ _) Tryd.underlying37 rfl sizeM rfl) rfl ⟨⟨_, rfl, Or.inl ⟨HX.out, ⟨N4.data.toList, k4, T4.data.toList, q4, g4⟩, rfl⟩⟩, below_five (Nat.le_refl _) (below_five (Nat.le_succ _) HB4.out _ _ _ _ _) _ _ _ _ _⟩
  · obtain ⟨b4, m3, r3, hb4, hI4, hO3, hdr⟩ : ∃ (b : Nat) (m : Mem) (r : List UInt8), b ≤ s.size ∧ I4 = (b : Int) ∧ O3 = some (m, r) ∧ s.data.toList.drop b = r := by
      rcases HP4.out with ⟨_, h⟩ | ⟨r, b, h, hb, hI, hd⟩
      · omega
      · cases O3 with
        | none => cases h
        | some x =>
          obtain ⟨m, r'⟩ := x
          injection h with h
          exact ⟨b, m, r', hb, hI, rfl, hd.trans h.symm⟩
    obtain ⟨cN, hc4⟩ : ∃ c, c = s.size - (Json.blanks (s.data.toList.drop b4)).length := ⟨_, rfl⟩
    have HBk := hide (fun W => blanks_exact s b4 W hb4 (by have := HS.out; omega) I4 hI4 cN hc4)
    have HPl := hide (blanks_place s b4 cN hc4)
    have HX : Hid (O = some (⟨N4.data.toList, k4, T4.data.toList, q4, g4⟩, Json.blanks r3)) := by
      show _ = _
      obtain ⟨t, r0, h1, h2⟩ := HPP.out.2 m3 r3 hO3
      have hm := HM4.out m3 r3 hO3
      rw [HN.out t r0 h1] at hm
      rw [h2, hm]
    have HDR := hide hdr
    clear hI4 hO3 hdr hc4 HP4 HM4 HPP
    have G0 := hide (set_ten H0.out (.string N4) (.int .i64 k4) (.string T4) (.int .i64 q4) (.bool g4))
    have G1 := hide (five_block H1.out (.string N4) (.int .i64 k4) (.string T4) (.int .i64 q4) (.bool g4))
    have HB5 := hide (below_five (Nat.le_succ _) HB4.out (.string N4) (.int .i64 k4) (.string T4) (.int .i64 q4) (.bool g4))
    go_wp2_with fail
    generalize ((((w4.setCell ⟨w.heap.size + 1, 0, none⟩ (.string N4)).setCell ⟨w.heap.size + 1, 1, none⟩ (.int .i64 k4)).setCell ⟨w.heap.size + 1, 2, none⟩ (.string T4)).setCell ⟨w.heap.size + 1, 3, none⟩ (.int .i64 q4)).setCell ⟨w.heap.size + 1, 4, none⟩ (.bool g4) = w5 at *
    clear c0 c1 c2 c3 c4 d0 d1 d2 d3 d4 f0 f1 H0 H1
    have h0 := G0.out
    have h1 := G1.out
    have f0 := Lib.frozen_of_heap h0
    have f1 := Lib.frozen_of_heap h1
    have c0 : w5.cell? ⟨w.heap.size, 0, none⟩ = some (.string ⟨#[]⟩) := by rw [Lib.cell_of_heap h0]; rfl
    have c1 : w5.cell? ⟨w.heap.size, 1, none⟩ = some (.int .i64 0) := by rw [Lib.cell_of_heap h0]; rfl
    have c2 : w5.cell? ⟨w.heap.size, 2, none⟩ = some (.string ⟨#[]⟩) := by rw [Lib.cell_of_heap h0]; rfl
    have c3 : w5.cell? ⟨w.heap.size, 3, none⟩ = some (.int .i64 0) := by rw [Lib.cell_of_heap h0]; rfl
    have c4 : w5.cell? ⟨w.heap.size, 4, none⟩ = some (.bool false) := by rw [Lib.cell_of_heap h0]; rfl
    have d0 : w5.cell? ⟨w.heap.size + 1, 0, none⟩ = some (.string N4) := by rw [Lib.cell_of_heap h1]; rfl
    have d1 : w5.cell? ⟨w.heap.size + 1, 1, none⟩ = some (.int .i64 k4) := by rw [Lib.cell_of_heap h1]; rfl
    have d2 : w5.cell? ⟨w.heap.size + 1, 2, none⟩ = some (.string T4) := by rw [Lib.cell_of_heap h1]; rfl
    have d3 : w5.cell? ⟨w.heap.size + 1, 3, none⟩ = some (.int .i64 q4) := by rw [Lib.cell_of_heap h1]; rfl
    have d4 : w5.cell? ⟨w.heap.size + 1, 4, none⟩ = some (.bool g4) := by rw [Lib.cell_of_heap h1]; rfl
    have H0 := G0
    clear h0 h1 G1 G0
    go_region_with (go_at_call 38; refine (HBk.out _).mono ?_; rintro x w' ⟨rfl, rfl⟩)
    all_goals
      go_wp2_with fail
      refine bodyPost_ret (results_ct (b := w.heap.size) (o := 0) Tryd.results39 _ rfl (range_drew (set_five H0.out _ _ _ _ _)) Tryd.underlying37 rfl sizeM rfl) rfl ⟨⟨_, rfl, Or.inr ⟨_, _, cN, HX.out, HPl.out.1, rfl, by rw [HPl.out.2, HDR.out]⟩⟩, (below_five (Nat.le_refl _) HB5.out _ _ _ _ _).drew⟩
end Go.Proofs.YtkkgngmhdlmgnaaDoor.jw

namespace Go.Proofs.YtkkgngmhdlmgnaaDoor.jw
open Go.ChangeShapes Go.WideShapes Go.ChangeAt Go.RowKit Go.Proofs.YtkkgngmhdlmgnaaDoor.common
attribute [local go_sem ↓] Go.wp_at_zero Go.wp_at_succ

theorem infoR : (Tryd.prog.info? 37).map (fun i => (i.zero, i.size, i.bytes)) = some (some (.agg #[.string ⟨#[]⟩, .int .i64 0, .string ⟨#[]⟩, .int .i64 0, .bool false]), 5, 56) := by kernel_rfl
theorem own_belowR {w w' : World} {b : Nat} {t : TypeId} {z : Nat} {v : Value} {n : Nat} {xs : List Value} (h : w.ownsRow b t z v n xs) (hb : Below w.heap.size w w') : w'.ownsRow b t z v n xs := by
  refine ⟨h.1, ?_⟩
  rcases h.2 with hh | ⟨g, cap, cur, rfl, hg, hh, hn⟩
  · exact Or.inl hh
  · exact Or.inr ⟨g, cap, cur, rfl, hg, (hb.block g (Array.getElem?_eq_some_iff.1 hh).1).trans hh, hn⟩
theorem cells_new2 (w : World) (o : Obj) (l : List Value) (t : TypeId) : ∀ j u, l[j]? = some u → ((w.alloc o).alloc (.cells l.toArray t)).cell? ((⟨w.heap.size + 1, 0, none⟩ : Addr).add j) = some u := by
  intro j u h
  have := cells_new (w.alloc o) l t j u h
  simpa using this
theorem VPl.split {s : ByteArray} {o : Option (Mem × List UInt8)} {v : Value} (h : VPl s o v) : ∃ (m : Mem) (I : Int), v = .tuple #[M5 m, .int .i64 I] ∧ PlI s (o.map (·.2)) I ∧ ∀ t r, o = some (t, r) → m = t := by
  rcases h with ⟨rfl, m, rfl⟩ | ⟨t, r, b, rfl, hb, rfl, hd⟩
  · exact ⟨_, _, rfl, Or.inl ⟨rfl, rfl⟩, fun _ _ h => by cases h⟩
  · exact ⟨_, _, rfl, Or.inr ⟨r, b, rfl, hb, rfl, hd⟩, fun _ _ h => by injection h with h; injection h⟩
/-- members and a place, or nothing and -1 -/
def LPl (base : Nat) (s : ByteArray) (o : Option (List Mem × List UInt8)) (x : Value) (w : World) : Prop :=
  (o = none ∧ x = .tuple #[.slice none 0 0, .int .i64 (-1)]) ∨ ∃ (l : List Mem) (r : List UInt8) (b : Nat) (v : Value), o = some (l, r) ∧ b ≤ s.size ∧ x = .tuple #[v, .int .i64 (b : Int)] ∧ s.data.toList.drop b = r ∧ l.length ≤ s.size ∧ w.ownsRow base 37 5 v l.length (cms l)

set_option maxRecDepth 100000 in
set_option maxHeartbeats 1600000 in
theorem refMembers_any (s : ByteArray) (a : Nat) (w : World) (hs : s.size * 56 ≤ 140737488351232) (ha : a ≤ s.size) (I : Int) (hI : I = (a : Int)) :
    Calls Tryd.prog 21 #[.string s, .int .i64 I] w fun x w' => (∃ v, x = .returned v ∧ LPl w.heap.size s (Json.mems [] (s.data.toList.drop a)) v w') ∧ Below w.heap.size w w' := by
  subst hI
  obtain ⟨i0, hi, hz0, hz1, hz2⟩ := info_parts infoR
  have HS := hide hs
  obtain ⟨O, hO⟩ : ∃ O, Json.mems [] (s.data.toList.drop a) = O := ⟨_, rfl⟩
  have HO := hide hO
  rw [hO]
  clear hO
  go_enter Tryd.func21, Tryd.ntmps21
  go_wp2_with fail
  go_loopw [1, 4, 5, 6] (fun iv r4 r5 v wr => ∃ (k : Nat) (L : List Mem), k ≤ s.size ∧ L.length ≤ k ∧ iv = .int .i64 k ∧ r4 = .slice none 0 0 ∧ r5 = .int .i64 0 ∧ Hid (Json.mems L (s.data.toList.drop k) = O) ∧ Hid (wr.ownsRow w.heap.size 37 5 v L.length (cms L)) ∧ Hid (Below w.heap.size w wr)) (fun iv _ _ _ _ => s.size - (intOf iv).toNat)
  case atStart => exact ⟨a, [], ha, by simp, rfl, by first | rfl | trivial, by first | rfl | trivial, HO, World.ownsRow_nil _ _ _ _, Below.refl _ _⟩
  case round =>
    obtain ⟨k, L, hk, hLk, rfl, rfl, rfl, HX, hown, hb⟩ := hrel
    have hS := HS.out
    by_cases hkl : k < s.size
    · have k1 : (k : Int) < (s.size : Int) := by omega
      go_wp2_with fail
      refine (refMember_any s k wr (by omega) (by omega) _ rfl).mono ?_
      rintro x w2 ⟨⟨v2, rfl, hv2⟩, hb2⟩
      obtain ⟨m, I4, rfl, hp4, hm4⟩ := hv2.split
      have hown2 := hide (own_belowR hown.out hb2)
      have hbl2 := hide (hb.out.trans (hb2.mono hb.out.size))
      have hsz := hbl2.out.size
      clear hb2 hv2
      obtain ⟨M, hM⟩ : ∃ M, Json.memberR (s.data.toList.drop k) = M := ⟨_, rfl⟩
      rw [hM] at hp4 hm4
      have HM := hide hM
      have HP4 := hide hp4
      have HM4 := hide hm4
      clear hM hp4 hm4
      by_cases hneg : I4 < 0
      · have HR : Hid (O = none) := by
          show _ = _
          rcases HP4.out with ⟨h, _⟩ | ⟨r, b, _, _, h, _⟩
          · cases M with
            | none => rw [← HX.out, Json.mems_no HM.out]
            | some x => cases h
          · omega
        go_wp2_with fail
        go_ret2
        exact ⟨⟨_, rfl, Or.inl ⟨HR.out, rfl⟩⟩, hbl2.out.alloc hsz _⟩
      · obtain ⟨b4, m4, r4, hb4, hI4, hO3, hdr⟩ : ∃ (b : Nat) (m : Mem) (r : List UInt8), b ≤ s.size ∧ I4 = (b : Int) ∧ M = some (m, r) ∧ s.data.toList.drop b = r := by
          rcases HP4.out with ⟨_, h⟩ | ⟨r, b, h, hb, hI, hd⟩
          · omega
          · cases M with
            | none => cases h
            | some x =>
              obtain ⟨m, r'⟩ := x
              injection h with h
              exact ⟨b, m, r', hb, hI, rfl, hd.trans h.symm⟩
        obtain rfl := HM4.out m4 r4 hO3
        have hlt4 := Json.memberR_lt (HM.out.trans hO3)
        rw [← hdr, List.length_drop, List.length_drop, len_list] at hlt4
        have HME := hide (HM.out.trans hO3)
        have HDR := hide hdr
        subst hI4
        clear hO3 hdr HM4 HP4 HM
        go_wp2_with (at_builtin; refine wpList_append_own _ rfl _ _ 22 rfl w.heap.size 37 i0 _ 5 56 Tryd.underlying22 hi hz0 hz1 hz2 rfl (by decide) _ _ _ rfl ((hown2.out.alloc _).alloc _) ⟨w2.heap.size + 1, 0, none⟩ 1 1 (cm m) rfl rfl (cells_new2 w2 _ (cm m) 37) ?c2 ?c3 ?c4 ?c5 ?_)
        case c2 => intro u hu; simp [cm] at hu; rcases hu with rfl | rfl | rfl | rfl | rfl <;> rfl
        case c3 => unfold maxLen; omega
        case c4 => omega
        case c5 => first | omega | (simp; omega)
        intro v' w3 hown' hgrow _
        have R1 : Hid (w3.ownsRow w.heap.size 37 5 v' (L ++ [m]).length (cms (L ++ [m]))) := by
          show w3.ownsRow _ _ _ _ _ _
          rw [cms_app, List.length_append]
          show w3.ownsRow _ _ _ _ (L.length + 1) (cms L ++ (cm m ++ []))
          rw [List.append_nil]; exact hown'
        have R2 := hide (((hbl2.out.alloc hsz _).alloc (by simp; omega) _).grown hgrow (by simp; omega) (fun b hb => (hown2.out.lt b hb).1))
        clear hown' hgrow
        by_cases hend : ∃ h : b4 < s.size, s[b4] = 44
        · obtain ⟨hbl, h44⟩ := hend
          have g1 : ¬ (s.size : Int) ≤ (b4 : Int) := by omega
          have g2 : (b4 : Int) < (s.size : Int) := by omega
          have p1 : (s[b4].toNat : Int) = 44 := by rw [h44]; rfl
          have HSt : Hid (O = Json.mems (L ++ [m]) (Json.blanks (s.data.toList.drop (b4 + 1)))) := by
            show _ = _
            rw [← HX.out]
            refine Json.mems_step HME.out ?_
            rw [← HDR.out, drop_cons s b4 hbl, h44]
            simp [Json.part]
          obtain ⟨cN, hcN⟩ : ∃ c, c = s.size - (Json.blanks (s.data.toList.drop (b4 + 1))).length := ⟨_, rfl⟩
          have HBk := hide (fun (W : World) => blanks_exact s (b4 + 1) W (by omega) (by omega) ((b4 : Int) + 1) (by omega) cN hcN)
          have HPl := hide (blanks_place s (b4 + 1) cN hcN)
          have hcb : b4 + 1 ≤ cN := by
            have := Json.blanks_le (s.data.toList.drop (b4 + 1))
            rw [List.length_drop, len_list] at this
            omega
          clear hcN h44
          go_wp2_with fail
          refine (HBk.out _).mono ?_
          rintro x w4 ⟨rfl, hw4⟩
          obtain rfl := hw4
          go_wp2
          go_roundw
          case rel => exact ⟨cN, L ++ [m], HPl.out.1, by rw [List.length_append, List.length_singleton]; omega, by first | rfl | go_num, by first | rfl | trivial, by first | rfl | trivial, by show _ = _; rw [HPl.out.2, ← HSt.out], R1, R2⟩
          case measure => simp [intOf]; omega
        · have HSt : Hid (O = some (L ++ [m], s.data.toList.drop b4)) := by
            show _ = _
            rw [← HX.out, HDR.out]
            refine Json.mems_end HME.out ?_
            rw [← HDR.out]
            by_cases h : b4 < s.size
            · rw [drop_cons s b4 h]
              exact if_neg (fun e => hend ⟨h, e⟩)
            · rw [drop_end s b4 h]; rfl
          have hll : (L ++ [m]).length ≤ s.size := by rw [List.length_append, List.length_singleton]; omega
          have HLL := hide hll
          clear hll
          by_cases h : b4 < s.size
          · have g1 : ¬ (s.size : Int) ≤ (b4 : Int) := by omega
            have g2 : (b4 : Int) < (s.size : Int) := by omega
            have p1 : ((s[b4].toNat : Int) == 44) = false := beq_false_of_ne (fun e => hend ⟨h, UInt8.toNat_inj.1 (by show _ = 44; omega)⟩)
            clear hend
            go_wp2_with fail
            go_ret2
            exact ⟨⟨_, rfl, Or.inr ⟨_, _, b4, _, HSt.out, hb4, rfl, rfl, HLL.out, R1.out⟩⟩, R2.out⟩
          · have g1 : (s.size : Int) ≤ (b4 : Int) := by omega
            clear hend
            go_wp2_with fail
            go_ret2
            exact ⟨⟨_, rfl, Or.inr ⟨_, _, b4, _, HSt.out, hb4, rfl, rfl, HLL.out, R1.out⟩⟩, R2.out⟩
    · have k1 : ¬ (k : Int) < (s.size : Int) := by omega
      have HR : Hid (O = none) := by show _ = _; rw [← HX.out, drop_end s k hkl, Json.mems_nil]
      go_wp2
      go_ret2
      exact ⟨⟨_, rfl, Or.inl ⟨HR.out, rfl⟩⟩, hb.out⟩
end Go.Proofs.YtkkgngmhdlmgnaaDoor.jw

namespace Go.Proofs.YtkkgngmhdlmgnaaDoor.jw
open Go.ChangeShapes Go.WideShapes Go.ChangeAt Go.RowKit Go.Proofs.YtkkgngmhdlmgnaaDoor.common
attribute [local go_sem ↓] Go.wp_at_zero Go.wp_at_succ

/-- what the document's reader answers -/
def RRef (base : Nat) (l : List UInt8) (x : Value) (w : World) : Prop :=
  ∃ v, x = .tuple #[v, .int .i64 ((Json.read l).1 : Int)] ∧ w.ownsRow base 37 5 v (Json.read l).2.length (cms (Json.read l).2)
theorem RRef.nil {base : Nat} {l : List UInt8} {c : Nat} {w : World} (h : Json.read l = (c, [])) : RRef base l (.tuple #[.slice none 0 0, .int .i64 (c : Int)]) w :=
  ⟨_, by rw [h], by rw [h]; exact World.ownsRow_nil _ _ _ _⟩

theorem LPl.split {base : Nat} {s : ByteArray} {o : Option (List Mem × List UInt8)} {x : Value} {w : World} (h : LPl base s o x w) : ∃ (v : Value) (I : Int) (L : List Mem), x = .tuple #[v, .int .i64 I] ∧ PlI s (o.map (·.2)) I ∧ w.ownsRow base 37 5 v L.length (cms L) ∧ L.length ≤ s.size ∧ ∀ t r, o = some (t, r) → t = L := by
  rcases h with ⟨rfl, rfl⟩ | ⟨l, r, b, v, rfl, hb, rfl, hd, hl, ho⟩
  · exact ⟨_, _, [], rfl, Or.inl ⟨rfl, rfl⟩, World.ownsRow_nil _ _ _ _, Nat.zero_le _, fun _ _ h => by cases h⟩
  · exact ⟨_, _, l, rfl, Or.inr ⟨r, b, rfl, hb, rfl, hd⟩, ho, hl, fun _ _ h => by injection h with h; injection h with h _; exact h.symm⟩
/-- from the parts to the object -/
theorem obj_none {s : ByteArray} {o : Option (List Mem × List UInt8)} {I : Int} {O : Option (List Mem)}
    (hO : O = match o with | none => none | some (ms, q) => match Json.part 125 (Json.blanks q) with | none => none | some r2 => if r2 = [] then some ms else none)
    (hp : PlI s ((o.map (·.2)).bind fun r => Json.part 125 (Json.blanks r)) I) (hI : I < 0 ∨ I ≠ (s.size : Int)) : O = none := by
  subst hO
  cases o with
  | none => rfl
  | some x =>
    obtain ⟨ms, q⟩ := x
    simp only [Option.map_some, Option.bind_some] at hp
    rcases hp with ⟨h, _⟩ | ⟨r, b, h, hb, rfl, hd⟩
    · simp only [h]
    · simp only [h]
      refine if_neg ?_
      intro e
      subst e
      have := congrArg List.length hd
      rw [List.length_drop, len_list, List.length_nil] at this
      omega
theorem obj_some {s : ByteArray} {o : Option (List Mem × List UInt8)} {I : Int} {O : Option (List Mem)} {L : List Mem}
    (hO : O = match o with | none => none | some (ms, q) => match Json.part 125 (Json.blanks q) with | none => none | some r2 => if r2 = [] then some ms else none)
    (hp : PlI s ((o.map (·.2)).bind fun r => Json.part 125 (Json.blanks r)) I) (hL : ∀ t r, o = some (t, r) → t = L) (h0 : ¬ I < 0) (hI : I = (s.size : Int)) : O = some L := by
  subst hO
  cases o with
  | none =>
    rcases hp with ⟨_, h⟩ | ⟨r, b, h, _⟩
    · omega
    · cases h
  | some x =>
    obtain ⟨ms, q⟩ := x
    obtain rfl := hL ms q rfl
    simp only [Option.map_some, Option.bind_some] at hp
    rcases hp with ⟨_, h⟩ | ⟨r, b, h, hb, rfl, hd⟩
    · omega
    · simp only [h]
      refine if_pos ?_
      rw [← hd]
      exact List.drop_eq_nil_of_le (by rw [len_list]; omega)

set_option maxRecDepth 100000 in
set_option maxHeartbeats 1600000 in
theorem refRead_any (s : ByteArray) (w : World) (hs : s.size * 56 ≤ 140737488351232) :
    Calls Tryd.prog 7 #[.string s] w fun x w' => (∃ v, x = .returned v ∧ RRef w.heap.size s.data.toList v w') ∧ Below w.heap.size w w' := by
  have HS := hide hs
  have HOP := hide (Json.object_parts s.data.toList)
  have H0 : Hid (PlI s (some s.data.toList) 0) := by
    have := PlI.at (s := s) (a := 0) (Nat.zero_le _)
    rw [List.drop_zero] at this
    exact this
  clear hs
  go_enter Tryd.func7, Tryd.ntmps7
  go_wp2_with fail
  refine (mark_at s _ 123 _ (by have := HS.out; omega) 0 123 H0.out rfl).mono ?_
  rintro x w1 ⟨⟨I1, rfl, hp1⟩, hw1⟩
  obtain rfl := hw1
  rw [Option.bind_some] at hp1
  by_cases hneg : I1 < 0
  · have HR : Hid (Json.read s.data.toList = (2, [])) := by
      refine Json.read_no ?_
      rcases hp1 with ⟨h, _⟩ | ⟨r, b, _, _, h, _⟩
      · rw [HOP.out, h]
      · omega
    clear hp1
    go_wp2_with fail
    go_ret2
    exact ⟨⟨_, rfl, RRef.nil HR.out⟩, Below.refl _ _⟩
  · obtain ⟨b, r, hbs, hI, hpr, hdr⟩ : ∃ (b : Nat) (r : List UInt8), b ≤ s.size ∧ I1 = (b : Int) ∧ Json.part 123 (Json.blanks s.data.toList) = some r ∧ s.data.toList.drop b = r := by
      rcases hp1 with ⟨_, h⟩ | ⟨r, b, h, hb, hI, hd⟩
      · omega
      · exact ⟨b, r, hb, hI, h, hd⟩
    subst hI
    have HOP2 := hide HOP.out
    rw [hpr] at HOP2
    have HDR := hide hdr
    clear hp1 hpr hdr HOP
    by_cases hin : ∃ h : b < s.size, s[b] ≠ 125
    · obtain ⟨hlt, h125⟩ := hin
      have g1 : (b : Int) < (s.size : Int) := by omega
      have g0 : (0 : Int) ≤ (b : Int) := by omega
      have p1 : ((s[b].toNat : Int) == 125) = false := beq_false_of_ne (fun e => h125 (UInt8.toNat_inj.1 (by show _ = 125; omega)))
      have HIn : Hid (Json.inside r = Json.mems [] r) := by
        show _ = _
        unfold Json.inside
        rw [← HDR.out, drop_cons s b hlt]
        refine if_neg ?_
        rintro (h | h)
        · cases h
        · injection h with h; exact h125 h
      clear h125
      go_wp2_with fail
      refine (refMembers_any s b _ HS.out hbs _ rfl).mono ?_
      rintro x w2 ⟨⟨v2, rfl, hv2⟩, hb2⟩
      rw [HDR.out] at hv2
      obtain ⟨v, I5, L, rfl, hp5, hown5, hll5, hL5⟩ := hv2.split
      have HPL := hide hp5
      have HOw := hide hown5
      have HLL := hide hL5
      have HBW := hide hb2
      have hl5 : L.length ≤ s.size := hll5
      have hS5 := HS.out
      have HOO := hide HOP2.out
      simp only [HIn.out] at HOO
      obtain ⟨oa, cap, rfl⟩ := own_form hown5
      clear hp5 hown5 hL5 hb2 hv2 hll5
      go_wp2_with fail
      refine (mark_at s _ 125 _ (by have := HS.out; omega) I5 125 HPL.out rfl).mono ?_
      rintro x w6 ⟨⟨I6, rfl, hp6⟩, hw6⟩
      obtain rfl := hw6
      have HP6 := hide hp6
      clear hp6
      by_cases e1 : I6 < 0
      · have HR := hide (Json.read_no (obj_none HOO.out HP6.out (Or.inl e1)))
        go_wp2_with fail
        go_ret2
        exact ⟨⟨_, rfl, RRef.nil HR.out⟩, HBW.out⟩
      · by_cases e2 : I6 = (s.size : Int)
        · have HOS := hide (obj_some HOO.out HP6.out HLL.out e1 e2)
          have e2b : (I6 != (s.size : Int)) = false := by simpa using e2
          have e1b : decide (I6 < 0) = false := decide_eq_false e1
          clear e2
          by_cases e3 : 32 < L.length
          · have HR := hide (Json.read_many HOS.out e3)
            have e3i : (32 : Int) < (L.length : Int) := by omega
            go_wp2_with fail
            go_ret2
            exact ⟨⟨_, rfl, RRef.nil HR.out⟩, HBW.out⟩
          · have e3i : ¬ (32 : Int) < (L.length : Int) := by omega
            have HLie := hide (lies_of_own HOw.out)
            go_wp2_with fail
            refine (refTwice_any _ L _ HLie.out (by omega)).mono ?_
            rintro x w7 ⟨rfl, hb7⟩
            have HBW7 := hide (HBW.out.trans (hb7.mono HBW.out.size))
            have HOw7 := hide (own_belowR HOw.out hb7)
            clear hb7
            cases htw : Json.twice L with
            | true =>
              have HR := hide (Json.read_twice HOS.out e3 htw)
              clear htw
              go_wp2_with fail
              go_ret2
              exact ⟨⟨_, rfl, RRef.nil HR.out⟩, HBW7.out⟩
            | false =>
              have HR := hide (Json.read_yes HOS.out e3 htw)
              clear htw
              go_wp2_with fail
              go_ret2
              exact ⟨⟨_, rfl, ⟨_, by rw [HR.out]; rfl, by rw [HR.out]; exact HOw7.out⟩⟩, HBW7.out⟩
        · have HR := hide (Json.read_no (obj_none HOO.out HP6.out (Or.inr e2)))
          have e2b : (I6 != (s.size : Int)) = true := by simpa using e2
          clear e2
          go_wp2_with fail
          go_ret2
          exact ⟨⟨_, rfl, RRef.nil HR.out⟩, HBW.out⟩
    · have HIn : Hid (Json.inside r = some ([], r)) := by
        show _ = _
        unfold Json.inside
        refine if_pos ?_
        by_cases h : b < s.size
        · refine Or.inr ?_
          rw [← HDR.out, drop_cons s b h]
          by_cases h2 : s[b] = 125
          · rw [h2]; rfl
          · exact absurd ⟨h, h2⟩ hin
        · exact Or.inl (by rw [← HDR.out, drop_end s b h])
      have HPL : Hid (PlI s ((Json.inside r).map (·.2)) (b : Int)) := by
        rw [HIn.out, ← HDR.out]
        exact PlI.at hbs
      have HOw : Hid (w1.ownsRow w1.heap.size 37 5 (.slice none 0 0) ([] : List Mem).length (cms [])) := World.ownsRow_nil _ _ _ _
      have HLL : Hid (∀ t q, Json.inside r = some (t, q) → t = []) := by
        intro t q h
        rw [HIn.out] at h
        injection h with h; injection h with h _; exact h.symm
      have HBW : Hid (Below w1.heap.size w1 w1) := Below.refl _ _
      have hS5 := HS.out
      have HOO := hide HOP2.out
      obtain ⟨L, hLe⟩ : ∃ L : List Mem, [] = L := ⟨_, rfl⟩
      have hL0 : L.length = 0 := by rw [← hLe]; rfl
      rw [hLe] at HOw HLL
      clear hLe
      by_cases h : b < s.size
      · have h125 : s[b] = 125 := by
          by_cases h2 : s[b] = 125
          · exact h2
          · exact absurd ⟨h, h2⟩ hin
        have g1 : (b : Int) < (s.size : Int) := by omega
        have g0 : (0 : Int) ≤ (b : Int) := by omega
        have p1 : (s[b].toNat : Int) = 125 := by rw [h125]; rfl
        clear h125 hin
        have HL0 := hide hL0
        clear hL0
        go_wp2_with fail
        refine (mark_at s _ 125 _ (by have := HS.out; omega) (b : Int) 125 HPL.out rfl).mono ?_
        rintro x w6 ⟨⟨I6, rfl, hp6⟩, hw6⟩
        obtain rfl := hw6
        have HP6 := hide hp6
        clear hp6
        by_cases e1 : I6 < 0
        · have HR := hide (Json.read_no (obj_none HOO.out HP6.out (Or.inl e1)))
          go_wp2_with fail
          go_ret2
          exact ⟨⟨_, rfl, RRef.nil HR.out⟩, HBW.out⟩
        · by_cases e2 : I6 = (s.size : Int)
          · have HOS := hide (obj_some HOO.out HP6.out HLL.out e1 e2)
            have e2b : (I6 != (s.size : Int)) = false := by simpa using e2
            have e1b : decide (I6 < 0) = false := decide_eq_false e1
            clear e2
            by_cases e3 : 32 < L.length
            · have HR := hide (Json.read_many HOS.out e3)
              exact absurd e3 (by have := HL0.out; omega)
            · skip
              have HLie := hide (lies_of_own HOw.out)
              go_wp2_with fail
              refine (refTwice_any _ L _ HLie.out (by omega)).mono ?_
              rintro x w7 ⟨rfl, hb7⟩
              have HBW7 := hide (HBW.out.trans (hb7.mono HBW.out.size))
              have HOw7 := hide (own_belowR HOw.out hb7)
              clear hb7
              cases htw : Json.twice L with
              | true =>
                have HR := hide (Json.read_twice HOS.out e3 htw)
                clear htw
                go_wp2_with fail
                go_ret2
                exact ⟨⟨_, rfl, RRef.nil HR.out⟩, HBW7.out⟩
              | false =>
                have HR := hide (Json.read_yes HOS.out e3 htw)
                clear htw
                go_wp2_with fail
                go_ret2
                exact ⟨⟨_, rfl, ⟨_, by rw [HR.out]; rfl, by rw [HR.out]; exact HOw7.out⟩⟩, HBW7.out⟩
          · have HR := hide (Json.read_no (obj_none HOO.out HP6.out (Or.inr e2)))
            have e2b : (I6 != (s.size : Int)) = true := by simpa using e2
            clear e2
            go_wp2_with fail
            go_ret2
            exact ⟨⟨_, rfl, RRef.nil HR.out⟩, HBW.out⟩
      · have g1 : ¬ (b : Int) < (s.size : Int) := by omega
        have g1d : decide ((b : Int) < (s.size : Int)) = false := decide_eq_false g1
        clear hin
        have HL0 := hide hL0
        clear hL0
        go_wp2_with fail
        refine (mark_at s _ 125 _ (by have := HS.out; omega) (b : Int) 125 HPL.out rfl).mono ?_
        rintro x w6 ⟨⟨I6, rfl, hp6⟩, hw6⟩
        obtain rfl := hw6
        have HP6 := hide hp6
        clear hp6
        by_cases e1 : I6 < 0
        · have HR := hide (Json.read_no (obj_none HOO.out HP6.out (Or.inl e1)))
          go_wp2_with fail
          go_ret2
          exact ⟨⟨_, rfl, RRef.nil HR.out⟩, HBW.out⟩
        · by_cases e2 : I6 = (s.size : Int)
          · have HOS := hide (obj_some HOO.out HP6.out HLL.out e1 e2)
            have e2b : (I6 != (s.size : Int)) = false := by simpa using e2
            have e1b : decide (I6 < 0) = false := decide_eq_false e1
            clear e2
            by_cases e3 : 32 < L.length
            · have HR := hide (Json.read_many HOS.out e3)
              exact absurd e3 (by have := HL0.out; omega)
            · skip
              have HLie := hide (lies_of_own HOw.out)
              go_wp2_with fail
              refine (refTwice_any _ L _ HLie.out (by omega)).mono ?_
              rintro x w7 ⟨rfl, hb7⟩
              have HBW7 := hide (HBW.out.trans (hb7.mono HBW.out.size))
              have HOw7 := hide (own_belowR HOw.out hb7)
              clear hb7
              cases htw : Json.twice L with
              | true =>
                have HR := hide (Json.read_twice HOS.out e3 htw)
                clear htw
                go_wp2_with fail
                go_ret2
                exact ⟨⟨_, rfl, RRef.nil HR.out⟩, HBW7.out⟩
              | false =>
                have HR := hide (Json.read_yes HOS.out e3 htw)
                clear htw
                go_wp2_with fail
                go_ret2
                exact ⟨⟨_, rfl, ⟨_, by rw [HR.out]; rfl, by rw [HR.out]; exact HOw7.out⟩⟩, HBW7.out⟩
          · have HR := hide (Json.read_no (obj_none HOO.out HP6.out (Or.inr e2)))
            have e2b : (I6 != (s.size : Int)) = true := by simpa using e2
            clear e2
            go_wp2_with fail
            go_ret2
            exact ⟨⟨_, rfl, RRef.nil HR.out⟩, HBW.out⟩
end Go.Proofs.YtkkgngmhdlmgnaaDoor.jw
