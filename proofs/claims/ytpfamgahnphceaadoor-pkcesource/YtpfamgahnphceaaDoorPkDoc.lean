import Derived.Test.YtpfamgahnphceaaDoorPkOnceL
import Derived.ArgAppend
namespace Go.Proofs.YtpfamgahnphceaaDoor.pk
open Go.ChangeShapes Go.WideShapes Go.ChangeAt Go.RowKit Go.Proofs.YtpfamgahnphceaaDoor.common
open Go.Proofs.YtpfamgahnphceaaDoor.radw (B Lay)

/-- the document's source -/
def DSrc (w : World) (q : Nat) (hb : Option Nat) (l : List ByteArray) : Prop :=
  ∃ v, w.heap[q]? = some (.cells #[v] 63 (0, 0)) ∧ Ln w 9 1 hb v l.length (ss.sc l)
theorem DSrc.keep {w w' : World} {p : Nat} {gb : Option Nat} {l : List ByteArray} (h : DSrc w p gb l) (h1 : w'.heap[p]? = w.heap[p]?) (h2 : ∀ g, gb = some g → w'.heap[g]? = w.heap[g]?) : DSrc w' p gb l := by
  obtain ⟨v, hv, hl⟩ := h
  exact ⟨v, h1.trans hv, hl.keep h2⟩
theorem DSrc.blt {w : World} {p : Nat} {gb : Option Nat} {l : List ByteArray} (h : DSrc w p gb l) : ∀ g, gb = some g → g < w.heap.size ∧ ∃ cur, w.heap[g]? = some (.cells cur 9 (0, 0)) := by
  obtain ⟨v, hv, hl⟩ := h
  exact fun g hg => hl.lt g hg

/-- how putting a draw behind the others ends, in the document's source -/
def DpOut (p : Nat) (gb : Option Nat) (l : List ByteArray) (w w' : World) : Prop := ∃ gb', (gb' = gb ∨ ∃ g, gb' = some g ∧ w.heap.size ≤ g) ∧ DSrc w' p gb' l ∧ Fr p gb w w'
def DtOut (p : Nat) (gb : Option Nat) (l : List ByteArray) (w w' : World) : Prop := ∃ gb', (gb' = gb ∨ gb' = none) ∧ DSrc w' p gb' l ∧ Fr p none w w'

theorem newDoc_any (w : World) :
    Calls Tryd.prog 12 #[] w fun e w' => e = .returned (ptr w.heap.size) ∧ w' = w.alloc (.cells #[.slice none 0 0] 63) := by
  go_enter Tryd.func12, Tryd.ntmps12
  go_wp2
  go_ret
  exact ⟨rfl, rfl⟩

set_option maxHeartbeats 800000 in
theorem dleft_any (w : World) (p : Nat) (gb : Option Nat) (l : List ByteArray) (h : DSrc w p gb l) :
    Calls Tryd.prog 18 #[ptr p] w fun e w' => e = .returned (.int .i64 l.length) ∧ w' = w := by
  obtain ⟨v, hv, hl⟩ := h
  obtain ⟨ao, cap, rfl⟩ := hl.len
  have c0 := cell0 hv
  clear hl hv
  generalize l.length = n at *
  go_enter Tryd.func18, Tryd.ntmps18
  go_wp2
  go_ret
  exact ⟨rfl, rfl⟩

set_option maxHeartbeats 800000 in
theorem dpush_size (w : World) (p : Nat) (s : ByteArray) (hs : s.size ≠ 32) :
    Calls Tryd.prog 14 #[ptr p, .string s] w fun e w' => e = .returned (.int .i64 1) ∧ w' = w := by
  have h1 : ¬ (s.size : Int) = 32 := by omega
  have h2 : ((s.size : Int) == 32) = false := beq_false_of_ne h1
  clear hs
  go_enter Tryd.func14, Tryd.ntmps14
  go_wp2
  go_ret
  exact ⟨rfl, rfl⟩

set_option maxHeartbeats 800000 in
theorem dpush_many (w : World) (p : Nat) (gb : Option Nat) (l : List ByteArray) (s : ByteArray) (hs : s.size = 32) (hl : 1024 ≤ l.length) (h : DSrc w p gb l) :
    Calls Tryd.prog 14 #[ptr p, .string s] w fun e w' => e = .returned (.int .i64 3) ∧ w' = w := by
  obtain ⟨v, hv, hL⟩ := h
  obtain ⟨ao, cap, rfl⟩ := hL.len
  have c1 := cell0 hv
  have h1 : (1024 : Int) ≤ (l.length : Int) := by omega
  have h2 : ((s.size : Int) == 32) = true := by rw [hs]; rfl
  clear hs hv hL hl
  generalize l.length = n at *
  go_enter Tryd.func14, Tryd.ntmps14
  go_wp2
  go_ret
  exact ⟨rfl, rfl⟩

theorem sc_snoc (l : List ByteArray) (s : ByteArray) : ss.sc (l ++ [s]) = ss.sc l ++ [.string s] := by simp [ss.sc]
theorem news1 (w : World) (v : Value) (t : TypeId) : ∀ j u, ([v] : List Value)[j]? = some u → (w.alloc (.cells #[v] t)).cell? ((⟨w.heap.size, 0, none⟩ : Addr).add j) = some u :=
  World.news_of_block (cs := #[v]) (t := t) (fr := (0, 0)) (heap_alloc_new w _)

set_option maxRecDepth 100000 in
set_option maxHeartbeats 1600000 in
theorem dpush_room (w : World) (p g o cap : Nat) (l : List ByteArray) (s : ByteArray) (hs : s.size = 32) (hl : l.length < 1024)
    (hv : w.heap[p]? = some (.cells #[.slice (some ⟨g, o, none⟩) l.length cap] 63 (0, 0))) (hL : Ln w 9 1 (some g) (.slice (some ⟨g, o, none⟩) l.length cap) l.length (ss.sc l)) (hroom : l.length + 1 ≤ cap) :
    Calls Tryd.prog 14 #[ptr p, .string s] w fun e w' => e = .returned (.int .i64 0) ∧ DpOut p (some g) (l ++ [s]) w w' := by
  have hp : p < w.heap.size := (Array.getElem?_eq_some_iff.1 hv).1
  have hpg : p ≠ g := fun e => by
    obtain ⟨_, cur, hc⟩ := hL.lt g rfl
    rw [← e, hv] at hc
    simp at hc
  have hg : g < w.heap.size := (hL.lt g rfl).1
  obtain ⟨i0, hi, hz0, hz1, hz2⟩ := info_parts ss.infoS
  have cw := cell0 hv
  have q1 : ((s.size : Int) == 32) = true := by rw [hs]; rfl
  have q2 : ¬ (1024 : Int) ≤ (l.length : Int) := by omega
  obtain ⟨W1, hW1⟩ : ∃ W1, W1 = w.alloc (.cells #[.string s] 9) := ⟨_, rfl⟩
  have hv1 : W1.heap[p]? = some (.cells #[.slice (some ⟨g, o, none⟩) l.length cap] 63 (0, 0)) := by rw [hW1]; exact (heap_alloc_old w _ hp).trans hv
  have hL1 : Ln W1 9 1 (some g) (.slice (some ⟨g, o, none⟩) l.length cap) l.length (ss.sc l) := hL.keep fun k hk => by cases hk; rw [hW1]; exact heap_alloc_old w _ hg
  have hb1 : Below w.heap.size w W1 := by rw [hW1]; exact (Below.refl _ _).alloc (Nat.le_refl _) _
  have HN : Hid (∀ j u, ([.string s] : List Value)[j]? = some u → W1.cell? ((⟨w.heap.size, 0, none⟩ : Addr).add j) = some u) := by rw [hW1]; exact news1 w _ _
  have hv2 : (W1.setCells g (o + l.length * 1) [.string s]).heap[p]? = some (.cells #[.slice (some ⟨g, o, none⟩) l.length cap] 63 (0, 0)) := (sets_other _ _ _ _ _ hpg).trans hv1
  have c2 := cell0 hv2
  have f2 := free0 hv2
  have hL2 := hL1.room hroom (news := [.string s]) rfl
  have HO : Hid (∀ j u, (ss.sc l)[j]? = some u → W1.cell? ⟨g, o + j, none⟩ = some u) := by
    rcases hL1.2 with ⟨h0, _⟩ | ⟨g', o', cap', h0, hv', _, _, _, _, hr⟩
    · cases h0
    · cases h0
      cases hv'
      exact fun j u hu => hr j u hu
  have HSP : Hid (∀ j, j < 1 → (W1.cell? ⟨g, o + l.length * 1 + j, none⟩).isSome = true ∧ W1.frozen? ⟨g, o + l.length * 1 + j, none⟩ = false) := by
    intro j hj
    rcases hL1.2 with ⟨h0, _⟩ | ⟨g', o', cap', h0, hv', _, _, _, ht, _⟩
    · cases h0
    · cases h0
      cases hv'
      have := ht (l.length * 1 + j) (by omega)
      rwa [← Nat.add_assoc] at this
  have HV2 := hide hv2
  have HL2 := hide hL2
  have HB1 := hide hb1
  have HPG := hide hpg
  have HR := hide hroom
  have HP := hide hp
  have HW1 := hide hW1
  have HSL : Hid ((ss.sc l).length = l.length * 1) := hL.1
  have HL := hide hl
  rw [Nat.mul_one] at c2 f2
  clear hv hL hv1 hL1 hb1 hv2 hL2 hpg hg hp hs hroom hW1 hl
  go_enter Tryd.func14, Tryd.ntmps14
  go_wp2_with (at_builtin; refine wpList_append_arg _ rfl _ _ 22 rfl 9 i0 (.string ⟨#[]⟩) 1 16 Tryd.underlying22 hi hz0 hz1 hz2 rfl (by decide) g o l.length cap (ss.sc l) rfl HSL.out (by rw [← HW1.out]; exact HO.out) ⟨w.heap.size, 0, none⟩ 1 1 [.string s] rfl rfl (by rw [← HW1.out]; exact HN.out) (by intro u hu; simp at hu; subst hu; rfl) (fun _ => by rw [← HW1.out]; exact HSP.out) (by have := HL.out; unfold maxLen; omega) (by have := HL.out; omega) ?_ (fun h => absurd HR.out (by omega)))
  intro _
  rw [← HW1.out]
  go_wp2
  go_ret
  have e1 : o + l.length * 1 = o + l.length := by omega
  rw [e1] at HV2 HL2
  refine ⟨rfl, some g, Or.inl rfl, ⟨_, set_here HV2.out, ?_⟩, ?_⟩
  · have := HL2.out.keep (w' := (W1.setCells g (o + l.length) [.string s]).setCell ⟨p, 0, none⟩ (.slice (some ⟨g, o, none⟩) (l.length + 1) cap)) fun k hk => by cases hk; exact set_other _ _ _ _ (Ne.symm HPG.out)
    rw [sc_snoc, List.length_append]
    exact this
  · refine ⟨?_, ?_, ?_, ?_, fun k hk h1 h2 => ?_⟩
    · exact (os_sets g _ _ _).1.trans HB1.out.os
    · exact (os_sets g _ _ _).2.1.trans HB1.out.tape
    · exact (os_sets g _ _ _).2.2.trans HB1.out.output
    · rw [size_set, size_sets]
      exact HB1.out.size
    · rw [set_other _ _ _ _ h1, sets_other _ _ _ _ _ (fun e => h2 (by rw [e]))]
      exact HB1.out.block k hk

set_option maxRecDepth 100000 in
set_option maxHeartbeats 1600000 in
theorem dpush_grow (w : World) (p cap : Nat) (gb : Option Nat) (ao : Option Addr) (l : List ByteArray) (s : ByteArray) (hs : s.size = 32) (hl : l.length < 1024)
    (hv : w.heap[p]? = some (.cells #[.slice ao l.length cap] 63 (0, 0))) (hnone : ao = none → l.length = 0 ∧ cap = 0)
    (holds : ∀ b, ao = some b → ∀ j u, (ss.sc l)[j]? = some u → (l.length = 0 ∨ b.block < w.heap.size) ∧ w.cell? (b.add j) = some u) (hlen : (ss.sc l).length = l.length * 1) (hroom : cap < l.length + 1) :
    Calls Tryd.prog 14 #[ptr p, .string s] w fun e w' => e = .returned (.int .i64 0) ∧ DpOut p gb (l ++ [s]) w w' := by
  have hp : p < w.heap.size := (Array.getElem?_eq_some_iff.1 hv).1
  obtain ⟨i0, hi, hz0, hz1, hz2⟩ := info_parts ss.infoS
  have cw := cell0 hv
  have q1 : ((s.size : Int) == 32) = true := by rw [hs]; rfl
  have q2 : ¬ (1024 : Int) ≤ (l.length : Int) := by omega
  obtain ⟨W1, hW1⟩ : ∃ W1, W1 = w.alloc (.cells #[.string s] 9) := ⟨_, rfl⟩
  have hv1 : W1.heap[p]? = some (.cells #[.slice ao l.length cap] 63 (0, 0)) := by rw [hW1]; exact (heap_alloc_old w _ hp).trans hv
  have hb1 : Below w.heap.size w W1 := by rw [hW1]; exact (Below.refl _ _).alloc (Nat.le_refl _) _
  have z1 : W1.heap.size = w.heap.size + 1 := by rw [hW1]; simp
  have HN : Hid (∀ j u, ([.string s] : List Value)[j]? = some u → W1.cell? ((⟨w.heap.size, 0, none⟩ : Addr).add j) = some u) := by rw [hW1]; exact news1 w _ _
  have HO : Hid (∀ b, ao = some b → ∀ j u, (ss.sc l)[j]? = some u → W1.cell? (b.add j) = some u) := by
    intro b hb j u hu
    obtain ⟨hb2, hc⟩ := holds b hb j u hu
    have hlt : b.block < w.heap.size := by
      rcases hb2 with h0 | h0
      · have hj := (List.getElem?_eq_some_iff.1 hu).1
        rw [hlen, h0] at hj
        omega
      · exact h0
    have hbl : (b.add j).block = b.block := by unfold Addr.add; split <;> rfl
    rw [← hc]
    apply World.cell?_of_block
    rw [hbl]
    exact hb1.block _ hlt
  have HV1 := hide hv1
  have HB1 := hide hb1
  have HZ1 := hide z1
  have HR := hide hroom
  have HP := hide hp
  have HW1 := hide hW1
  have HSL := hide hlen
  have HNN := hide hnone
  have HL := hide hl
  clear hv hv1 hb1 z1 hp hs hroom hW1 hl holds hlen hnone
  go_enter Tryd.func14, Tryd.ntmps14
  go_wp2_with (at_builtin; refine wpList_append_grows _ rfl _ _ 22 rfl 9 i0 (.string ⟨#[]⟩) 1 16 Tryd.underlying22 hi hz0 hz1 hz2 rfl (by decide) ao l.length cap (ss.sc l) rfl HNN.out HSL.out (by rw [← HW1.out]; exact HO.out) ⟨w.heap.size, 0, none⟩ 1 1 [.string s] rfl rfl (by rw [← HW1.out]; exact HN.out) (by intro u hu; simp at hu; subst hu; rfl) HR.out (by have := HL.out; unfold maxLen; omega) (by have := HL.out; omega) ?_)
  rw [← HW1.out]
  intro v' w4 hown hgrow
  obtain ⟨gg, cap', rfl⟩ := own_form hown (Nat.succ_pos _)
  have hv5 : w4.heap[p]? = some (.cells #[.slice ao l.length cap] 63 (0, 0)) := (hgrow.block p (by have := HP.out; have := HZ1.out; omega) (by simp)).trans HV1.out
  have c5 := cell0 hv5
  have f5 := free0 hv5
  have HO5 := hide hown
  have HG5 := hide hgrow
  have HV5 := hide hv5
  clear hown hgrow hv5
  go_wp2
  go_ret
  obtain ⟨gn, hln, hge⟩ := Ln.own HO5.out (Nat.succ_pos _)
  refine ⟨rfl, some gn, Or.inr ⟨gn, rfl, by have := HZ1.out; omega⟩, ⟨_, set_here HV5.out, ?_⟩, ?_⟩
  · have := hln.keep (w' := w4.setCell ⟨p, 0, none⟩ (.slice (some ⟨gg, 0, none⟩) (l.length + 1) cap')) fun k hk => by cases hk; exact set_other _ _ _ _ (by show _ ≠ p; have := HP.out; have := HZ1.out; omega)
    rw [sc_snoc, List.length_append]
    exact this
  · refine ⟨HG5.out.os.trans HB1.out.os, HG5.out.tape.trans HB1.out.tape, HG5.out.output.trans HB1.out.output, ?_, fun k hk h1 h2 => ?_⟩
    · rw [size_set]
      exact Nat.le_trans HB1.out.size HG5.out.size
    · rw [set_other _ _ _ _ h1]
      exact (HG5.out.block k (by have := HZ1.out; omega) (by simp)).trans (HB1.out.block k hk)

theorem dpush_good (w : World) (p : Nat) (gb : Option Nat) (l : List ByteArray) (s : ByteArray) (hs : s.size = 32) (hl : l.length < 1024) (h : DSrc w p gb l) :
    Calls Tryd.prog 14 #[ptr p, .string s] w fun e w' => e = .returned (.int .i64 0) ∧ DpOut p gb (l ++ [s]) w w' := by
  obtain ⟨v, hv, hL⟩ := h
  rcases hL.2 with ⟨rfl, h0, ao, rfl⟩ | ⟨g, o, cap, rfl, rfl, _, h1, h2, h3, h4⟩
  · have hnil : ss.sc l = [] := List.eq_nil_of_length_eq_zero (by rw [hL.1, h0])
    have hv' : w.heap[p]? = some (.cells #[.slice ao l.length 0] 63 (0, 0)) := by rw [h0]; exact hv
    exact dpush_grow w p 0 none ao l s hs hl hv' (fun _ => ⟨h0, rfl⟩) (fun b _ j u hu => by rw [hnil] at hu; cases hu) hL.1 (by omega)
  · by_cases hr : l.length + 1 ≤ cap
    · exact dpush_room w p g o cap l s hs hl hv hL hr
    · refine dpush_grow w p cap (some g) _ l s hs hl hv (fun e => by cases e) (fun b hb j u hu => ?_) hL.1 (by omega)
      cases hb
      refine ⟨Or.inr (hL.lt g rfl).1, ?_⟩
      rw [Addr.add_lit]
      exact h4 j u hu

set_option maxHeartbeats 800000 in
theorem peek_dry (w : World) (p : Nat) (gb : Option Nat) (h : DSrc w p gb []) :
    Calls Tryd.prog 24 #[ptr p] w fun e w' => e = .returned (.tuple #[.string ⟨#[]⟩, .int .i64 7]) ∧ w' = w := by
  obtain ⟨v, hv, hL⟩ := h
  obtain ⟨ao, cap, rfl⟩ := hL.len
  have c1 := cell0 hv
  have hl0 : ([] : List ByteArray).length = 0 := rfl
  rw [hl0] at c1
  clear hv hL hl0
  go_enter Tryd.func24, Tryd.ntmps24
  go_wp2
  go_ret2
  exact ⟨rfl, rfl⟩

set_option maxHeartbeats 1600000 in
theorem peek_any (w : World) (p : Nat) (gb : Option Nat) (d : ByteArray) (l : List ByteArray) (hd : d.size = 32) (h : DSrc w p gb (d :: l)) :
    Calls Tryd.prog 24 #[ptr p] w fun e w' => e = .returned (.tuple #[.string (idn d.data.toList), .int .i64 0]) ∧ Below w.heap.size w w' := by
  obtain ⟨v, hv, hL⟩ := h
  have hsc : ss.sc (d :: l) = [.string d] ++ ss.sc l := rfl
  rw [hsc] at hL
  obtain ⟨g, o, cap, rfl, rfl, hcap, hr, hg, _⟩ := hL.tail rfl
  have c1 := cell0 hv
  have c2 : w.cell? ⟨g, o, none⟩ = some (.string d) := by have := hr 0 (.string d) rfl; simpa using this
  have HU : Hid (Calls Tryd.prog 7 #[.string d] w fun x w' => x = .returned (.string (idn d.data.toList)) ∧ Below w.heap.size w w') := radw.refUrl_any d w (by omega)
  have k1 : (0 : Int) < (l.length : Int) + 1 := by omega
  have k2 : (((l.length : Int) + 1) == 0) = false := beq_false_of_ne (by omega)
  have k3 : ¬ (l.length : Int) + 1 = 0 := by omega
  clear hv hL hr hsc hd
  generalize idn d.data.toList = I at *
  generalize l.length = n at *
  go_enter Tryd.func24, Tryd.ntmps24
  go_wp2_with fail
  refine HU.out.mono ?_
  rintro x w1 ⟨rfl, hb⟩
  have HB := hide hb
  clear hb
  go_wp2
  go_ret2
  exact ⟨rfl, HB.out⟩

set_option maxRecDepth 100000 in
set_option maxHeartbeats 1600000 in
theorem drop_any (w : World) (p : Nat) (gb : Option Nat) (d : ByteArray) (l : List ByteArray) (h : DSrc w p gb (d :: l)) :
    Calls Tryd.prog 25 #[ptr p] w fun e w' => e = .returned (.tuple #[]) ∧ DtOut p gb l w w' := by
  obtain ⟨v, hv, hL⟩ := h
  have hsc : ss.sc (d :: l) = [.string d] ++ ss.sc l := rfl
  rw [hsc] at hL
  obtain ⟨g, o, cap, rfl, rfl, hcap, hr, hg, gb', hgb, ht⟩ := hL.tail rfl
  have c1 := cell0 hv
  have f1 := free0 hv
  have hp : p < w.heap.size := (Array.getElem?_eq_some_iff.1 hv).1
  have hpg : p ≠ g := fun e => by
    obtain ⟨_, cur, hc⟩ := hL.lt g rfl
    rw [← e, hv] at hc
    simp at hc
  have HE : Hid (∀ u, Ln w 9 1 gb' u l.length (ss.sc l) → DtOut p (some g) l w (w.setCell ⟨p, 0, none⟩ u)) := fun u hu =>
    ⟨gb', hgb, ⟨u, set_here hv, hu.keep fun k hk => set_other _ _ _ _ (by
      rcases hgb with h | h
      · rw [h] at hk; cases hk; exact Ne.symm hpg
      · rw [h] at hk; cases hk)⟩, rfl, rfl, rfl, Nat.le_of_eq (size_set _ _ _).symm, fun k hk h1 _ => set_other _ _ _ _ h1⟩
  have HT := hide ht
  have k1 : (0 : Int) < (l.length : Int) + 1 := by omega
  have k2 : (1 : Int) ≤ (l.length : Int) + 1 := by omega
  have k3 : (l.length : Int) + 1 ≤ (cap : Int) + 1 := by omega
  have k4 : (1 : Int) ≤ (cap : Int) + 1 := by omega
  have k5 : (1 : Nat) ≤ l.length + 1 := by omega
  have k6 : l.length + 1 ≤ cap + 1 := by omega
  clear hv hL hr hsc ht hp hpg
  go_enter Tryd.func25, Tryd.ntmps25
  go_wp2
  case inl =>
    go_end0
    have e : cap = 0 := by assumption
    have h2 := HT.out
    rw [e, if_pos rfl] at h2
    exact ⟨rfl, HE.out _ h2⟩
  case inr =>
    go_end0
    have e : ¬ cap = 0 := by assumption
    have h2 := HT.out
    rw [if_neg e] at h2
    exact ⟨rfl, HE.out _ h2⟩

end Go.Proofs.YtpfamgahnphceaaDoor.pk
