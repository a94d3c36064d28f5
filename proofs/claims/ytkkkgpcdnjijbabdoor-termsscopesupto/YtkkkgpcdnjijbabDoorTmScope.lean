import Derived.Test.YtkkkgpcdnjijbabDoorTmAll
import Derived.Test.YtkkkgpcdnjijbabDoorTmSeq
namespace Go.Proofs.YtkkkgpcdnjijbabDoor.tm
open Go.ChangeShapes Go.WideShapes Go.ChangeAt Go.RowKit Go.Proofs.YtkkkgpcdnjijbabDoor.common Go.Proofs.YtkkkgpcdnjijbabDoor.bk
attribute [local go_sem ↓] Go.wp_at_zero Go.wp_at_succ

/-- a scope's byte -/
def scB (b : UInt8) : Bool := Tm.btw 33 126 b && decide (b.toNat ≠ 34) && decide (b.toNat ≠ 92)

set_option maxHeartbeats 1600000 in
theorem sc_tests : Tests 47 scB := by
  intro w c
  have HV := hide (vis_tests w c)
  have HS : Hid (scB c = (Tm.btw 33 126 c && decide (c.toNat ≠ 34) && decide (c.toNat ≠ 92))) := rfl
  generalize Tm.btw 33 126 c = t at *
  cases t with
  | false =>
    go_enter Tryd.func47, Tryd.ntmps47
    go_wp2_with (go_at_call 70; refine HV.out.mono ?_; rintro x w2 ⟨rfl, rfl⟩)
    go_ret
    exact ⟨by rw [HS.out]; rfl, rfl⟩
  | true =>
    by_cases h1 : c.toNat = 34
    · have h1i : (c.toNat : Int) = 34 := by omega
      have HR : Hid (scB c = false) := by show _ = _; rw [HS.out, h1]; rfl
      go_enter Tryd.func47, Tryd.ntmps47
      go_wp2_with (go_at_call 70; refine HV.out.mono ?_; rintro x w2 ⟨rfl, rfl⟩)
      go_ret
      exact ⟨by rw [HR.out]; rfl, rfl⟩
    · have h1i : ¬ (c.toNat : Int) = 34 := by omega
      have h1b : ((c.toNat : Int) == 34) = false := beq_false_of_ne h1i
      by_cases h2 : c.toNat = 92
      · have h2i : (c.toNat : Int) = 92 := by omega
        have HR : Hid (scB c = false) := by show _ = _; rw [HS.out, h2]; rfl
        go_enter Tryd.func47, Tryd.ntmps47
        go_wp2_with (go_at_call 70; refine HV.out.mono ?_; rintro x w2 ⟨rfl, rfl⟩)
        go_ret
        exact ⟨by rw [HR.out]; rfl, rfl⟩
      · have h2i : ¬ (c.toNat : Int) = 92 := by omega
        have h2b : ((c.toNat : Int) == 92) = false := beq_false_of_ne h2i
        have HR : Hid (scB c = true) := by show _ = _; rw [HS.out, decide_eq_true h1, decide_eq_true h2]; rfl
        go_enter Tryd.func47, Tryd.ntmps47
        go_wp2_with (go_at_call 70; refine HV.out.mono ?_; rintro x w2 ⟨rfl, rfl⟩)
        go_ret
        exact ⟨by rw [HR.out]; show Ending.returned (Value.bool ((c.toNat : Int) != 34 && (c.toNat : Int) != 92)) = _; rw [bne_iff_ne.2 h1i, bne_iff_ne.2 h2i]; rfl, rfl⟩
theorem sc_enters : Enters 47 := enters_of Tryd.func47 (by kernel_rfl) rfl

set_option maxRecDepth 100000 in
set_option maxHeartbeats 1600000 in
/-- of a text of any length -/
theorem isWord_most (s : ByteArray) (most : Nat) (g : Nat) (p : UInt8 → Bool) (w : World) (hmost : most ≤ 4611686018427387904) (eg : Enters g) (hf : Tests g p) :
    Calls Tryd.prog 46 #[.string s, .int .i64 most, .func (.func g) #[] #[]] w fun e w' => e = .returned (.bool (Tm.word most p s.data.toList)) ∧ w' = w := by
  by_cases hm : s.size ≤ most
  · exact isWord_any s most g p w (Nat.le_trans hm hmost) eg hf
  · clear hf eg
    have he : s ≠ ⟨#[]⟩ := fun e => hm (by rw [e]; exact Nat.zero_le _)
    obtain ⟨h1, h2, h3⟩ := word_ne he
    have hmi : ¬ (s.size : Int) ≤ (most : Int) := by omega
    have HR : Hid (Tm.word most p s.data.toList = false) := by
      show _ = _
      unfold Tm.word
      rw [len_list, decide_eq_false hm]; simp
    rw [HR.out]
    go_enter Tryd.func46, Tryd.ntmps46
    go_wp2_with fail
    go_ret
    exact ⟨rfl, rfl⟩

/-- one result, a bool in a cell -/
theorem results_bool {fn : Func} {p : Tmp} {w : World} {b : Nat} {v : Value} (h : fn.results = #[.cell p 4]) (tmps : Array Value) (hx : tmps.getD p undef = .pointer (some ⟨b, 0, none⟩)) (hc : w.cell? ⟨b, 0, none⟩ = some v) :
    (results fn tmps).run Tryd.prog w = .ok v w := by
  have hx' : tmps[p]?.getD undef = .pointer (some ⟨b, 0, none⟩) := by simpa using hx
  simp only [results, h]
  simp [hx', asAddr, loadVar, Tryd.isAgg4, hc]

/-- one scope -/
def isSc (s : ByteArray) : Bool := Tm.word 32 scB s.data.toList
/-- scopes with one blank between each two -/
def areSc (s : ByteArray) : Bool := (tsq.parts 32 s).all isSc

end Go.Proofs.YtkkkgpcdnjijbabDoor.tm

namespace Go.Proofs.YtkkkgpcdnjijbabDoor.tm
open Go.RowKit Go.Shelf Go.Proofs.YtkkkgpcdnjijbabDoor.common Go.Proofs.YtkkkgpcdnjijbabDoor.bk
open Go.Proofs.YtkkkgpcdnjijbabDoor.rgr (Seq range_law post)
open Go.Proofs.YtkkkgpcdnjijbabDoor.tsq
attribute [local go_sem] Oper.semAt_some

/-- the walk's own cell, and nothing below it -/
def ScInv (w : World) (v : Value) (W : World) : Prop := Boxed W w.heap.size 4 v ∧ Below w.heap.size w W
theorem sc_abides (w : World) (N b : Nat) (v : Value) (p : List ByteArray → Prop) (hN : w.heap.size < N) (hb : w.heap.size < b) : rgr.Abides (α := ByteArray) N b (fun pre W => ScInv w v W ∧ p pre) where
  put := by
    rintro pre A l o o' ⟨⟨hv, hB⟩, hp⟩ hl ho hc
    refine ⟨⟨hv.kept (grownBy_putObj' A l o') (fun e => by cases e; omega), ?_⟩, hp⟩
    exact hB.trans ((Below.refl _ A).grown (grownBy_putObj' A l o') hB.size (fun k e => by cases e; omega))
  alloc := by
    rintro pre A o ⟨⟨hv, hB⟩, hp⟩
    exact ⟨⟨hv.alloc o, hB.alloc hB.size o⟩, hp⟩
  set := by
    rintro pre A u ⟨⟨hv, hB⟩, hp⟩
    exact ⟨⟨hv.other (by omega) u, hB.setCell (p := ⟨b, 0, none⟩) (by show w.heap.size ≤ b; omega) u⟩, hp⟩
  drew := by
    rintro pre A ⟨⟨hv, hB⟩, hp⟩
    exact ⟨⟨hv, hB.drew⟩, hp⟩

set_option maxRecDepth 100000 in
set_option maxHeartbeats 6400000 in
theorem areScopes_any (s : ByteArray) (w : World) (hs : s.size ≤ reachBytes) :
    Calls Tryd.prog 27 #[.string s] w fun e w' => e = .returned (.bool (areSc s)) ∧ Below w.heap.size w w' := by
  refine (callsIn_wide (n := 5)).1 ?_
  refine callsIn_of_wp_marks Tryd.func27 rfl trivial ?_ rfl
  simp only [Tryd.ntmps27, List.size_toArray, List.length_cons, List.length_nil, Nat.reduceAdd, Nat.reduceSub, Array.replicate_succ, Array.replicate_zero, List.push_toArray, List.append_toArray, List.nil_append, List.cons_append]
  gi_wp2
  refine ⟨trivial, (callsIn_wide.2 (splitFace_any 32 s _)).mono ?_⟩
  rintro e w' ⟨rfl, rfl⟩
  gi_wp2
  have hsz : (w.alloc (.cells #[.bool false] 4)).heap.size = w.heap.size + 1 := by simp
  have hN := boxes_size 32 (w.alloc (.cells #[.bool false] 4)) s
  have hBX := boxes_new 32 (w.alloc (.cells #[.bool false] 4)) s
  have hB0 := ((Below.refl _ w).alloc (Nat.le_refl _) (.cells #[.bool false] 4)).trans ((boxes_below 32 (w.alloc (.cells #[.bool false] 4)) s).mono (by rw [hsz]; omega))
  have hbo : Boxed (boxesOf 32 (w.alloc (.cells #[.bool false] 4)) s) w.heap.size 4 (.bool false) := (((Boxed.new w 4 (.bool false)).alloc _).alloc _).alloc _
  rw [hsz] at hN hBX
  generalize boxesOf 32 (w.alloc (.cells #[.bool false] 4)) s = W0 at *
  refine range_law (b := w.heap.size + 1) rfl (by omega) (gf := 90) rfl trivial (enters_of Tryd.func90 (by kernel_rfl) rfl) (enc := fun x : ByteArray => #[Value.string x]) (fun _ => rfl) (by omega)
    (split_seq 32 4 s hs (w.heap.size + 1 + 1) (w.heap.size + 1) (w.heap.size + 1 + 2) (by omega) (by omega) W0 hBX)
    (fun h k => ⟨k.1.trans h.1, k.2.1.trans h.2.1, k.2.2.trans h.2.2⟩)
    (fun A l o hl => ⟨World.putObj_heap_other (by omega), World.putObj_heap_other (by omega), World.putObj_heap_other (by omega)⟩)
    (fun o o' => ⟨?n1, ?n2, ?n3⟩)
    (fun pre W => ScInv w (.bool false) W ∧ pre.all isSc = true) (fun pre W => ScInv w (.bool false) W ∧ pre.all isSc = false)
    (sc_abides w _ _ _ (fun pre => pre.all isSc = true) (by omega) (by omega)) (sc_abides w _ _ _ (fun pre => pre.all isSc = false) (by omega) (by omega))
    ⟨⟨hbo, hB0⟩, rfl⟩
    (fun x => { tmps := #[.string s, undef, .pointer (some ⟨w.heap.size, 0, none⟩), .string x, .string s, .func (.func 90) #[] #[.pointer (some ⟨w.heap.size + 1 + 1, 0, none⟩), .pointer (some ⟨w.heap.size + 1, 0, none⟩), .pointer (some ⟨w.heap.size + 1 + 2, 0, none⟩)], .string x, undef, undef, undef], defers := [] }) ?assign ?body ?done ?stop
  case n1 => exact ((Below.heap_alloc _ _ _ (by simp; omega)).trans (Below.heap_alloc _ _ _ (by omega)))
  case n2 => exact ((Below.heap_alloc _ _ _ (by simp; omega)).trans (Below.heap_alloc _ _ _ (by omega)))
  case n3 => exact ((Below.heap_alloc _ _ _ (by simp; omega)).trans (Below.heap_alloc _ _ _ (by omega)))
  case assign =>
    intro l x W K hK
    gi_wp2
    exact hK
  case body =>
    rintro l pre x W ⟨⟨hv, hB⟩, hp⟩
    have HW := hide (isWord_most x 32 _ scB W (by decide) sc_enters sc_tests)
    have HA : Hid ((pre ++ [x]).all isSc = Tm.word 32 scB x.data.toList) := by show _ = _; rw [List.all_append, hp]; simp [isSc]
    have HV := hide hv
    have HB := hide hB
    clear hv hB hp
    gi_wp2
    refine ⟨trivial, ((callsIn_wide.2 HW.out).inRound l).mono ?_⟩
    rintro e W2 ⟨rfl, rfl⟩
    have hc := HV.out.cell
    have hf := HV.out.frozen
    cases ht : Tm.word 32 scB x.data.toList with
    | true =>
      rw [ht] at HA
      gi_wp2
      exact ⟨KeepsOthers.refl _, ⟨rfl, rfl, rfl⟩, ⟨HV.out, HB.out⟩, HA.out⟩
    | false =>
      rw [ht] at HA
      gi_wp2
      exact ⟨KeepsOthers.setCell _ _ _, ⟨HV.out.set _, HB.out.setCell (p := ⟨w.heap.size, 0, none⟩) (Nat.le_refl _) _⟩, HA.out⟩
  case done =>
    rintro D xs W hD rfl ⟨⟨hv, hB⟩, hp⟩ hK
    have hc := hv.cell
    have hf := hv.frozen
    gi_wp2
    have hv2 := hv.set (.bool true)
    have hB2 := hB.setCell (p := ⟨w.heap.size, 0, none⟩) (Nat.le_refl _) (.bool true)
    have hK2 : (W.setCell ⟨w.heap.size, 0, none⟩ (.bool true)).heap[D]? = some (.deferred (some [])) := (rgr.set_heap_other W w.heap.size D (.bool true) (by omega)).trans hK
    refine ⟨by simp, .inl ⟨_, _, rfl, run_takeDeferred hK2, ?_⟩⟩
    refine ⟨_, results_bool rfl _ rfl (hv2.kept (grownBy_putObj' _ D _) (fun e => by cases e; omega)).cell, ?_, hB2.trans ((Below.refl _ _).grown (grownBy_putObj' _ D _) hB2.size (fun k e => by cases e; omega))⟩
    show Ending.returned (.bool true) = _
    unfold areSc
    rw [hp]
  case stop =>
    rintro D pre W hD hpre ⟨⟨hv, hB⟩, hp⟩ hK
    gi_wp2
    refine ⟨by simp, .inl ⟨_, _, rfl, run_takeDeferred hK, ?_⟩⟩
    refine ⟨_, results_bool rfl _ rfl (hv.kept (grownBy_putObj' W D _) (fun e => by cases e; omega)).cell, ?_, hB.trans ((Below.refl _ W).grown (grownBy_putObj' W D _) hB.size (fun k e => by cases e; omega))⟩
    show Ending.returned (.bool false) = _
    obtain ⟨t, ht⟩ := hpre
    unfold areSc
    rw [← ht, List.all_append, hp]; rfl

end Go.Proofs.YtkkkgpcdnjijbabDoor.tm
