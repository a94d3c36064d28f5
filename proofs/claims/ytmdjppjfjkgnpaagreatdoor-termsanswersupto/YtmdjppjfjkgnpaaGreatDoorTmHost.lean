import Derived.Test.YtmdjppjfjkgnpaaGreatDoorTmPath
import Derived.Test.YtmdjppjfjkgnpaaGreatDoorTmScope
namespace Go.Proofs.YtmdjppjfjkgnpaaGreatDoor.tm
open Go.ChangeShapes Go.WideShapes Go.ChangeAt Go.RowKit Go.Proofs.YtmdjppjfjkgnpaaGreatDoor.common Go.Proofs.YtmdjppjfjkgnpaaGreatDoor.bk
open Go.Proofs.YtmdjppjfjkgnpaaGreatDoor.fd (before behind)
attribute [local go_sem ↓] Go.wp_at_zero Go.wp_at_succ

/-- the first byte and the last -/
def edge (l : List UInt8) : Bool := decide ((l.headD 0).toNat ≠ 45) && decide ((l.getLastD 0).toNat ≠ 45)
def isLab (s : ByteArray) : Bool := Tm.word 63 labB s.data.toList && edge s.data.toList
def hostN (s : ByteArray) : Bool := (tsq.parts 46 s).all isLab

theorem head_is (s : ByteArray) (h : 0 < s.size) : s.data.toList.headD 0 = s[0] := by
  have := drop_at2 s 0 h
  rw [List.drop_zero] at this
  rw [this]; rfl
theorem last_is (s : ByteArray) (h : 0 < s.size) : s.data.toList.getLastD 0 = s[s.size - 1] := by
  have hl : s.data.toList.length = s.size := len_list s
  rw [List.getLastD_eq_getLast?, List.getLast?_eq_getElem?, hl, List.getElem?_eq_getElem (by omega)]
  rfl

set_option maxRecDepth 100000 in
set_option maxHeartbeats 1600000 in
theorem isLabel_any (s : ByteArray) (w : World) :
    Calls Tryz.prog 52 #[.string s] w fun e w' => e = .returned (.bool (isLab s)) ∧ w' = w := by
  have HW := hide (isWord_most s 63 _ labB w (by decide) lab_enters lab_tests)
  have HS : Hid (isLab s = (Tm.word 63 labB s.data.toList && edge s.data.toList)) := rfl
  cases hw : Tm.word 63 labB s.data.toList with
  | false =>
    rw [hw] at HW HS
    clear hw
    go_enter Tryz.func52, Tryz.ntmps52
    go_wp2_with (go_at_call 67; refine HW.out.mono ?_; rintro x w2 ⟨rfl, rfl⟩)
    go_ret
    exact ⟨by rw [HS.out]; rfl, rfl⟩
  | true =>
    have hp : 0 < s.size := by
      cases hz : s.size with
      | succ n => omega
      | zero =>
        have : s.data.toList = [] := List.eq_nil_of_length_eq_zero (by rw [len_list]; exact hz)
        rw [this] at hw; exact absurd hw (by decide)
    have h63 : s.size ≤ 63 := by
      unfold Tm.word at hw
      rw [Bool.and_eq_true, Bool.and_eq_true] at hw
      have := of_decide_eq_true hw.1.2
      rwa [len_list] at this
    rw [hw] at HW HS
    have HE : Hid (∀ a b, decide (s[0].toNat = 45) = a → decide (s[s.size - 1].toNat = 45) = b → edge s.data.toList = (!a && !b)) := by
      intro a b ha hb
      unfold edge
      rw [head_is s hp, last_is s hp, ← ha, ← hb]
      simp
    have hpi : (0 : Int) < (s.size : Int) := by omega
    have w1 : IntKind.i64.wrap ((s.size : Int) - 1) = (s.size : Int) - 1 := wrap_le _ (by omega) (by omega)
    have t1 : ((s.size : Int) - 1).toNat = s.size - 1 := by omega
    have k1 : (0 : Int) ≤ (s.size : Int) - 1 := by omega
    have k2 : (s.size : Int) - 1 < (s.size : Int) := by omega
    have H1 := is_cases 45 45 rfl s[0]
    have H2 := is_cases 45 45 rfl s[s.size - 1]
    clear hw
    rcases H1 with ⟨u1, a1, a2⟩ | ⟨u1, a1, a2⟩ <;> rcases H2 with ⟨u2, b1, b2⟩ | ⟨u2, b1, b2⟩
    all_goals
      have HV := hide (HE.out _ _ u1 u2)
      clear HE
      go_enter Tryz.func52, Tryz.ntmps52
      go_wp2_with (go_at_call 67; refine HW.out.mono ?_; rintro x w2 ⟨rfl, rfl⟩)
      go_ret
      exact ⟨by rw [HS.out, HV.out]; first | rfl | (simp [bne, a2, b2]) | (simp [bne, a2]) | (simp [bne, b2]), rfl⟩

end Go.Proofs.YtmdjppjfjkgnpaaGreatDoor.tm

namespace Go.Proofs.YtmdjppjfjkgnpaaGreatDoor.tm
open Go.RowKit Go.Shelf Go.Proofs.YtmdjppjfjkgnpaaGreatDoor.common Go.Proofs.YtmdjppjfjkgnpaaGreatDoor.bk
open Go.Proofs.YtmdjppjfjkgnpaaGreatDoor.rgr (Seq range_law post)
open Go.Proofs.YtmdjppjfjkgnpaaGreatDoor.tsq
attribute [local go_sem] Oper.semAt_some

set_option maxRecDepth 100000 in
set_option maxHeartbeats 6400000 in
theorem isHostName_any (s : ByteArray) (w : World) (hs : s.size ≤ reachBytes) :
    Calls Tryz.prog 40 #[.string s] w fun e w' => e = .returned (.bool (hostN s)) ∧ Below w.heap.size w w' := by
  refine (callsIn_wide (n := 5)).1 ?_
  refine callsIn_of_wp_marks Tryz.func40 rfl trivial ?_ rfl
  simp only [Tryz.ntmps40, List.size_toArray, List.length_cons, List.length_nil, Nat.reduceAdd, Nat.reduceSub, Array.replicate_succ, Array.replicate_zero, List.push_toArray, List.append_toArray, List.nil_append, List.cons_append]
  gi_wp2
  refine ⟨trivial, (callsIn_wide.2 (splitFace_any 46 s _)).mono ?_⟩
  rintro e w' ⟨rfl, rfl⟩
  gi_wp2
  have hsz : (w.alloc (.cells #[.bool false] 4)).heap.size = w.heap.size + 1 := by simp
  have hN := boxes_size 46 (w.alloc (.cells #[.bool false] 4)) s
  have hBX := boxes_new 46 (w.alloc (.cells #[.bool false] 4)) s
  have hB0 := ((Below.refl _ w).alloc (Nat.le_refl _) (.cells #[.bool false] 4)).trans ((boxes_below 46 (w.alloc (.cells #[.bool false] 4)) s).mono (by rw [hsz]; omega))
  have hbo : Boxed (boxesOf 46 (w.alloc (.cells #[.bool false] 4)) s) w.heap.size 4 (.bool false) := (((Boxed.new w 4 (.bool false)).alloc _).alloc _).alloc _
  rw [hsz] at hN hBX
  generalize boxesOf 46 (w.alloc (.cells #[.bool false] 4)) s = W0 at *
  refine range_law (b := w.heap.size + 1) rfl (by omega) (gf := 82) rfl trivial (enters_of Tryz.func82 (by kernel_rfl) rfl) (enc := fun x : ByteArray => #[Value.string x]) (fun _ => rfl) (by omega)
    (split_seq 46 4 s hs (w.heap.size + 1 + 1) (w.heap.size + 1) (w.heap.size + 1 + 2) (by omega) (by omega) W0 hBX)
    (fun h k => ⟨k.1.trans h.1, k.2.1.trans h.2.1, k.2.2.trans h.2.2⟩)
    (fun A l o hl => ⟨World.putObj_heap_other (by omega), World.putObj_heap_other (by omega), World.putObj_heap_other (by omega)⟩)
    (fun o o' => ⟨?n1, ?n2, ?n3⟩)
    (fun pre W => ScInv w (.bool false) W ∧ pre.all isLab = true) (fun pre W => ScInv w (.bool false) W ∧ pre.all isLab = false)
    (sc_abides w _ _ _ (fun pre => pre.all isLab = true) (by omega) (by omega)) (sc_abides w _ _ _ (fun pre => pre.all isLab = false) (by omega) (by omega))
    ⟨⟨hbo, hB0⟩, rfl⟩
    (fun x => { tmps := #[.string s, undef, .pointer (some ⟨w.heap.size, 0, none⟩), .string x, .string s, .func (.func 82) #[] #[.pointer (some ⟨w.heap.size + 1 + 1, 0, none⟩), .pointer (some ⟨w.heap.size + 1, 0, none⟩), .pointer (some ⟨w.heap.size + 1 + 2, 0, none⟩)], .string x, undef, undef, undef], defers := [] }) ?assign ?body ?done ?stop
  case n1 => exact ((Below.heap_alloc _ _ _ (by simp; omega)).trans (Below.heap_alloc _ _ _ (by omega)))
  case n2 => exact ((Below.heap_alloc _ _ _ (by simp; omega)).trans (Below.heap_alloc _ _ _ (by omega)))
  case n3 => exact ((Below.heap_alloc _ _ _ (by simp; omega)).trans (Below.heap_alloc _ _ _ (by omega)))
  case assign =>
    intro l x W K hK
    gi_wp2
    exact hK
  case body =>
    rintro l pre x W ⟨⟨hv, hB⟩, hp⟩
    have HW := hide (isLabel_any x W)
    have HA : Hid ((pre ++ [x]).all isLab = isLab x) := by show _ = _; rw [List.all_append, hp]; simp
    have HV := hide hv
    have HB := hide hB
    clear hv hB hp
    gi_wp2
    refine ⟨trivial, ((callsIn_wide.2 HW.out).inRound l).mono ?_⟩
    rintro e W2 ⟨rfl, rfl⟩
    have hc := HV.out.cell
    have hf := HV.out.frozen
    cases ht : isLab x with
    | true =>
      rw [ht] at HA
      gi_wp2
      exact ⟨KeepsOthers.refl _, ⟨rfl, rfl, rfl⟩, ⟨HV.out, HB.out⟩, HA.out⟩
    | false =>
      rw [ht] at HA
      gi_wp2
      exact ⟨KeepsOthers.setCell _ _ _, ⟨HV.out.set _, HB.out.setCell (p := ⟨w.heap.size, 0, none⟩) (Nat.le_refl _) _⟩, HA.out⟩
  case done =>
    rintro D xs W hD rfl ⟨⟨hv, hB⟩, hp⟩ hK
    have hc := hv.cell
    have hf := hv.frozen
    gi_wp2
    have hv2 := hv.set (.bool true)
    have hB2 := hB.setCell (p := ⟨w.heap.size, 0, none⟩) (Nat.le_refl _) (.bool true)
    have hK2 : (W.setCell ⟨w.heap.size, 0, none⟩ (.bool true)).heap[D]? = some (.deferred (some [])) := (rgr.set_heap_other W w.heap.size D (.bool true) (by omega)).trans hK
    refine ⟨by simp, .inl ⟨_, _, rfl, run_takeDeferred hK2, ?_⟩⟩
    refine ⟨_, results_bool rfl _ rfl (hv2.kept (grownBy_putObj' _ D _) (fun e => by cases e; omega)).cell, ?_, hB2.trans ((Below.refl _ _).grown (grownBy_putObj' _ D _) hB2.size (fun k e => by cases e; omega))⟩
    show Ending.returned (.bool true) = _
    unfold hostN
    rw [hp]
  case stop =>
    rintro D pre W hD hpre ⟨⟨hv, hB⟩, hp⟩ hK
    gi_wp2
    refine ⟨by simp, .inl ⟨_, _, rfl, run_takeDeferred hK, ?_⟩⟩
    refine ⟨_, results_bool rfl _ rfl (hv.kept (grownBy_putObj' W D _) (fun e => by cases e; omega)).cell, ?_, hB.trans ((Below.refl _ W).grown (grownBy_putObj' W D _) hB.size (fun k e => by cases e; omega))⟩
    show Ending.returned (.bool false) = _
    obtain ⟨t, ht⟩ := hpre
    unfold hostN
    rw [← ht, List.all_append, hp]; rfl

end Go.Proofs.YtmdjppjfjkgnpaaGreatDoor.tm
