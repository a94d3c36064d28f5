import Derived.Test.YtilhfmhjgfmejaaGreatDoorMTmPath
import Derived.Test.YtilhfmhjgfmejaaGreatDoorMTermLays
import Derived.Shelf.Lays
import Derived.Shelf.Lays2
import Derived.Shelf.LaysM
import Derived.Shelf.LaysC
import Derived.Ground.NamesProg
import Derived.Ground.Names2Prog
import Derived.Test.YtilhfmhjgfmejaaGreatDoorProg
namespace Go.Proofs.YtilhfmhjgfmejaaGreatDoor.tm
open Go.ChangeShapes Go.WideShapes Go.ChangeAt Go.RowKit Go.Proofs.YtilhfmhjgfmejaaGreatDoor.common Go.Proofs.YtilhfmhjgfmejaaGreatDoor.bk
open Go.Proofs.YtilhfmhjgfmejaaGreatDoor.fd (before behind)
attribute [local go_sem ↓] Go.wp_at_zero Go.wp_at_succ

/-- the first byte and the last -/
def edge (l : List UInt8) : Bool := decide ((l.headD 0).toNat ≠ 45) && decide ((l.getLastD 0).toNat ≠ 45)
def isLab (s : ByteArray) : Bool := Tm.word 63 labB s.data.toList && edge s.data.toList
def hostN (s : ByteArray) : Bool := (tsq.parts 46 s).all isLab

theorem head_is (s : ByteArray) (h : 0 < s.size) : s.data.toList.headD 0 = s[0] := by
  have := drop_at2 s 0 h
  rw [List.drop_zero] at this
  rw [this]; rfl
theorem last_is (s : ByteArray) (h : 0 < s.size) : s.data.toList.getLastD 0 = s[s.size - 1] := by
  have hl : s.data.toList.length = s.size := len_list s
  rw [List.getLastD_eq_getLast?, List.getLast?_eq_getElem?, hl, List.getElem?_eq_getElem (by omega)]
  rfl

set_option maxRecDepth 100000 in
set_option maxHeartbeats 1600000 in
theorem isLabel_any (s : ByteArray) (w : World) :
    Calls Tryz.prog 134 #[.string s] w fun e w' => e = .returned (.bool (isLab s)) ∧ w' = w := by
  have HW := hide (isWord_most s 63 _ labB w (by decide) lab_enters lab_tests)
  have HS : Hid (isLab s = (Tm.word 63 labB s.data.toList && edge s.data.toList)) := rfl
  cases hw : Tm.word 63 labB s.data.toList with
  | false =>
    rw [hw] at HW HS
    clear hw
    go_enter Tryz.func134, Tryz.ntmps134
    go_wp2_with (go_at_call 68; refine HW.out.mono ?_; rintro x w2 ⟨rfl, rfl⟩)
    go_ret
    exact ⟨by rw [HS.out]; rfl, rfl⟩
  | true =>
    have hp : 0 < s.size := by
      cases hz : s.size with
      | succ n => omega
      | zero =>
        have : s.data.toList = [] := List.eq_nil_of_length_eq_zero (by rw [len_list]; exact hz)
        rw [this] at hw; exact absurd hw (by decide)
    have h63 : s.size ≤ 63 := by
      unfold Tm.word at hw
      rw [Bool.and_eq_true, Bool.and_eq_true] at hw
      have := of_decide_eq_true hw.1.2
      rwa [len_list] at this
    rw [hw] at HW HS
    have HE : Hid (∀ a b, decide (s[0].toNat = 45) = a → decide (s[s.size - 1].toNat = 45) = b → edge s.data.toList = (!a && !b)) := by
      intro a b ha hb
      unfold edge
      rw [head_is s hp, last_is s hp, ← ha, ← hb]
      simp
    have hpi : (0 : Int) < (s.size : Int) := by omega
    have w1 : IntKind.i64.wrap ((s.size : Int) - 1) = (s.size : Int) - 1 := wrap_le _ (by omega) (by omega)
    have t1 : ((s.size : Int) - 1).toNat = s.size - 1 := by omega
    have k1 : (0 : Int) ≤ (s.size : Int) - 1 := by omega
    have k2 : (s.size : Int) - 1 < (s.size : Int) := by omega
    have H1 := is_cases 45 45 rfl s[0]
    have H2 := is_cases 45 45 rfl s[s.size - 1]
    clear hw
    rcases H1 with ⟨u1, a1, a2⟩ | ⟨u1, a1, a2⟩ <;> rcases H2 with ⟨u2, b1, b2⟩ | ⟨u2, b1, b2⟩
    all_goals
      have HV := hide (HE.out _ _ u1 u2)
      clear HE
      go_enter Tryz.func134, Tryz.ntmps134
      go_wp2_with (go_at_call 68; refine HW.out.mono ?_; rintro x w2 ⟨rfl, rfl⟩)
      go_ret
      exact ⟨by rw [HS.out, HV.out]; first | rfl | (simp [bne, a2, b2]) | (simp [bne, a2]) | (simp [bne, b2]), rfl⟩

end Go.Proofs.YtilhfmhjgfmejaaGreatDoor.tm

namespace Go.Proofs.YtilhfmhjgfmejaaGreatDoor.tm
open Go.RowKit Go.Shelf Go.Proofs.YtilhfmhjgfmejaaGreatDoor.common Go.Proofs.YtilhfmhjgfmejaaGreatDoor.bk
open Go.Proofs.YtilhfmhjgfmejaaGreatDoor.rgr (Seq range_law post)
open Go.Proofs.YtilhfmhjgfmejaaGreatDoor.tsq
attribute [local go_sem] Oper.semAt_some

set_option maxRecDepth 100000 in
set_option maxHeartbeats 6400000 in
theorem isHostName_any (s : ByteArray) (w : World) (hs : s.size ≤ reachBytes) :
    Calls Tryz.prog 114 #[.string s] w fun e w' => e = .returned (.bool (hostN s)) ∧ Below w.heap.size w w' := by
  refine (callsIn_wide (n := 5)).1 ?_
  refine callsIn_of_wp_marks Tryz.func114 rfl trivial ?_ rfl
  simp only [Tryz.ntmps114, List.size_toArray, List.length_cons, List.length_nil, Nat.reduceAdd, Nat.reduceSub, Array.replicate_succ, Array.replicate_zero, List.push_toArray, List.append_toArray, List.nil_append, List.cons_append]
  gi_wp2
  refine ⟨trivial, (callsIn_wide.2 (splitFace_any 46 s _)).mono ?_⟩
  rintro e w' ⟨rfl, rfl⟩
  gi_wp2
  have hsz : (w.alloc (.cells #[.bool false] 4)).heap.size = w.heap.size + 1 := by simp
  have hN := boxes_size 46 (w.alloc (.cells #[.bool false] 4)) s
  have hBX := boxes_new 46 (w.alloc (.cells #[.bool false] 4)) s
  have hB0 := ((Below.refl _ w).alloc (Nat.le_refl _) (.cells #[.bool false] 4)).trans ((boxes_below 46 (w.alloc (.cells #[.bool false] 4)) s).mono (by rw [hsz]; omega))
  have hbo : Boxed (boxesOf 46 (w.alloc (.cells #[.bool false] 4)) s) w.heap.size 4 (.bool false) := (((Boxed.new w 4 (.bool false)).alloc _).alloc _).alloc _
  rw [hsz] at hN hBX
  generalize boxesOf 46 (w.alloc (.cells #[.bool false] 4)) s = W0 at *
  refine range_law (b := w.heap.size + 1) rfl (by omega) (gf := 159) rfl trivial (enters_of Tryz.func159 (by kernel_rfl) rfl) (enc := fun x : ByteArray => #[Value.string x]) (fun _ => rfl) (by omega)
    (split_seq 46 4 s hs (w.heap.size + 1 + 1) (w.heap.size + 1) (w.heap.size + 1 + 2) (by omega) (by omega) W0 hBX)
    (fun h k => ⟨k.1.trans h.1, k.2.1.trans h.2.1, k.2.2.trans h.2.2⟩)
    (fun A l o hl => ⟨World.putObj_heap_other (by omega), World.putObj_heap_other (by omega), World.putObj_heap_other (by omega)⟩)
    (fun o o' => ⟨?n1, ?n2, ?n3⟩)
    (fun pre W => ScInv w (.bool false) W ∧ pre.all isLab = true) (fun pre W => ScInv w (.bool false) W ∧ pre.all isLab = false)
    (sc_abides w _ _ _ (fun pre => pre.all isLab = true) (by omega) (by omega)) (sc_abides w _ _ _ (fun pre => pre.all isLab = false) (by omega) (by omega))
    ⟨⟨hbo, hB0⟩, rfl⟩
    (fun x => { tmps := #[.string s, undef, .pointer (some ⟨w.heap.size, 0, none⟩), .string x, .string s, .func (.func 159) #[] #[.pointer (some ⟨w.heap.size + 1 + 1, 0, none⟩), .pointer (some ⟨w.heap.size + 1, 0, none⟩), .pointer (some ⟨w.heap.size + 1 + 2, 0, none⟩)], .string x, undef, undef, undef], defers := [] }) ?assign ?body ?done ?stop
  case n1 => exact ((Below.heap_alloc _ _ _ (by simp; omega)).trans (Below.heap_alloc _ _ _ (by omega)))
  case n2 => exact ((Below.heap_alloc _ _ _ (by simp; omega)).trans (Below.heap_alloc _ _ _ (by omega)))
  case n3 => exact ((Below.heap_alloc _ _ _ (by simp; omega)).trans (Below.heap_alloc _ _ _ (by omega)))
  case assign =>
    intro l x W K hK
    gi_wp2
    exact hK
  case body =>
    rintro l pre x W ⟨⟨hv, hB⟩, hp⟩
    have HW := hide (isLabel_any x W)
    have HA : Hid ((pre ++ [x]).all isLab = isLab x) := by show _ = _; rw [List.all_append, hp]; simp
    have HV := hide hv
    have HB := hide hB
    clear hv hB hp
    gi_wp2
    refine ⟨trivial, ((callsIn_wide.2 HW.out).inRound l).mono ?_⟩
    rintro e W2 ⟨rfl, rfl⟩
    have hc := HV.out.cell
    have hf := HV.out.frozen
    cases ht : isLab x with
    | true =>
      rw [ht] at HA
      gi_wp2
      exact ⟨KeepsOthers.refl _, ⟨rfl, rfl, rfl⟩, ⟨HV.out, HB.out⟩, HA.out⟩
    | false =>
      rw [ht] at HA
      gi_wp2
      exact ⟨KeepsOthers.setCell _ _ _, ⟨HV.out.set _, HB.out.setCell (p := ⟨w.heap.size, 0, none⟩) (Nat.le_refl _) _⟩, HA.out⟩
  case done =>
    rintro D xs W hD rfl ⟨⟨hv, hB⟩, hp⟩ hK
    have hc := hv.cell
    have hf := hv.frozen
    gi_wp2
    have hv2 := hv.set (.bool true)
    have hB2 := hB.setCell (p := ⟨w.heap.size, 0, none⟩) (Nat.le_refl _) (.bool true)
    have hK2 : (W.setCell ⟨w.heap.size, 0, none⟩ (.bool true)).heap[D]? = some (.deferred (some [])) := (rgr.set_heap_other W w.heap.size D (.bool true) (by omega)).trans hK
    refine ⟨by simp, .inl ⟨_, _, rfl, run_takeDeferred hK2, ?_⟩⟩
    refine ⟨_, results_bool rfl _ rfl (hv2.kept (grownBy_putObj' _ D _) (fun e => by cases e; omega)).cell, ?_, hB2.trans ((Below.refl _ _).grown (grownBy_putObj' _ D _) hB2.size (fun k e => by cases e; omega))⟩
    show Ending.returned (.bool true) = _
    unfold hostN
    rw [hp]
  case stop =>
    rintro D pre W hD hpre ⟨⟨hv, hB⟩, hp⟩ hK
    gi_wp2
    refine ⟨by simp, .inl ⟨_, _, rfl, run_takeDeferred hK, ?_⟩⟩
    refine ⟨_, results_bool rfl _ rfl (hv.kept (grownBy_putObj' W D _) (fun e => by cases e; omega)).cell, ?_, hB.trans ((Below.refl _ W).grown (grownBy_putObj' W D _) hB.size (fun k e => by cases e; omega))⟩
    show Ending.returned (.bool false) = _
    obtain ⟨t, ht⟩ := hpre
    unfold hostN
    rw [← ht, List.all_append, hp]; rfl

end Go.Proofs.YtilhfmhjgfmejaaGreatDoor.tm

namespace Go.Proofs.YtilhfmhjgfmejaaGreatDoor.tm
open Go.ChangeShapes Go.WideShapes Go.ChangeAt Go.RowKit Go.Proofs.YtilhfmhjgfmejaaGreatDoor.common Go.Proofs.YtilhfmhjgfmejaaGreatDoor.bk
open Go.Proofs.YtilhfmhjgfmejaaGreatDoor.fd (before behind)
attribute [local go_sem ↓] Go.wp_at_zero Go.wp_at_succ

set_option maxRecDepth 100000 in
theorem containsOne_any (s : ByteArray) (c : UInt8) (w : World) :
    Calls Tryz.prog 137 #[.string s, .string ⟨#[c]⟩] w fun e w' => e = .returned (.bool (s.data.toList.contains c)) ∧ w' = w := by
  have HI := hide (fun W => tsq.index_any s c W)
  have HC := hide (contains_ix s.data.toList c)
  generalize Lib.indexByte s.data.toList c = i at *
  generalize s.data.toList.contains c = t at *
  go_enter Tryz.func137, Tryz.ntmps137
  go_wp2_with (go_at_call 146; refine (HI.out _).mono ?_; rintro x w2 ⟨rfl, rfl⟩)
  go_ret
  exact ⟨by rw [← HC.out]; rfl, rfl⟩

/-- a scheme of an own name -/
def privS (l : List UInt8) : Bool := !l.isEmpty && Tm.btw 97 122 (l.headD 0) && l.all schB && l.contains 46
/-- a scheme of an own name, a colon, a path that begins with one slash -/
def privA (l : List UInt8) : Bool := privS (before 58 l) && [47].isPrefixOf (behind 58 l) && !([47, 47].isPrefixOf (behind 58 l)) && pathQ (behind 58 l)

set_option maxRecDepth 100000 in
set_option maxHeartbeats 3200000 in
theorem privS_any (s : ByteArray) (w : World) (hs : s.size ≤ 4611686018427387900) :
    Calls Tryz.prog 115 #[.string s] w fun e w' => e = .returned (.bool (privS s.data.toList)) ∧ w' = w := by
  by_cases he : s = ⟨#[]⟩
  · subst he
    go_enter Tryz.func115, Tryz.ntmps115
    go_wp2_with fail
    go_ret
    exact ⟨rfl, rfl⟩
  · obtain ⟨h1, h2, h3⟩ := word_ne he
    have hp : 0 < s.size := by
      cases hz : s.size with
      | zero => exact absurd (str_nil s (List.eq_nil_of_length_eq_zero (by rw [len_list]; exact hz))) he
      | succ n => omega
    have hpi : (0 : Int) < (s.size : Int) := by omega
    have HS : Hid (privS s.data.toList = (Tm.btw 97 122 s[0] && s.data.toList.all schB && s.data.toList.contains 46)) := by
      show _ = _
      unfold privS
      rw [h2, head_is s hp]; rfl
    have HV := hide (small_tests w s[0])
    have HA := hide (all_any s _ schB w (by omega) sch_enters sch_tests)
    have HC := hide (containsOne_any s 46 w)
    generalize Tm.btw 97 122 s[0] = t at *
    generalize s.data.toList.all schB = u at *
    generalize s.data.toList.contains 46 = v at *
    cases t <;> cases u
    all_goals
      go_enter Tryz.func115, Tryz.ntmps115
      go_wp2_with (first
        | (go_at_call 135; refine HV.out.mono ?_; rintro x w2 ⟨rfl, rfl⟩)
        | (go_at_call 88; refine HA.out.mono ?_; rintro x w2 ⟨rfl, rfl⟩)
        | (go_at_call 137; refine HC.out.mono ?_; rintro x w2 ⟨rfl, rfl⟩))
      go_ret
      exact ⟨by rw [HS.out]; rfl, rfl⟩

set_option maxRecDepth 100000 in
set_option maxHeartbeats 3200000 in
theorem privA_any (s : ByteArray) (w : World) (hs : s.size ≤ 4611686018427387900) :
    Calls Tryz.prog 91 #[.string s] w fun e w' => e = .returned (.bool (privA s.data.toList)) ∧ Below w.heap.size w w' := by
  have HSp := hide (fd.cut_any s 58 w (by omega))
  have l1 := before_le 58 s.data.toList
  have l2 := behind_le 58 s.data.toList
  rw [len_list] at l1 l2
  have HP := hide (fun W => privS_any ⟨(before 58 s.data.toList).toArray⟩ W (by rw [str_size]; omega))
  have HH := hide (fun W => hasPrefix_any ⟨(behind 58 s.data.toList).toArray⟩ ⟨#[47]⟩ W)
  have HK := hide (fun W => hasPrefix_any ⟨(behind 58 s.data.toList).toArray⟩ ⟨#[47, 47]⟩ W)
  have HQ := hide (fun W => pathQ_any ⟨(behind 58 s.data.toList).toArray⟩ W (by rw [str_size]; omega))
  have HS : Hid (privA s.data.toList = (privS (⟨(before 58 s.data.toList).toArray⟩ : ByteArray).data.toList && (⟨#[47]⟩ : ByteArray).data.toList.isPrefixOf (⟨(behind 58 s.data.toList).toArray⟩ : ByteArray).data.toList && !((⟨#[47, 47]⟩ : ByteArray).data.toList.isPrefixOf (⟨(behind 58 s.data.toList).toArray⟩ : ByteArray).data.toList) && pathQ (⟨(behind 58 s.data.toList).toArray⟩ : ByteArray).data.toList)) := rfl
  generalize privS (⟨(before 58 s.data.toList).toArray⟩ : ByteArray).data.toList = t at *
  generalize (⟨#[47]⟩ : ByteArray).data.toList.isPrefixOf (⟨(behind 58 s.data.toList).toArray⟩ : ByteArray).data.toList = u at *
  generalize (⟨#[47, 47]⟩ : ByteArray).data.toList.isPrefixOf (⟨(behind 58 s.data.toList).toArray⟩ : ByteArray).data.toList = v at *
  generalize pathQ (⟨(behind 58 s.data.toList).toArray⟩ : ByteArray).data.toList = y at *
  go_enter Tryz.func91, Tryz.ntmps91
  go_wp2_with fail
  refine HSp.out.mono ?_
  rintro x w1 ⟨rfl, hb1⟩
  have B1 := hide hb1
  clear hb1
  cases t <;> cases u <;> cases v
  all_goals
    go_wp2_with (first
      | (go_at_call 115; refine (HP.out _).mono ?_; rintro x w2 ⟨rfl, hw2⟩; obtain rfl := hw2.symm)
      | (go_at_call 116; first
        | (with_reducible refine (HH.out _).mono ?_; rintro x w2 ⟨rfl, hw2⟩; obtain rfl := hw2.symm)
        | (with_reducible refine (HK.out _).mono ?_; rintro x w2 ⟨rfl, hw2⟩; obtain rfl := hw2.symm))
      | (go_at_call 117; refine (HQ.out _).mono ?_; rintro x w3 ⟨rfl, hb3⟩; have B3 := hide (keepD B1.out hb3); clear hb3))
    go_ret
    exact ⟨by rw [HS.out]; rfl, by first | exact B3.out | exact B1.out⟩

end Go.Proofs.YtilhfmhjgfmejaaGreatDoor.tm

namespace Go.Proofs.YtilhfmhjgfmejaaGreatDoor.jl
open Go.Shelf
def lays153_ren : Go.Shelf.Ren := ⟨fun | 153 => 133 | 152 => 151 | 226 => 152 | 227 => 153 | 228 => 154 | 137 => 180 | 119 => 181 | 224 => 176 | 225 => 175 | 217 => 174 | 266 => 190 | n => n, fun | 9 => 9 | 3 => 3 | 4 => 4 | 5 => 5 | 21 => 21 | 117 => 160 | 116 => 159 | 0 => 0 | 46 => 98 | 124 => 177 | n => n, fun | n => n⟩
theorem lays153 : Go.Proofs.Lays.n153 Tryz.prog lays153_ren := {
  mixed := by kernel_rfl
  f119 := Tryz.func181.trans (congrArg some (by kernel_rfl))
  f137 := Tryz.func180.trans (congrArg some (by kernel_rfl))
  f152 := Tryz.func151.trans (congrArg some (by kernel_rfl))
  f153 := Tryz.func133.trans (congrArg some (by kernel_rfl))
  f217 := Tryz.func174.trans (congrArg some (by kernel_rfl))
  f224 := Tryz.func176.trans (congrArg some (by kernel_rfl))
  f225 := Tryz.func175.trans (congrArg some (by kernel_rfl))
  f226 := Tryz.func152.trans (congrArg some (by kernel_rfl))
  f227 := Tryz.func153.trans (congrArg some (by kernel_rfl))
  f228 := Tryz.func154.trans (congrArg some (by kernel_rfl))
  f266 := Tryz.func190.trans (congrArg some (by kernel_rfl))
  t0 := Tryz.underlying0
  a0 := Tryz.isAgg0
  z0 := Tryz.sizeOf0
  v0 := Tryz.zeroValue0
  t3 := Tryz.underlying3
  a3 := Tryz.isAgg3
  z3 := Tryz.sizeOf3
  v3 := Tryz.zeroValue3
  t4 := Tryz.underlying4
  a4 := Tryz.isAgg4
  z4 := Tryz.sizeOf4
  v4 := Tryz.zeroValue4
  t5 := Tryz.underlying5
  a5 := Tryz.isAgg5
  z5 := Tryz.sizeOf5
  v5 := Tryz.zeroValue5
  t9 := Tryz.underlying9
  a9 := Tryz.isAgg9
  z9 := Tryz.sizeOf9
  v9 := Tryz.zeroValue9
  t21 := Tryz.underlying21
  a21 := Tryz.isAgg21
  z21 := Tryz.sizeOf21
  v21 := Tryz.zeroValue21
  t46 := Tryz.underlying98
  a46 := Tryz.isAgg98
  z46 := Tryz.sizeOf98
  v46 := Tryz.zeroValue98
  t116 := Tryz.underlying159
  a116 := Tryz.isAgg159
  z116 := Tryz.sizeOf159
  t117 := Tryz.underlying160
  a117 := Tryz.isAgg160
  z117 := Tryz.sizeOf160
  v117 := Tryz.zeroValue160
  t124 := Tryz.underlying177
  a124 := Tryz.isAgg177
  z124 := Tryz.sizeOf177
  v124 := Tryz.zeroValue177 }
def lays119_ren : Go.Shelf.Ren := ⟨fun | 119 => 181 | n => n, fun | 21 => 21 | 4 => 4 | n => n, fun | n => n⟩
theorem lays119 : Go.Proofs.Lays.n119 Tryz.prog lays119_ren := {
  mixed := by kernel_rfl
  f119 := Tryz.func181.trans (congrArg some (by kernel_rfl))
  t4 := Tryz.underlying4
  a4 := Tryz.isAgg4
  z4 := Tryz.sizeOf4
  v4 := Tryz.zeroValue4
  t21 := Tryz.underlying21
  a21 := Tryz.isAgg21
  z21 := Tryz.sizeOf21
  v21 := Tryz.zeroValue21 }
end Go.Proofs.YtilhfmhjgfmejaaGreatDoor.jl
