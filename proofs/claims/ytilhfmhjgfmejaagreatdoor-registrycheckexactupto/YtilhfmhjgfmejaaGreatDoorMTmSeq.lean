import Derived.Test.YtilhfmhjgfmejaaGreatDoorMTmWords
import Derived.Shelf.Abstract
import Derived.Shelf.RegionOpen
import Derived.OwnWalkIn
import Derived.TacticsInMore
import Derived.LoopNIn
import Derived.LoopIn
namespace Go.Proofs.YtilhfmhjgfmejaaGreatDoor.tsq
open Go.RowKit Go.Shelf Go.Proofs.YtilhfmhjgfmejaaGreatDoor.common
open Go.Proofs.YtilhfmhjgfmejaaGreatDoor.rgr (Seq Abides range_law post)
open Go.Proofs.YtilhfmhjgfmejaaGreatDoor.bk
open Go.Proofs.YtilhfmhjgfmejaaGreatDoor.fd (index_cases ext_take ext_drop indexLite_any)
attribute [local go_sem] Oper.semAt_some

set_option maxRecDepth 100000 in
theorem index_any (s : ByteArray) (c : UInt8) (w : World) :
    Calls Tryz.prog 146 #[.string s, .string ⟨#[c]⟩] w fun e w' => e = .returned (.int .i64 (Lib.indexByte s.data.toList c)) ∧ w' = w := by
  go_enter Tryz.func146, Tryz.ntmps146
  go_wp2_with (go_at_call 148; refine (indexLite_any s c _).mono ?_; rintro e w' ⟨rfl, rfl⟩)
  go_ret
  exact ⟨rfl, rfl⟩

/-- what stands between the bytes c, as texts -/
def parts (c : UInt8) (s : ByteArray) : List ByteArray := (Tm.split c s.data.toList).map fun l => ⟨l.toArray⟩

theorem parts_none (c : UInt8) (r : ByteArray) (h : ∀ x ∈ r.data.toList, x ≠ c) : parts c r = [r] := by
  unfold parts
  rw [Tm.split_one c _ h]
  rfl
theorem parts_at (c : UInt8) (r : ByteArray) (i : Nat) (h : r.data.toList = r.data.toList.take i ++ c :: r.data.toList.drop (i + 1)) (h4 : ∀ x ∈ r.data.toList.take i, x ≠ c) : parts c r = r.extract 0 i :: parts c (r.extract (i + 1) r.size) := by
  unfold parts
  conv => lhs; rw [h]
  rw [Tm.split_at c _ _ h4, ext_take, ext_drop]
  rfl

/-- the iterator's three boxes -/
structure Boxes (c : UInt8) (W : World) (bp bs bv : Nat) (r : ByteArray) : Prop where
  p : Boxed W bp 9 (.string ⟨#[c]⟩)
  s : Boxed W bs 9 (.string r)
  v : Boxed W bv 3 (.int .i64 0)

def Kp (bp bs bv : Nat) (A C : World) : Prop := C.heap[bp]? = A.heap[bp]? ∧ C.heap[bs]? = A.heap[bs]? ∧ C.heap[bv]? = A.heap[bv]?
theorem Boxes.kept {c : UInt8} {A C : World} {bp bs bv : Nat} {r : ByteArray} (h : Boxes c A bp bs bv r) (k : Kp bp bs bv A C) : Boxes c C bp bs bv r := ⟨k.1.trans h.p, k.2.1.trans h.s, k.2.2.trans h.v⟩

/-- how much is left -/
def left (b : Nat) (W : World) : Nat := match W.cell? ⟨b, 0, none⟩ with
  | some (.string r) => r.size
  | _ => 0
theorem left_eq {c : UInt8} {W : World} {bp bs bv : Nat} {r : ByteArray} (h : Boxes c W bp bs bv r) : left bs W = r.size := by unfold left; rw [h.s.cell]

set_option maxRecDepth 100000 in
set_option maxHeartbeats 3200000 in
theorem split_seq (c : UInt8) (n : Nat) (s : ByteArray) (hs : s.size ≤ reachBytes) (bp bs bv : Nat) (hps : bs ≠ bp) (hvs : bs ≠ bv) (W : World) (hW : Boxes c W bp bs bv s) :
    Seq Fence.wide n Tryz.prog 159 #[.pointer (some ⟨bp, 0, none⟩), .pointer (some ⟨bs, 0, none⟩), .pointer (some ⟨bv, 0, none⟩)] (fun x : ByteArray => #[Value.string x]) bs (Kp bp bs bv) (fun xs => xs = parts c s) (fun pre => pre <+: parts c s) W := by
  intro l J Jx W1 hk hJs hJd hXs hXd hY h0
  have HW := hide (hW.kept hk)
  clear hW hk
  unfold reachBytes at hs
  refine callsIn_of_wp Tryz.func159 rfl trivial ?_ rfl
  simp only [Tryz.ntmps159, List.size_toArray, List.length_cons, List.length_nil, Nat.reduceAdd, Nat.reduceSub, Array.replicate_succ, Array.replicate_zero, List.push_toArray, List.append_toArray, List.nil_append, List.cons_append]
  have cp := HW.out.p.cell
  gi_wp2
  gi_loopw [7] (fun _ wr => ∃ (pre : List ByteArray) (r : ByteArray), parts c s = pre ++ parts c r ∧ r.size ≤ s.size ∧ Boxes c wr bp bs bv r ∧ J pre wr) (fun _ wr => left bs wr + 1)
  case atStart => exact ⟨[], s, rfl, Nat.le_refl _, HW.out, h0⟩
  case round =>
    clear cp
    obtain ⟨pre, r, hp, hr, hbx, hJ⟩ := hrel
    have cp := hbx.p.cell
    have cs := hbx.s.cell
    have cv := hbx.v.cell
    have fs := hbx.s.frozen
    have HBX := hide hbx
    have HLE := hide (left_eq hbx)
    clear hbx
    rcases index_cases c r.data.toList with ⟨h1, h2⟩ | ⟨i, h1, h2, h3, h4⟩
    · have HPN := hide (parts_none c r h2)
      have HI : Hid (∀ X, Calls Tryz.prog 146 #[.string r, .string ⟨#[c]⟩] X fun e X' => e = .returned (.int .i64 (-1)) ∧ X' = X) := fun X => by rw [← h1]; exact index_any r c X
      clear h1 h2
      obtain ⟨fn, tmps, assign, body, hy, hR⟩ := hY pre r wr hJ
      gi_wp2
      refine ⟨trivial, fun h => (by cases h), (callsIn_wide.2 (HI.out _)).mono ?_⟩
      rintro e w' ⟨rfl, hw⟩
      subst hw
      gi_wp2
      refine ⟨fun h => (by cases h), hR.mono ?_⟩
      rintro e W3 (⟨rfl, hJ3, hk3⟩ | ⟨rfl, hJx3⟩)
      · gi_wp2
        go_end0
        exact ⟨⟨_, rfl⟩, .inl ⟨_, by rw [hp, HPN.out], hJ3⟩⟩
      · gi_wp2
        go_end0
        exact ⟨⟨_, rfl⟩, .inr ⟨pre ++ [r], by rw [hp, HPN.out]; exact List.prefix_refl _, hJx3⟩⟩
    · have HPN := hide (parts_at c r i h3 h4)
      have HI : Hid (∀ X, Calls Tryz.prog 146 #[.string r, .string ⟨#[c]⟩] X fun e X' => e = .returned (.int .i64 (i : Int)) ∧ X' = X) := fun X => by rw [← h1]; exact index_any r c X
      rw [len_list] at h2
      clear h1 h3 h4
      have k0 : (0 : Int) ≤ (i : Int) := Int.natCast_nonneg _
      have k1 : (i : Int) ≤ (r.size : Int) := by omega
      have k2 : (i : Int) + 1 ≤ (r.size : Int) := by omega
      have k3 : (0 : Int) ≤ (i : Int) + 1 := by omega
      have k4 : ((i : Int) + 1).toNat = i + 1 := by omega
      obtain ⟨fn, tmps, assign, body, hy, hR⟩ := hY pre (r.extract 0 i) wr hJ
      gi_wp2
      refine ⟨trivial, fun h => (by cases h), (callsIn_wide.2 (HI.out _)).mono ?_⟩
      rintro e w' ⟨rfl, hw⟩
      subst hw
      gi_wp2
      refine ⟨fun h => (by cases h), hR.mono ?_⟩
      rintro e W3 (⟨rfl, hJ3, hk3⟩ | ⟨rfl, hJx3⟩)
      · have B3 := HBX.out.kept hk3
        have cp3 := B3.p.cell
        have cs3 := B3.s.cell
        have fs3 := B3.s.frozen
        gi_wp2
        have hnew : Boxes c (W3.setCell ⟨bs, 0, none⟩ (.string (r.extract (i + 1) r.size))) bp bs bv (r.extract (i + 1) r.size) := ⟨B3.p.other (fun e => hps e.symm) _, B3.s.set _, B3.v.other (fun e => hvs e.symm) _⟩
        have hsz : (r.extract (i + 1) r.size).size = r.size - (i + 1) := by rw [ByteArray.size_extract]; omega
        refine ⟨⟨pre ++ [r.extract 0 i], _, by rw [hp, HPN.out]; simp, by omega, hnew, hJs _ _ _ hJ3⟩, ?_⟩
        rw [left_eq hnew, HLE.out, hsz]; omega
      · gi_wp2
        refine bodyPost_ret (results_none rfl _ _ _) rfl ?_
        exact ⟨⟨_, rfl⟩, .inr ⟨pre ++ [r.extract 0 i], ⟨parts c (r.extract (i + 1) r.size), by rw [hp, HPN.out]; simp⟩, hJx3⟩⟩

def boxesOf (c : UInt8) (w : World) (s : ByteArray) : World := ((w.alloc (.cells #[.string s] 9)).alloc (.cells #[.string ⟨#[c]⟩] 9)).alloc (.cells #[.int .i64 0] 3)

set_option maxRecDepth 100000 in
theorem splitHead_any (c : UInt8) (s : ByteArray) (w : World) :
    Calls Tryz.prog 141 #[.string s, .string ⟨#[c]⟩, .int .i64 0] w fun e w' => e = .returned (.func (.func 159) #[] #[.pointer (some ⟨w.heap.size + 1, 0, none⟩), .pointer (some ⟨w.heap.size, 0, none⟩), .pointer (some ⟨w.heap.size + 2, 0, none⟩)]) ∧ w' = boxesOf c w s := by
  go_enter Tryz.func141, Tryz.ntmps141
  go_wp2
  go_ret
  exact ⟨rfl, rfl⟩

set_option maxRecDepth 100000 in
theorem splitFace_any (c : UInt8) (s : ByteArray) (w : World) :
    Calls Tryz.prog 119 #[.string s, .string ⟨#[c]⟩] w fun e w' => e = .returned (.func (.func 159) #[] #[.pointer (some ⟨w.heap.size + 1, 0, none⟩), .pointer (some ⟨w.heap.size, 0, none⟩), .pointer (some ⟨w.heap.size + 2, 0, none⟩)]) ∧ w' = boxesOf c w s := by
  go_enter Tryz.func119, Tryz.ntmps119
  go_wp2_with fail
  refine (splitHead_any c s w).mono ?_
  rintro e w' ⟨rfl, rfl⟩
  go_wp2
  go_ret
  exact ⟨rfl, rfl⟩

theorem boxes_size (c : UInt8) (w : World) (s : ByteArray) : (boxesOf c w s).heap.size = w.heap.size + 3 := by simp [boxesOf]
theorem boxes_new (c : UInt8) (w : World) (s : ByteArray) : Boxes c (boxesOf c w s) (w.heap.size + 1) w.heap.size (w.heap.size + 2) s := by
  have h0 := Boxed.new w 9 (.string s)
  have h1 := Boxed.new (w.alloc (.cells #[.string s] 9)) 9 (.string ⟨#[c]⟩)
  have h2 := Boxed.new ((w.alloc (.cells #[.string s] 9)).alloc (.cells #[.string ⟨#[c]⟩] 9)) 3 (.int .i64 0)
  rw [World.size_alloc] at h1
  rw [World.size_alloc, World.size_alloc] at h2
  exact ⟨h1.alloc _, (h0.alloc _).alloc _, h2⟩
theorem boxes_below (c : UInt8) (w : World) (s : ByteArray) : Below w.heap.size w (boxesOf c w s) := (((Below.refl _ w).alloc (Nat.le_refl _) _).alloc (by simp) _).alloc (by simp; omega) _


end Go.Proofs.YtilhfmhjgfmejaaGreatDoor.tsq
