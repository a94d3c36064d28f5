import Derived.Test.YtcpflfpgnbihiaaGreatDoorMRangeSeq
import Derived.Test.YtcpflfpgnbihiaaGreatDoorMIndexOne
import Derived.Shelf.Abstract
import Derived.Shelf.RegionOpen
import Derived.OwnWalkIn
import Derived.TacticsInMore
import Derived.LoopNIn
import Derived.LoopIn
namespace Go.Proofs.YtcpflfpgnbihiaaGreatDoor.pctw
open Go.RowKit Go.Shelf Go.Proofs.YtcpflfpgnbihiaaGreatDoor.common
open Go.Proofs.YtcpflfpgnbihiaaGreatDoor.rng (Seq Abides range_law post)
attribute [local go_sem] Oper.semAt_some

/-- what stands between the ampersands, as texts -/
def parts (s : ByteArray) : List ByteArray := (Pct.split s.data.toList).map fun l => ⟨l.toArray⟩

theorem parts_none (r : ByteArray) (h : ∀ x ∈ r.data.toList, x ≠ 38) : parts r = [r] := by
  unfold parts
  rw [Pct.split_one _ h]
  rfl
theorem parts_at (r : ByteArray) (i : Nat) (h : r.data.toList = r.data.toList.take i ++ 38 :: r.data.toList.drop (i + 1)) (h4 : ∀ x ∈ r.data.toList.take i, x ≠ 38) : parts r = r.extract 0 i :: parts (r.extract (i + 1) r.size) := by
  unfold parts
  conv => lhs; rw [h]
  rw [Pct.split_at _ _ h4, ext_take, ext_drop]
  rfl

/-- the iterator's three boxes -/
structure Boxes (W : World) (bp bs bv : Nat) (r : ByteArray) : Prop where
  p : Boxed W bp 9 (.string ⟨#[38]⟩)
  s : Boxed W bs 9 (.string r)
  v : Boxed W bv 3 (.int .i64 0)

def Kp (bp bs bv : Nat) (A C : World) : Prop := C.heap[bp]? = A.heap[bp]? ∧ C.heap[bs]? = A.heap[bs]? ∧ C.heap[bv]? = A.heap[bv]?
theorem Boxes.kept {A C : World} {bp bs bv : Nat} {r : ByteArray} (h : Boxes A bp bs bv r) (k : Kp bp bs bv A C) : Boxes C bp bs bv r := ⟨k.1.trans h.p, k.2.1.trans h.s, k.2.2.trans h.v⟩

/-- how much is left -/
def left (b : Nat) (W : World) : Nat := match W.cell? ⟨b, 0, none⟩ with
  | some (.string r) => r.size
  | _ => 0
theorem left_eq {W : World} {bp bs bv : Nat} {r : ByteArray} (h : Boxes W bp bs bv r) : left bs W = r.size := by unfold left; rw [h.s.cell]

set_option maxRecDepth 100000 in
set_option maxHeartbeats 3200000 in
theorem split_seq (n : Nat) (s : ByteArray) (hs : s.size ≤ reachBytes) (bp bs bv : Nat) (hps : bs ≠ bp) (hvs : bs ≠ bv) (W : World) (hW : Boxes W bp bs bv s) :
    Seq Fence.wide n Tryz.prog 99 #[.pointer (some ⟨bp, 0, none⟩), .pointer (some ⟨bs, 0, none⟩), .pointer (some ⟨bv, 0, none⟩)] (fun x : ByteArray => #[Value.string x]) bs (Kp bp bs bv) (fun xs => xs = parts s) (fun pre => pre <+: parts s) W := by
  intro l J Jx W1 hk hJs hJd hXs hXd hY h0
  have HW := hide (hW.kept hk)
  clear hW hk
  unfold reachBytes at hs
  refine callsIn_of_wp Tryz.func99 rfl trivial ?_ rfl
  simp only [Tryz.ntmps99, List.size_toArray, List.length_cons, List.length_nil, Nat.reduceAdd, Nat.reduceSub, Array.replicate_succ, Array.replicate_zero, List.push_toArray, List.append_toArray, List.nil_append, List.cons_append]
  have cp := HW.out.p.cell
  gi_wp2
  gi_loopw [7] (fun _ wr => ∃ (pre : List ByteArray) (r : ByteArray), parts s = pre ++ parts r ∧ r.size ≤ s.size ∧ Boxes wr bp bs bv r ∧ J pre wr) (fun _ wr => left bs wr + 1)
  case atStart => exact ⟨[], s, rfl, Nat.le_refl _, HW.out, h0⟩
  case round =>
    clear cp
    obtain ⟨pre, r, hp, hr, hbx, hJ⟩ := hrel
    have cp := hbx.p.cell
    have cs := hbx.s.cell
    have cv := hbx.v.cell
    have fs := hbx.s.frozen
    have HBX := hide hbx
    have HLE := hide (left_eq hbx)
    clear hbx
    rcases index_cases 38 r.data.toList with ⟨h1, h2⟩ | ⟨i, h1, h2, h3, h4⟩
    · have HPN := hide (parts_none r h2)
      have HI : Hid (∀ X, Calls Tryz.prog 100 #[.string r, .string ⟨#[38]⟩] X fun e X' => e = .returned (.int .i64 (-1)) ∧ X' = X) := fun X => by rw [← h1]; exact index_any r 38 X
      clear h1 h2
      obtain ⟨fn, tmps, assign, body, hy, hR⟩ := hY pre r wr hJ
      gi_wp2
      refine ⟨trivial, fun h => (by cases h), (callsIn_wide.2 (HI.out _)).mono ?_⟩
      rintro e w' ⟨rfl, hw⟩
      subst hw
      gi_wp2
      refine ⟨fun h => (by cases h), hR.mono ?_⟩
      rintro e W3 (⟨rfl, hJ3, hk3⟩ | ⟨rfl, hJx3⟩)
      · gi_wp2
        go_end0
        exact ⟨⟨_, rfl⟩, .inl ⟨_, by rw [hp, HPN.out], hJ3⟩⟩
      · gi_wp2
        go_end0
        exact ⟨⟨_, rfl⟩, .inr ⟨pre ++ [r], by rw [hp, HPN.out]; exact List.prefix_refl _, hJx3⟩⟩
    · have HPN := hide (parts_at r i h3 h4)
      have HI : Hid (∀ X, Calls Tryz.prog 100 #[.string r, .string ⟨#[38]⟩] X fun e X' => e = .returned (.int .i64 (i : Int)) ∧ X' = X) := fun X => by rw [← h1]; exact index_any r 38 X
      rw [len_list] at h2
      clear h1 h3 h4
      have k0 : (0 : Int) ≤ (i : Int) := Int.natCast_nonneg _
      have k1 : (i : Int) ≤ (r.size : Int) := by omega
      have k2 : (i : Int) + 1 ≤ (r.size : Int) := by omega
      have k3 : (0 : Int) ≤ (i : Int) + 1 := by omega
      have k4 : ((i : Int) + 1).toNat = i + 1 := by omega
      obtain ⟨fn, tmps, assign, body, hy, hR⟩ := hY pre (r.extract 0 i) wr hJ
      gi_wp2
      refine ⟨trivial, fun h => (by cases h), (callsIn_wide.2 (HI.out _)).mono ?_⟩
      rintro e w' ⟨rfl, hw⟩
      subst hw
      gi_wp2
      refine ⟨fun h => (by cases h), hR.mono ?_⟩
      rintro e W3 (⟨rfl, hJ3, hk3⟩ | ⟨rfl, hJx3⟩)
      · have B3 := HBX.out.kept hk3
        have cp3 := B3.p.cell
        have cs3 := B3.s.cell
        have fs3 := B3.s.frozen
        gi_wp2
        have hnew : Boxes (W3.setCell ⟨bs, 0, none⟩ (.string (r.extract (i + 1) r.size))) bp bs bv (r.extract (i + 1) r.size) := ⟨B3.p.other (fun e => hps e.symm) _, B3.s.set _, B3.v.other (fun e => hvs e.symm) _⟩
        have hsz : (r.extract (i + 1) r.size).size = r.size - (i + 1) := by rw [ByteArray.size_extract]; omega
        refine ⟨⟨pre ++ [r.extract 0 i], _, by rw [hp, HPN.out]; simp, by omega, hnew, hJs _ _ _ hJ3⟩, ?_⟩
        rw [left_eq hnew, HLE.out, hsz]; omega
      · gi_wp2
        refine bodyPost_ret (results_none rfl _ _ _) rfl ?_
        exact ⟨⟨_, rfl⟩, .inr ⟨pre ++ [r.extract 0 i], ⟨parts (r.extract (i + 1) r.size), by rw [hp, HPN.out]; simp⟩, hJx3⟩⟩

end Go.Proofs.YtcpflfpgnbihiaaGreatDoor.pctw
