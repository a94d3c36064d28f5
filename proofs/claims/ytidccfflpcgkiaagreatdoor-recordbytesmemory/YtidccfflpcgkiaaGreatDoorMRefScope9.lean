import Derived.Test.YtidccfflpcgkiaaGreatDoorMRepeat
import Derived.Test.YtidccfflpcgkiaaGreatDoorMRadixRead
import Derived.Deep.RegionWith
import Derived.Test.YtidccfflpcgkiaaGreatDoorMTmNames
import Derived.Test.YtidccfflpcgkiaaGreatDoorMStrBase
import Derived.OpenShut
import Derived.Deep.DeepHandedRow
import Derived.Test.YtidccfflpcgkiaaGreatDoorMTermLays
import Derived.Shelf.Strings.OnBuilder
import Derived.Test.YtidccfflpcgkiaaGreatDoorMTmByte
import Derived.Test.YtidccfflpcgkiaaGreatDoorMRcKept
namespace Go.Proofs.YtidccfflpcgkiaaGreatDoor.radw
open Go.ChangeShapes Go.WideShapes Go.ChangeAt Go.RowKit Go.Proofs.YtidccfflpcgkiaaGreatDoor.common
attribute [local go_sem ↓] Go.wp_at_zero Go.wp_at_succ

theorem pad_of (n r : Nat) (h : n % 4 = r) : Rad.pad n = List.replicate ((4 - r) % 4) 61 := by unfold Rad.pad; rw [h]

end Go.Proofs.YtidccfflpcgkiaaGreatDoor.radw

namespace Go.Proofs.YtidccfflpcgkiaaGreatDoor.radw
open Go.ChangeShapes Go.WideShapes Go.ChangeAt Go.RowKit Go.Proofs.YtidccfflpcgkiaaGreatDoor.common

theorem to_ba {a b : List UInt8} (h : (⟨a.toArray⟩ : ByteArray) = ⟨b.toArray⟩) : a = b := by
  have := congrArg (fun x : ByteArray => x.data.toList) h
  simpa using this

theorem ba_ext {a b : ByteArray} (h : a.data.toList = b.data.toList) : a = b := by
  apply ByteArray.ext; apply Array.toList_inj.1; exact h

/-- the three tables -/
theorem ne_list {a b : ByteArray} (h : a ≠ b) : (a.toList == b.toList) = false := by
  rw [ByteArray.toList_eq, ByteArray.toList_eq]
  exact beq_false_of_ne fun e => h (ba_ext e)
theorem eq_list {a b : ByteArray} (h : a = b) : (a.toList == b.toList) = true := by subst h; simp

end Go.Proofs.YtidccfflpcgkiaaGreatDoor.radw

namespace Go.Proofs.YtidccfflpcgkiaaGreatDoor.radw
open Go.ChangeShapes Go.WideShapes Go.ChangeAt Go.RowKit Go.Proofs.YtidccfflpcgkiaaGreatDoor.common

theorem bys_64 (T : List UInt8) (s : ByteArray) : bys (Rad.nb (Rad.num T 64 s.data.toList) 6) (6 * s.size / 8) = Rad.un64 T s.data.toList := by
  rw [← Rad.un64_bits, len_list]; rfl

theorem str_eq (l : List UInt8) (s : ByteArray) (h : l = s.data.toList) : (⟨l.toArray⟩ : ByteArray) = s := by
  subst h; rfl
theorem str_ne (l : List UInt8) (s : ByteArray) (h : l ≠ s.data.toList) : (⟨l.toArray⟩ : ByteArray) ≠ s := by
  intro e; apply h; rw [← e]
theorem str_size (l : List UInt8) : (⟨l.toArray⟩ : ByteArray).size = l.length := by
  show l.toArray.size = _; simp

end Go.Proofs.YtidccfflpcgkiaaGreatDoor.radw

namespace Go.Proofs.YtidccfflpcgkiaaGreatDoor.radw
open Go.ChangeShapes Go.WideShapes Go.ChangeAt Go.RowKit Go.Proofs.YtidccfflpcgkiaaGreatDoor.common

end Go.Proofs.YtidccfflpcgkiaaGreatDoor.radw

namespace Go.Proofs.YtidccfflpcgkiaaGreatDoor.radw
open Go.ChangeShapes Go.WideShapes Go.ChangeAt Go.RowKit Go.Proofs.YtidccfflpcgkiaaGreatDoor.common

end Go.Proofs.YtidccfflpcgkiaaGreatDoor.radw

namespace Go.Proofs.YtidccfflpcgkiaaGreatDoor.ss
open Go.ChangeShapes Go.WideShapes Go.ChangeAt Go.RowKit Go.Joins Go.Proofs.YtidccfflpcgkiaaGreatDoor.common Go.Proofs.YtidccfflpcgkiaaGreatDoor.bk
open Go.WideMaps Go.WideElems

/-- all the bytes of texts, and one for each -/
def tot (l : List ByteArray) : Nat := (l.map fun x => x.size + 1).sum

theorem weightsAll_mem {H : Type} {P : Program} {e : TypeId} {p : Nat → Bool} : ∀ (l : List (DataW H)), (DataW.weightsAll P e l).all p = true → ∀ d ∈ l, (d.weights P e).all p = true
  | [], _, d, hd => by cases hd
  | x :: r, h, d, hd => by
    rw [DataW.weightsAll, List.all_append, Bool.and_eq_true] at h
    rcases List.mem_cons.1 hd with rfl | hd
    · exact h.1
    · exact weightsAll_mem r h.2 d hd
theorem bytesStr : Tryz.prog.bytesOf 9 = 16 := by kernel_rfl
theorem cellsStr1 : Tryz.prog.cellsOf 9 = 1 := by kernel_rfl
theorem sum_bulkS {H : Type} (f : Nat → ByteArray) (D : Nat → DataW H) : ∀ (ns : List Nat), (∀ i ∈ ns, (f i).size + 1 ≤ Rows.uptoBulk (D i)) → tot (ns.map f) ≤ Rows.uptoBulkAll (ns.map D)
  | [], _ => Nat.zero_le _
  | n :: r, h => by
    have h1 := h n (List.mem_cons_self ..)
    have h2 := sum_bulkS f D r fun i hi => h i (List.mem_cons_of_mem _ hi)
    unfold tot at h2 ⊢
    simp only [List.map_cons, List.sum_cons, Rows.uptoBulkAll]
    omega
theorem len_tot (l : List ByteArray) : l.length ≤ tot l := by
  unfold tot
  induction l with
  | nil => exact Nat.zero_le _
  | cons x r ih => simp only [List.map_cons, List.sum_cons, List.length_cons]; omega

set_option maxRecDepth 100000 in
/-- a list of texts as an argument -/
theorem strs_of {H : Type} {enc : TypeId × Value → H} {W : World} {fuel : Nat} {v : Value} {d : DataW H} {pl : List MemPlace}
    (h : DataW.trod enc Tryz.prog W 0 (fun _ => true) true fuel 22 [v] = some (d, pl)) (hw : (d.weights Tryz.prog 22).all (· ≤ reachBytes) = true) :
    ∃ l, Lies W v l ∧ l.length * 16 ≤ reachBytes ∧ (∀ x ∈ l, x.size ≤ reachBytes) ∧ tot l ≤ Rows.uptoBulk d := by
  rcases Deep.open_slice Tryz.underlying22 h with ⟨hcs, hx⟩ | ⟨a, len, cap, m, n, D, Pl, hcs, hb, hl, hm, hmm, hx, hall⟩
  · obtain rfl : v = .slice none 0 0 := by simpa using hcs
    exact ⟨[], lies_nil W, Nat.zero_le _, fun x hx => (by cases hx), Nat.zero_le _⟩
  · obtain rfl : v = .slice (some a) len cap := by simpa using hcs
    have hd : d = .slice ((List.range len).map D) ((List.range (m - len)).map fun j => D (len + j)) := (Prod.mk.inj hx).1
    subst hd
    simp only [DataW.weights, Tryz.underlying22, List.all_cons, List.all_append, Bool.and_eq_true] at hw
    have each : ∀ i, ∃ p : ByteArray, i < len → D i = .lit (.string p.data.toList) ∧ p.size + 1 ≤ Rows.uptoBulk (D i) ∧ ∃ b o, a = ⟨b, o, none⟩ ∧ b < W.heap.size ∧ W.cell? ⟨b, o + i, none⟩ = some (.string p) := by
      intro i
      by_cases hi : i < len
      · obtain ⟨cs', h1, h2⟩ := hall i (by rw [hmm]; simp; omega)
        rw [cellsStr1] at h1
        obtain ⟨_, hlen, hcell⟩ := World.cells?_some h1
        match cs', hlen with
        | [v0], _ =>
          obtain ⟨s, es, hz, _⟩ := DataW.trod_string Tryz.underlying9 h2
          simp at es
          subst es
          have hDi : D i = .lit (.string s.data.toList) := (Prod.mk.inj hz).1
          have hw : s.size + 1 ≤ Rows.uptoBulk (D i) := by
            rw [hDi]
            simp only [Rows.uptoBulk, len_list]
            omega
          have c0 := hcell 0 (by decide)
          have hsp : a.spot = none := by
            have q0 := hall 0 (by rw [hmm]; simp; omega)
            obtain ⟨cs0, g1, _⟩ := q0
            rw [cellsStr1] at g1
            obtain ⟨_, hlen0, hcell0⟩ := World.cells?_some g1
            have g2 := hcell0 0 (by decide)
            rw [List.getElem?_eq_getElem (by omega)] at g2
            have := World.cell?_spot g2
            simpa [Addr.add] using this
          obtain ⟨b, o, sp⟩ := a
          simp at hsp
          subst hsp
          rw [Addr.add_mid, Addr.add_mid] at c0
          have c0' : W.cell? ⟨b, o + i, none⟩ = some (.string s) := by simpa using c0
          exact ⟨s, fun _ => ⟨hDi, hw, b, o, rfl, World.block_lt_of_cell? W _ c0', c0'⟩⟩
      · exact ⟨ByteArray.empty, fun h => absurd h hi⟩
    obtain ⟨f, hf⟩ := Classical.axiomOfChoice each
    have hlen : ((List.range len).map f).length = len := by simp
    have hsum := sum_bulkS f D (List.range len) (fun i hi => (hf i (List.mem_range.1 hi)).2.1)
    have hB : Rows.uptoBulkAll ((List.range len).map D) ≤ Rows.uptoBulk (.slice ((List.range len).map D) ((List.range (m - len)).map fun j => D (len + j))) := by
      simp only [Rows.uptoBulk]
      omega
    have hww : len * 16 ≤ reachBytes ∧ ∀ i, i < len → (f i).size ≤ reachBytes := by
      refine ⟨?_, fun i hi => ?_⟩
      · have h1 := hw.1
        rw [bytesStr] at h1
        simp at h1
        omega
      · have hwi := weightsAll_mem _ hw.2.1 (D i) (List.mem_map.2 ⟨i, List.mem_range.2 hi, rfl⟩)
        rw [(hf i hi).1] at hwi
        simp [DataW.weights] at hwi
        simpa using hwi
    refine ⟨(List.range len).map f, ⟨some a, cap, by rw [hlen], fun i hi => ?_⟩, by rw [hlen]; exact hww.1, ?_, Nat.le_trans hsum hB⟩
    · rw [hlen] at hi
      obtain ⟨_, _, b, o, rfl, hb, c0⟩ := hf i hi
      exact ⟨b, o, rfl, hb, by simpa using c0⟩
    · intro x hx
      obtain ⟨i, hi, rfl⟩ := List.mem_map.1 hx
      exact hww.2 i (List.mem_range.1 hi)

end Go.Proofs.YtidccfflpcgkiaaGreatDoor.ss

namespace Go.Proofs.YtidccfflpcgkiaaGreatDoor.ss
open Go.ChangeShapes Go.WideShapes Go.ChangeAt Go.RowKit Go.Proofs.YtidccfflpcgkiaaGreatDoor.common Go.Proofs.YtidccfflpcgkiaaGreatDoor.bk
attribute [local go_sem ↓] Go.wp_at_zero Go.wp_at_succ

/-- texts with a blank between each two -/
def joinS (l : List ByteArray) : List UInt8 := Lib.join (l.map (·.data.toList)) [32]
theorem join_snoc (x : List UInt8) (r : List (List UInt8)) (y : List UInt8) : Lib.join ((x :: r) ++ [y]) [32] = Lib.join (x :: r) [32] ++ [32] ++ y := by
  rw [List.cons_append, Lib.join_cons, Lib.join_cons]
  unfold Lib.joinTail
  simp [List.append_assoc]
theorem joinS_snoc (l : List ByteArray) (k : Nat) (h : k < l.length) (h0 : 0 < k) : joinS (l.take (k + 1)) = joinS (l.take k) ++ [32] ++ l[k].data.toList := by
  rw [takeS l k h]
  unfold joinS
  rw [List.map_append]
  cases e : l.take k with
  | nil => have := congrArg List.length e; rw [List.length_take, Nat.min_eq_left (by omega), List.length_nil] at this; omega
  | cons x r => rw [List.map_cons]; exact join_snoc _ _ _
theorem joinS_first (l : List ByteArray) (h : 0 < l.length) : joinS (l.take 1) = l[0].data.toList := by
  rw [show 1 = 0 + 1 from rfl, takeS l 0 h]
  unfold joinS
  simp [Lib.join_one]
theorem tot_app (l m : List ByteArray) : tot (l ++ m) = tot l + tot m := by simp [tot]
theorem joinS_len (l : List ByteArray) : (joinS l).length ≤ tot l := by
  unfold joinS
  cases l with
  | nil => simp [Lib.join_nil]
  | cons x r =>
    rw [List.map_cons, Lib.join_cons]
    unfold Lib.joinTail tot
    rw [List.length_append, len_list, List.map_cons, List.sum_cons]
    have : ∀ m : List ByteArray, (((m.map (·.data.toList)).map ([32] ++ ·)).flatten).length ≤ (m.map fun x => x.size + 1).sum := by
      intro m
      induction m with
      | nil => simp
      | cons y s ih =>
        simp only [List.map_cons, List.flatten_cons, List.length_append, List.sum_cons, List.length_cons, List.length_nil, len_list]
        omega
    have := this r
    omega
theorem tot_take (l : List ByteArray) (k : Nat) (h : k < l.length) : tot (l.take k) + l[k].size + 1 ≤ tot l := by
  have e : tot l = tot (l.take (k + 1)) + tot (l.drop (k + 1)) := by rw [← tot_app, List.take_append_drop]
  rw [e, takeS l k h, tot_app]
  simp [tot]; omega
theorem tot_mem {l : List ByteArray} {x : ByteArray} (h : x ∈ l) : x.size + 1 ≤ tot l := by
  induction l with
  | nil => cases h
  | cons y r ih =>
    have e : tot (y :: r) = y.size + 1 + tot r := by simp [tot]
    rw [e]
    rcases List.mem_cons.1 h with rfl | h
    · omega
    · have := ih h; omega

end Go.Proofs.YtidccfflpcgkiaaGreatDoor.ss

namespace Go.Proofs.YtidccfflpcgkiaaGreatDoor.ss
open Go.ChangeShapes Go.WideShapes Go.ChangeAt Go.RowKit Go.Joins Go.Proofs.YtidccfflpcgkiaaGreatDoor.common Go.Proofs.YtidccfflpcgkiaaGreatDoor.bk
attribute [local go_sem ↓] Go.wp_at_zero Go.wp_at_succ

/-- a slice is no longer than its room -/
def Room (v : Value) : Prop := ∀ oa n c, v = .slice oa n c → n ≤ c
theorem room_of {H : Type} {enc : TypeId × Value → H} {W : World} {fuel : Nat} {v : Value} {x : DataW H × List MemPlace} (h : DataW.trod enc Tryz.prog W 0 (fun _ => true) true fuel 22 [v] = some x) : Room v := by
  rcases Deep.open_slice Tryz.underlying22 h with ⟨hcs, _⟩ | ⟨a, len, cap, m, n, D, Pl, hcs, _, hl, _⟩
  · obtain rfl : v = .slice none 0 0 := by simpa using hcs
    intro oa n c e; cases e; exact Nat.le_refl _
  · obtain rfl : v = .slice (some a) len cap := by simpa using hcs
    intro oa n c e; cases e; exact hl
theorem room_own {w : World} {base : Nat} {e : TypeId} {v : Value} {n : Nat} {xs : List Value} (h : w.ownsRow base e 1 v n xs) : Room v := by
  rcases h.2 with ⟨rfl, _⟩ | ⟨g, cap, cur, rfl, _, _, hn, _⟩
  · intro oa n c e; cases e; exact Nat.le_refl _
  · intro oa n c e; cases e; exact hn

end Go.Proofs.YtidccfflpcgkiaaGreatDoor.ss

namespace Go.Proofs.YtidccfflpcgkiaaGreatDoor.tm
open Go.RowKit Go.Proofs.YtidccfflpcgkiaaGreatDoor.common Go.Proofs.YtidccfflpcgkiaaGreatDoor.bk
open Go.Proofs.YtidccfflpcgkiaaGreatDoor.ss (joinS tot)

/-- the words of all of them -/
def wordsOf (l : List ByteArray) : List (List UInt8) := l.flatMap fun x => Tm.split 32 x.data.toList
theorem split_tail (r : List (List UInt8)) : ∀ x : List UInt8, Tm.split 32 (x ++ Lib.joinTail [32] r) = Tm.split 32 x ++ r.flatMap (Tm.split 32) := by
  induction r with
  | nil => intro x; simp [Lib.joinTail]
  | cons y s ih =>
    intro x
    have e : x ++ Lib.joinTail [32] (y :: s) = x ++ 32 :: (y ++ Lib.joinTail [32] s) := by simp [Lib.joinTail]
    rw [e, Tm.split_app, ih y, List.flatMap_cons]
theorem parts_join (l : List ByteArray) (h : l ≠ []) : tsq.parts 32 (⟨(joinS l).toArray⟩ : ByteArray) = (wordsOf l).map fun w => ⟨w.toArray⟩ := by
  unfold tsq.parts wordsOf joinS
  cases l with
  | nil => exact absurd rfl h
  | cons x r =>
    rw [str_list, List.map_cons, Lib.join_cons, split_tail, List.flatMap_cons, List.flatMap_map]
theorem raw_map (ws : List (List UInt8)) : raw (ws.map fun w => (⟨w.toArray⟩ : ByteArray)) = ws := by
  unfold raw
  rw [List.map_map]
  exact (List.map_congr_left (fun _ _ => rfl)).trans (List.map_id ws)
theorem mem_words (l : List ByteArray) (x : List UInt8) : x ∈ wordsOf (l.reverse ++ l) ↔ x ∈ wordsOf l := by
  unfold wordsOf
  simp only [List.mem_flatMap, List.mem_append, List.mem_reverse, or_self]

theorem scope_order (l : List ByteArray) (eT eM : Value) : scE eT eM (⟨(joinS (l.reverse ++ l)).toArray⟩ : ByteArray) = scE eT eM (⟨(joinS l).toArray⟩ : ByteArray) ∧ scL (⟨(joinS (l.reverse ++ l)).toArray⟩ : ByteArray) = scL (⟨(joinS l).toArray⟩ : ByteArray) := by
  by_cases h : l = []
  · subst h; exact ⟨rfl, rfl⟩
  · have h2 : l.reverse ++ l ≠ [] := by simp [h]
    have e1 := parts_join l h
    have e2 := parts_join _ h2
    have er : riseB (tsq.parts 32 (⟨(joinS (l.reverse ++ l)).toArray⟩ : ByteArray)) = riseB (tsq.parts 32 (⟨(joinS l).toArray⟩ : ByteArray)) := by
      rw [e1, e2]
      unfold riseB rise
      rw [raw_map, raw_map, Tm.rise_eq (mem_words l)]
    have ea : areSc (⟨(joinS (l.reverse ++ l)).toArray⟩ : ByteArray) = areSc (⟨(joinS l).toArray⟩ : ByteArray) := by
      unfold areSc
      rw [e1, e2, List.all_map, List.all_map, Bool.eq_iff_iff, List.all_eq_true, List.all_eq_true]
      exact ⟨fun hh x hx => hh x ((mem_words l x).2 hx), fun hh x hx => hh x ((mem_words l x).1 hx)⟩
    constructor
    · unfold scE many; rw [ea, er]
    · unfold scL many; rw [ea, er]

theorem rise_one (x : List UInt8) : rise [x] = [x] := by
  apply Tm.rising_one _ _ (Tm.rise_spec [x]).1 (List.pairwise_singleton _ _)
  exact (Tm.rise_spec [x]).2
theorem one_x (eT eM : Value) : scE eT eM ⟨#[120]⟩ = .nilIface ∧ scL ⟨#[120]⟩ = [⟨#[120]⟩] := by
  have ep : tsq.parts 32 ⟨#[120]⟩ = [⟨#[120]⟩] := rfl
  have ea : areSc ⟨#[120]⟩ = true := rfl
  have er : riseB (tsq.parts 32 ⟨#[120]⟩) = [⟨#[120]⟩] := by
    rw [ep]
    unfold riseB
    rw [show raw [(⟨#[120]⟩ : ByteArray)] = [[120]] from rfl, rise_one]; rfl
  constructor
  · unfold scE many; rw [ea, er]; rfl
  · unfold scL many; rw [ea, er]; rfl

end Go.Proofs.YtidccfflpcgkiaaGreatDoor.tm

namespace Go.Proofs.YtidccfflpcgkiaaGreatDoor.tm
open Go.RowKit Go.Proofs.YtidccfflpcgkiaaGreatDoor.common Go.Proofs.YtidccfflpcgkiaaGreatDoor.bk
open Go.Proofs.YtidccfflpcgkiaaGreatDoor.ss (joinS tot)

/-- a word ahead of the first -/
def pre (w : List UInt8) : List (List UInt8) → List (List UInt8)
  | h :: t => (w ++ h) :: t
  | [] => [w]
theorem pre_nil (c : UInt8) (l : List UInt8) : pre [] (Tm.split c l) = Tm.split c l := by
  cases h : Tm.split c l with
  | nil => exact absurd h (Tm.split_ne c l)
  | cons u t => rfl
theorem pre_sep (c : UInt8) (w r : List UInt8) : pre w (Tm.split c (c :: r)) = w :: pre [] (Tm.split c r) := by
  rw [pre_nil, Tm.split_cons, if_pos rfl]
  show (w ++ []) :: _ = _
  rw [List.append_nil]
theorem pre_not (c x : UInt8) (h : x ≠ c) (w r : List UInt8) : pre w (Tm.split c (x :: r)) = pre (w ++ [x]) (Tm.split c r) := by
  rw [Tm.split_cons, if_neg h]
  cases hs : Tm.split c r with
  | nil => exact absurd hs (Tm.split_ne c r)
  | cons u t => show (w ++ x :: u) :: t = (w ++ [x] ++ u) :: t; simp
theorem pre_end (c : UInt8) (w : List UInt8) : pre w (Tm.split c []) = [w] := by
  show [w ++ []] = _; rw [List.append_nil]

theorem btw_32 : scB 32 = false := by decide
/-- a scope has no blank -/
theorem sc_parts {x : ByteArray} (h : isSc x = true) : tsq.parts 32 x = [x] := by
  apply tsq.parts_none
  intro b hb e
  unfold isSc Tm.word at h
  rw [Bool.and_eq_true] at h
  have := List.all_eq_true.1 h.2 b hb
  rw [e, btw_32] at this; cases this
theorem sc_size {x : ByteArray} (h : isSc x = true) : x.size ≤ 32 := by
  unfold isSc Tm.word at h
  rw [Bool.and_eq_true, Bool.and_eq_true] at h
  have := of_decide_eq_true h.1.2
  rwa [len_list] at this
theorem mem_riseB {zs : List ByteArray} {x : ByteArray} : x ∈ riseB zs ↔ x ∈ zs := by
  unfold riseB
  rw [List.mem_map]
  constructor
  · rintro ⟨y, hy, rfl⟩
    have := ((Tm.rise_spec (raw zs)).2 y).1 hy
    unfold raw at this
    obtain ⟨z, hz, rfl⟩ := List.mem_map.1 this
    exact hz
  · intro h
    refine ⟨x.data.toList, ((Tm.rise_spec (raw zs)).2 _).2 ?_, rfl⟩
    unfold raw
    exact List.mem_map.2 ⟨x, h, rfl⟩
theorem riseB_lt (zs : List ByteArray) : (riseB zs).Pairwise fun a b => a.data.toList < b.data.toList := by
  unfold riseB
  rw [List.pairwise_map]
  exact (Tm.rise_spec (raw zs)).1
theorem riseB_again (l : List ByteArray) (h : l.Pairwise fun a b => a.data.toList < b.data.toList) : riseB l = l := by
  have e : rise (raw l) = raw l := by
    apply Tm.rising_one _ _ (Tm.rise_spec (raw l)).1
    · unfold raw; rw [List.pairwise_map]; exact h
    · exact (Tm.rise_spec (raw l)).2
  unfold riseB
  rw [e]
  unfold raw
  rw [List.map_map]
  exact (List.map_congr_left (fun _ _ => rfl)).trans (List.map_id l)

/-- what is known of scopes that were read -/
structure Good (s : ByteArray) (l : List ByteArray) : Prop where
  pos : 1 ≤ l.length
  most : l.length ≤ 16
  lt : l.Pairwise fun a b => a.data.toList < b.data.toList
  sc : ∀ x ∈ l, isSc x = true
  mem : ∀ x, x ∈ l ↔ x ∈ tsq.parts 32 s
theorem good_of {s : ByteArray} (ha : areSc s = true) (hm : many s = false) : Good s (scL s) := by
  have e : scL s = riseB (tsq.parts 32 s) := by unfold scL; rw [ha, hm]; rfl
  have hp : tsq.parts 32 s ≠ [] := by
    unfold tsq.parts
    intro h
    exact Tm.split_ne 32 s.data.toList (List.map_eq_nil_iff.1 h)
  rw [e]
  refine ⟨?_, ?_, riseB_lt _, fun x hx => List.all_eq_true.1 ha x (mem_riseB.1 hx), fun x => mem_riseB⟩
  · cases hq : tsq.parts 32 s with
    | nil => exact absurd hq hp
    | cons y t =>
      have : y ∈ riseB (y :: t) := mem_riseB.2 (List.mem_cons_self ..)
      exact List.length_pos_of_mem this
  · unfold many at hm
    have := of_decide_eq_false hm
    omega
/-- one scope alone is read as itself -/
theorem sc_alone {x : ByteArray} (h : isSc x = true) (eT eM : Value) : scE eT eM x = .nilIface ∧ scL x = [x] := by
  have ep := sc_parts h
  have ea : areSc x = true := by unfold areSc; rw [ep]; simp [h]
  have er : riseB (tsq.parts 32 x) = [x] := by rw [ep]; exact riseB_again [x] (List.pairwise_singleton _ _)
  constructor
  · unfold scE many; rw [ea, er]; rfl
  · unfold scL many; rw [ea, er]; rfl
/-- written, they are read again as they were -/
theorem good_back {s : ByteArray} {l : List ByteArray} (h : Good s l) (eT eM : Value) : scE eT eM (⟨(joinS l).toArray⟩ : ByteArray) = .nilIface ∧ scL (⟨(joinS l).toArray⟩ : ByteArray) = l := by
  have hne : l ≠ [] := fun e => by have := h.pos; rw [e] at this; exact absurd this (by decide)
  have ew : ∀ m : List ByteArray, (∀ x ∈ m, isSc x = true) → (wordsOf m).map (fun w => (⟨w.toArray⟩ : ByteArray)) = m := by
    intro m
    induction m with
    | nil => intro _; rfl
    | cons x r ih =>
      intro hm
      have e1 := sc_parts (hm x (List.mem_cons_self ..))
      have e2 := ih fun y hy => hm y (List.mem_cons_of_mem _ hy)
      unfold wordsOf at e2 ⊢
      unfold tsq.parts at e1
      rw [List.flatMap_cons, List.map_append, e1, e2]; rfl
  have ep : tsq.parts 32 (⟨(joinS l).toArray⟩ : ByteArray) = l := by rw [parts_join l hne, ew l h.sc]
  have ea : areSc (⟨(joinS l).toArray⟩ : ByteArray) = true := by unfold areSc; rw [ep]; exact List.all_eq_true.2 h.sc
  have er : riseB (tsq.parts 32 (⟨(joinS l).toArray⟩ : ByteArray)) = l := by rw [ep]; exact riseB_again l h.lt
  have hm : many (⟨(joinS l).toArray⟩ : ByteArray) = false := by unfold many; rw [er]; exact decide_eq_false (by have := h.most; omega)
  constructor
  · unfold scE; rw [ea, hm]; rfl
  · unfold scL; rw [ea, hm, er]; rfl
theorem good_bab (eT eM : Value) : scE eT eM ⟨#[98, 32, 97, 32, 98]⟩ = .nilIface ∧ scL ⟨#[98, 32, 97, 32, 98]⟩ = [⟨#[97]⟩, ⟨#[98]⟩] := by
  have ep : tsq.parts 32 ⟨#[98, 32, 97, 32, 98]⟩ = [⟨#[98]⟩, ⟨#[97]⟩, ⟨#[98]⟩] := rfl
  have ea : areSc ⟨#[98, 32, 97, 32, 98]⟩ = true := rfl
  have hr : rise [[98], [97], [98]] = [[97], [98]] := by
    apply Tm.rising_one _ _ (Tm.rise_spec _).1 (by decide)
    intro x
    rw [(Tm.rise_spec _).2 x]
    simp only [List.mem_cons, List.not_mem_nil, or_false]
    constructor
    · rintro (h | h | h) <;> simp [h]
    · rintro (h | h) <;> simp [h]
  have er : riseB (tsq.parts 32 ⟨#[98, 32, 97, 32, 98]⟩) = [⟨#[97]⟩, ⟨#[98]⟩] := by
    rw [ep]
    unfold riseB
    rw [show raw [(⟨#[98]⟩ : ByteArray), ⟨#[97]⟩, ⟨#[98]⟩] = [[98], [97], [98]] from rfl, hr]; rfl
  constructor
  · unfold scE many; rw [ea, er]; rfl
  · unfold scL many; rw [ea, er]; rfl

end Go.Proofs.YtidccfflpcgkiaaGreatDoor.tm

namespace Go.Proofs.YtidccfflpcgkiaaGreatDoor.tm
open Go.ChangeShapes Go.WideShapes Go.ChangeAt Go.RowKit Go.Proofs.YtidccfflpcgkiaaGreatDoor.common Go.Proofs.YtidccfflpcgkiaaGreatDoor.bk
open Go.Proofs.YtidccfflpcgkiaaGreatDoor.ss (sc)
attribute [local go_sem ↓] Go.wp_at_zero Go.wp_at_succ

theorem drop_at (s : ByteArray) (k : Nat) (h : k < s.size) : s.data.toList.drop k = s[k] :: s.data.toList.drop (k + 1) := List.drop_eq_getElem_cons (by simpa using h)
theorem ext_one (s : ByteArray) (k : Nat) (h : k < s.size) : s.extract k (k + 1) = ⟨#[s[k]]⟩ := by
  apply ba_ext
  have e : (s.extract k (k + 1)).data.toList = (s.data.toList.drop k).take 1 := by simp
  rw [e, drop_at s k h]; rfl
theorem app_list (a b : ByteArray) : (a ++ b).data.toList = a.data.toList ++ b.data.toList := by simp

end Go.Proofs.YtidccfflpcgkiaaGreatDoor.tm

namespace Go.Proofs.YtidccfflpcgkiaaGreatDoor.tm
open Go.ChangeShapes Go.WideShapes Go.ChangeAt Go.RowKit Go.Proofs.YtidccfflpcgkiaaGreatDoor.common Go.Proofs.YtidccfflpcgkiaaGreatDoor.bk
open Go.Proofs.YtidccfflpcgkiaaGreatDoor.ss (sc)
attribute [local go_sem ↓] Go.wp_at_zero Go.wp_at_succ

/-- what stands from f up to k -/
def cutB (s : ByteArray) (f k : Nat) : ByteArray := s.extract f k
theorem cut_list (s : ByteArray) (f k : Nat) : (cutB s f k).data.toList = (s.data.toList.drop f).take (k - f) := by
  unfold cutB; simp
theorem cut_snoc (s : ByteArray) (f k : Nat) (hf : f ≤ k) (h : k < s.size) : (cutB s f (k + 1)).data.toList = (cutB s f k).data.toList ++ [s[k]] := by
  rw [cut_list, cut_list, show k + 1 - f = (k - f) + 1 by omega]
  have hl : k - f < (s.data.toList.drop f).length := by rw [List.length_drop, len_list]; omega
  rw [List.take_succ_eq_append_getElem hl, List.getElem_drop]
  congr 2
  have : f + (k - f) = k := by omega
  simp only [this]; rfl
theorem cut_none (s : ByteArray) (k : Nat) : (cutB s k k).data.toList = [] := by rw [cut_list, Nat.sub_self, List.take_zero]

theorem all_both (l : List UInt8) (p q : UInt8 → Bool) : (l.all p && l.all q) = l.all fun b => p b && q b := by
  induction l with
  | nil => rfl
  | cons x r ih => simp only [List.all_cons, ← ih]; cases p x <;> cases q x <;> cases r.all p <;> cases r.all q <;> rfl
def noQ (b : UInt8) : Bool := decide (b.toNat ≠ 34) && decide (b.toNat ≠ 92)
theorem isSc_eq (s : ByteArray) : isSc s = (s.data.toList.all noQ && Tm.word 32 (Tm.btw 33 126) s.data.toList) := by
  unfold isSc Tm.word
  have e : s.data.toList.all scB = (s.data.toList.all (Tm.btw 33 126) && s.data.toList.all noQ) := by
    rw [all_both]
    congr 1
    funext b
    unfold scB noQ
    rw [Bool.and_assoc]
  rw [e]
  cases s.data.toList.all noQ <;> cases s.data.toList.all (Tm.btw 33 126) <;> simp

end Go.Proofs.YtidccfflpcgkiaaGreatDoor.tm
