import Derived.Test.YtiplhmamcghehaaGreatDoorTermLays
import Derived.Lib.SlicesCompact
import Derived.Test.YtiplhmamcghehaaGreatDoorStrBase
import Derived.OpenShut
import Derived.Deep.DeepHandedRow
import Derived.Shelf.Strings.OnBuilder
import Derived.Test.YtiplhmamcghehaaGreatDoorTmByte
import Derived.Test.YtiplhmamcghehaaGreatDoorTmNames
namespace Go.Proofs.YtiplhmamcghehaaGreatDoor.Tm

abbrev By := List UInt8

theorem lt_irr (x : By) : ¬ x < x := List.lt_irrefl x
theorem lt_tr {x y z : By} (h : x < y) (k : y < z) : x < z := List.lt_trans h k
theorem lt_of {x y : By} (h : x ≤ y) (k : x ≠ y) : x < y := by
  rcases Decidable.em (x < y) with h1 | h1
  · exact h1
  · exact absurd (List.le_antisymm h (List.not_lt.1 h1)) k
theorem le_lt {x y z : By} (h : x ≤ y) (k : y < z) : x < z := by
  rcases Decidable.em (x = y) with e | e
  · exact e ▸ k
  · exact lt_tr (lt_of h e) k

/-- a rising list is told by what stands in it -/
theorem rising_one : ∀ xs ys : List By, xs.Pairwise (· < ·) → ys.Pairwise (· < ·) → (∀ x, x ∈ xs ↔ x ∈ ys) → xs = ys
  | [], [], _, _, _ => rfl
  | [], y :: ys, _, _, h => absurd ((h y).2 (List.mem_cons_self ..)) (by simp)
  | x :: xs, [], _, _, h => absurd ((h x).1 (List.mem_cons_self ..)) (by simp)
  | x :: xs, y :: ys, hx, hy, h => by
    rw [List.pairwise_cons] at hx hy
    have e : x = y := by
      rcases List.mem_cons.1 ((h x).1 (List.mem_cons_self ..)) with e | m
      · exact e
      · rcases List.mem_cons.1 ((h y).2 (List.mem_cons_self ..)) with e | m'
        · exact e.symm
        · exact absurd (lt_tr (hx.1 y m') (hy.1 x m)) (lt_irr x)
    subst e
    rw [rising_one xs ys hx.2 hy.2 fun z => ?_]
    constructor
    · intro hz
      rcases List.mem_cons.1 ((h z).1 (List.mem_cons_of_mem _ hz)) with e | m
      · exact absurd (e ▸ hx.1 z hz) (lt_irr _)
      · exact m
    · intro hz
      rcases List.mem_cons.1 ((h z).2 (List.mem_cons_of_mem _ hz)) with e | m
      · exact absurd (e ▸ hy.1 z hz) (lt_irr _)
      · exact m

theorem upTo_inv (zs : List By) (hs : zs.Pairwise (· ≤ ·)) : ∀ m, m ≤ zs.length →
    (Lib.compactUpTo zs.toArray m).Pairwise (· < ·) ∧ (∀ x, x ∈ Lib.compactUpTo zs.toArray m ↔ x ∈ zs.take m) := by
  intro m
  induction m with
  | zero => intro _; exact ⟨by simp [Lib.compactUpTo], fun x => by simp [Lib.compactUpTo]⟩
  | succ m ih =>
    intro hm
    obtain ⟨h1, h2⟩ := ih (by omega)
    have hml : m < zs.length := by omega
    have hd : zs.toArray[m]! = zs[m] := by simp [hml]
    have ht : zs.take (m + 1) = zs.take m ++ [zs[m]] := List.take_succ_eq_append_getElem hml
    rw [Lib.compactUpTo_succ, hd, ht]
    have hle : ∀ x ∈ zs.take m, x ≤ zs[m] := by
      intro x hx
      obtain ⟨i, hi, rfl⟩ := List.mem_iff_getElem.1 hx
      rw [List.length_take] at hi
      rw [List.getElem_take]
      exact List.pairwise_iff_getElem.1 hs i m (by omega) hml (by omega)
    cases hk : Lib.keeps zs.toArray m with
    | true =>
      refine ⟨?_, fun x => ?_⟩
      · simp only [if_true]
        rw [List.pairwise_append]
        refine ⟨h1, List.pairwise_singleton _ _, fun x hx y hy => ?_⟩
        obtain rfl : y = zs[m] := by simpa using hy
        have hx' := (h2 x).1 hx
        by_cases h0 : m = 0
        · subst h0; simp at hx'
        · have hm1 : m - 1 < zs.length := by omega
          have hne : zs[m - 1] ≠ zs[m] := by
            unfold Lib.keeps at hk
            simp [h0] at hk
            have e1 : zs.toArray[m - 1]! = zs[m - 1] := by simp [hm1]
            have e2 : zs.toArray[m]! = zs[m] := hd
            intro e
            first
              | exact hk (by rw [e])
              | exact hk (by simp [hm1, hml, e])
              | (rw [e2, e1] at hk; exact hk e.symm)
              | (rw [e1, e2] at hk; exact hk e)
              | exact hk e.symm
              | exact hk e
          have h3 : x ≤ zs[m - 1] := by
            obtain ⟨i, hi, rfl⟩ := List.mem_iff_getElem.1 hx'
            rw [List.length_take] at hi
            rw [List.getElem_take]
            by_cases e : i = m - 1
            · subst e; exact List.le_refl _
            · exact List.pairwise_iff_getElem.1 hs i (m - 1) (by omega) hm1 (by omega)
          exact le_lt h3 (lt_of (List.pairwise_iff_getElem.1 hs (m - 1) m hm1 hml (by omega)) hne)
      · simp only [if_true, List.mem_append, h2]
    | false =>
      have h0 : m ≠ 0 := by
        intro e; subst e
        rw [Lib.keeps_lt_one _ 0 (by decide)] at hk; cases hk
      have hm1 : m - 1 < zs.length := by omega
      have he : zs[m - 1] = zs[m] := by
        unfold Lib.keeps at hk
        simp [h0] at hk
        have e1 : zs.toArray[m - 1]! = zs[m - 1] := by simp [hm1]
        have e2 : zs.toArray[m]! = zs[m] := hd
        first
          | exact hk
          | exact hk.symm
          | (simp [hm1, hml] at hk; exact hk)
          | (simp [hm1, hml] at hk; exact hk.symm)
      refine ⟨by simpa using h1, fun x => ?_⟩
      simp only [Bool.false_eq_true, if_false, List.append_nil, h2, List.mem_append, List.mem_singleton]
      constructor
      · exact Or.inl
      · rintro (h | rfl)
        · exact h
        · rw [← he]
          exact List.mem_iff_getElem.2 ⟨m - 1, by rw [List.length_take]; omega, by rw [List.getElem_take]⟩

def sorted (ss : List By) : List By := ss.mergeSort fun x y => decide (x ≤ y)
theorem sorted_pw (ss : List By) : (sorted ss).Pairwise (· ≤ ·) := by
  have h := List.pairwise_mergeSort (le := fun x y : By => decide (x ≤ y)) (fun a b c h1 h2 => by
    simp only [decide_eq_true_eq] at *
    exact List.le_trans h1 h2) (fun a b => by
    simp only [Bool.or_eq_true, decide_eq_true_eq]
    exact List.le_total a b) ss
  exact h.imp fun hh => by simpa using hh
theorem rise_spec (ss : List By) : (Lib.compact (ss.mergeSort fun x y => decide (x ≤ y))).Pairwise (· < ·) ∧ ∀ x, x ∈ Lib.compact (ss.mergeSort fun x y => decide (x ≤ y)) ↔ x ∈ ss := by
  have h := upTo_inv (sorted ss) (sorted_pw ss) (sorted ss).length (Nat.le_refl _)
  refine ⟨h.1, fun x => (h.2 x).trans ?_⟩
  rw [List.take_length]
  exact List.mem_mergeSort
/-- the order and how often says nothing -/
theorem rise_eq {ss ts : List By} (h : ∀ x, x ∈ ss ↔ x ∈ ts) : Lib.compact (ss.mergeSort fun x y => decide (x ≤ y)) = Lib.compact (ts.mergeSort fun x y => decide (x ≤ y)) :=
  rising_one _ _ (rise_spec ss).1 (rise_spec ts).1 fun x => ((rise_spec ss).2 x).trans ((h x).trans ((rise_spec ts).2 x).symm)

theorem split_cons (c x : UInt8) (r : By) : split c (x :: r) = if x = c then [] :: split c r else match split c r with
    | h :: t => (x :: h) :: t
    | [] => [[x]] := rfl
theorem split_app (c : UInt8) : ∀ a b : By, split c (a ++ c :: b) = split c a ++ split c b
  | [], b => by rw [List.nil_append, split_cons, if_pos rfl]; rfl
  | x :: a, b => by
    have ih := split_app c a b
    rw [List.cons_append, split_cons, split_cons c x a]
    by_cases h : x = c
    · rw [if_pos h, if_pos h, ih]; rfl
    · rw [if_neg h, if_neg h, ih]
      cases hs : split c a with
      | nil => exact absurd hs (split_ne c a)
      | cons u t => rfl
end Go.Proofs.YtiplhmamcghehaaGreatDoor.Tm

namespace Go.Proofs.YtiplhmamcghehaaGreatDoor.ss
open Go.ChangeShapes Go.WideShapes Go.ChangeAt Go.RowKit Go.Joins Go.Proofs.YtiplhmamcghehaaGreatDoor.common Go.Proofs.YtiplhmamcghehaaGreatDoor.bk
open Go.WideMaps Go.WideElems

/-- all the bytes of texts, and one for each -/
def tot (l : List ByteArray) : Nat := (l.map fun x => x.size + 1).sum

theorem weightsAll_mem {H : Type} {P : Program} {e : TypeId} {p : Nat → Bool} : ∀ (l : List (DataW H)), (DataW.weightsAll P e l).all p = true → ∀ d ∈ l, (d.weights P e).all p = true
  | [], _, d, hd => by cases hd
  | x :: r, h, d, hd => by
    rw [DataW.weightsAll, List.all_append, Bool.and_eq_true] at h
    rcases List.mem_cons.1 hd with rfl | hd
    · exact h.1
    · exact weightsAll_mem r h.2 d hd
theorem bytesStr : Tryz.prog.bytesOf 9 = 16 := by kernel_rfl
theorem cellsStr1 : Tryz.prog.cellsOf 9 = 1 := by kernel_rfl
theorem sum_bulkS {H : Type} (f : Nat → ByteArray) (D : Nat → DataW H) : ∀ (ns : List Nat), (∀ i ∈ ns, (f i).size + 1 ≤ Rows.uptoBulk (D i)) → tot (ns.map f) ≤ Rows.uptoBulkAll (ns.map D)
  | [], _ => Nat.zero_le _
  | n :: r, h => by
    have h1 := h n (List.mem_cons_self ..)
    have h2 := sum_bulkS f D r fun i hi => h i (List.mem_cons_of_mem _ hi)
    unfold tot at h2 ⊢
    simp only [List.map_cons, List.sum_cons, Rows.uptoBulkAll]
    omega
theorem len_tot (l : List ByteArray) : l.length ≤ tot l := by
  unfold tot
  induction l with
  | nil => exact Nat.zero_le _
  | cons x r ih => simp only [List.map_cons, List.sum_cons, List.length_cons]; omega

set_option maxRecDepth 100000 in
/-- a list of texts as an argument -/
theorem strs_of {H : Type} {enc : TypeId × Value → H} {W : World} {fuel : Nat} {v : Value} {d : DataW H} {pl : List MemPlace}
    (h : DataW.trod enc Tryz.prog W 0 (fun _ => true) true fuel 24 [v] = some (d, pl)) (hw : (d.weights Tryz.prog 24).all (· ≤ reachBytes) = true) :
    ∃ l, Lies W v l ∧ l.length * 16 ≤ reachBytes ∧ (∀ x ∈ l, x.size ≤ reachBytes) ∧ tot l ≤ Rows.uptoBulk d := by
  rcases Deep.open_slice Tryz.underlying24 h with ⟨hcs, hx⟩ | ⟨a, len, cap, m, n, D, Pl, hcs, hb, hl, hm, hmm, hx, hall⟩
  · obtain rfl : v = .slice none 0 0 := by simpa using hcs
    exact ⟨[], lies_nil W, Nat.zero_le _, fun x hx => (by cases hx), Nat.zero_le _⟩
  · obtain rfl : v = .slice (some a) len cap := by simpa using hcs
    have hd : d = .slice ((List.range len).map D) ((List.range (m - len)).map fun j => D (len + j)) := (Prod.mk.inj hx).1
    subst hd
    simp only [DataW.weights, Tryz.underlying24, List.all_cons, List.all_append, Bool.and_eq_true] at hw
    have each : ∀ i, ∃ p : ByteArray, i < len → D i = .lit (.string p.data.toList) ∧ p.size + 1 ≤ Rows.uptoBulk (D i) ∧ ∃ b o, a = ⟨b, o, none⟩ ∧ b < W.heap.size ∧ W.cell? ⟨b, o + i, none⟩ = some (.string p) := by
      intro i
      by_cases hi : i < len
      · obtain ⟨cs', h1, h2⟩ := hall i (by rw [hmm]; simp; omega)
        rw [cellsStr1] at h1
        obtain ⟨_, hlen, hcell⟩ := World.cells?_some h1
        match cs', hlen with
        | [v0], _ =>
          obtain ⟨s, es, hz, _⟩ := DataW.trod_string Tryz.underlying9 h2
          simp at es
          subst es
          have hDi : D i = .lit (.string s.data.toList) := (Prod.mk.inj hz).1
          have hw : s.size + 1 ≤ Rows.uptoBulk (D i) := by
            rw [hDi]
            simp only [Rows.uptoBulk, len_list]
            omega
          have c0 := hcell 0 (by decide)
          have hsp : a.spot = none := by
            have q0 := hall 0 (by rw [hmm]; simp; omega)
            obtain ⟨cs0, g1, _⟩ := q0
            rw [cellsStr1] at g1
            obtain ⟨_, hlen0, hcell0⟩ := World.cells?_some g1
            have g2 := hcell0 0 (by decide)
            rw [List.getElem?_eq_getElem (by omega)] at g2
            have := World.cell?_spot g2
            simpa [Addr.add] using this
          obtain ⟨b, o, sp⟩ := a
          simp at hsp
          subst hsp
          rw [Addr.add_mid, Addr.add_mid] at c0
          have c0' : W.cell? ⟨b, o + i, none⟩ = some (.string s) := by simpa using c0
          exact ⟨s, fun _ => ⟨hDi, hw, b, o, rfl, World.block_lt_of_cell? W _ c0', c0'⟩⟩
      · exact ⟨ByteArray.empty, fun h => absurd h hi⟩
    obtain ⟨f, hf⟩ := Classical.axiomOfChoice each
    have hlen : ((List.range len).map f).length = len := by simp
    have hsum := sum_bulkS f D (List.range len) (fun i hi => (hf i (List.mem_range.1 hi)).2.1)
    have hB : Rows.uptoBulkAll ((List.range len).map D) ≤ Rows.uptoBulk (.slice ((List.range len).map D) ((List.range (m - len)).map fun j => D (len + j))) := by
      simp only [Rows.uptoBulk]
      omega
    have hww : len * 16 ≤ reachBytes ∧ ∀ i, i < len → (f i).size ≤ reachBytes := by
      refine ⟨?_, fun i hi => ?_⟩
      · have h1 := hw.1
        rw [bytesStr] at h1
        simp at h1
        omega
      · have hwi := weightsAll_mem _ hw.2.1 (D i) (List.mem_map.2 ⟨i, List.mem_range.2 hi, rfl⟩)
        rw [(hf i hi).1] at hwi
        simp [DataW.weights] at hwi
        simpa using hwi
    refine ⟨(List.range len).map f, ⟨some a, cap, by rw [hlen], fun i hi => ?_⟩, by rw [hlen]; exact hww.1, ?_, Nat.le_trans hsum hB⟩
    · rw [hlen] at hi
      obtain ⟨_, _, b, o, rfl, hb, c0⟩ := hf i hi
      exact ⟨b, o, rfl, hb, by simpa using c0⟩
    · intro x hx
      obtain ⟨i, hi, rfl⟩ := List.mem_map.1 hx
      exact hww.2 i (List.mem_range.1 hi)

end Go.Proofs.YtiplhmamcghehaaGreatDoor.ss

namespace Go.Proofs.YtiplhmamcghehaaGreatDoor.ss
open Go.ChangeShapes Go.WideShapes Go.ChangeAt Go.RowKit Go.Proofs.YtiplhmamcghehaaGreatDoor.common Go.Proofs.YtiplhmamcghehaaGreatDoor.bk
attribute [local go_sem ↓] Go.wp_at_zero Go.wp_at_succ

/-- texts with a blank between each two -/
def joinS (l : List ByteArray) : List UInt8 := Lib.join (l.map (·.data.toList)) [32]
theorem join_snoc (x : List UInt8) (r : List (List UInt8)) (y : List UInt8) : Lib.join ((x :: r) ++ [y]) [32] = Lib.join (x :: r) [32] ++ [32] ++ y := by
  rw [List.cons_append, Lib.join_cons, Lib.join_cons]
  unfold Lib.joinTail
  simp [List.append_assoc]
theorem joinS_snoc (l : List ByteArray) (k : Nat) (h : k < l.length) (h0 : 0 < k) : joinS (l.take (k + 1)) = joinS (l.take k) ++ [32] ++ l[k].data.toList := by
  rw [takeS l k h]
  unfold joinS
  rw [List.map_append]
  cases e : l.take k with
  | nil => have := congrArg List.length e; rw [List.length_take, Nat.min_eq_left (by omega), List.length_nil] at this; omega
  | cons x r => rw [List.map_cons]; exact join_snoc _ _ _
theorem joinS_first (l : List ByteArray) (h : 0 < l.length) : joinS (l.take 1) = l[0].data.toList := by
  rw [show 1 = 0 + 1 from rfl, takeS l 0 h]
  unfold joinS
  simp [Lib.join_one]
theorem tot_app (l m : List ByteArray) : tot (l ++ m) = tot l + tot m := by simp [tot]
theorem joinS_len (l : List ByteArray) : (joinS l).length ≤ tot l := by
  unfold joinS
  cases l with
  | nil => simp [Lib.join_nil]
  | cons x r =>
    rw [List.map_cons, Lib.join_cons]
    unfold Lib.joinTail tot
    rw [List.length_append, len_list, List.map_cons, List.sum_cons]
    have : ∀ m : List ByteArray, (((m.map (·.data.toList)).map ([32] ++ ·)).flatten).length ≤ (m.map fun x => x.size + 1).sum := by
      intro m
      induction m with
      | nil => simp
      | cons y s ih =>
        simp only [List.map_cons, List.flatten_cons, List.length_append, List.sum_cons, List.length_cons, List.length_nil, len_list]
        omega
    have := this r
    omega
theorem tot_take (l : List ByteArray) (k : Nat) (h : k < l.length) : tot (l.take k) + l[k].size + 1 ≤ tot l := by
  have e : tot l = tot (l.take (k + 1)) + tot (l.drop (k + 1)) := by rw [← tot_app, List.take_append_drop]
  rw [e, takeS l k h, tot_app]
  simp [tot]; omega
theorem tot_mem {l : List ByteArray} {x : ByteArray} (h : x ∈ l) : x.size + 1 ≤ tot l := by
  induction l with
  | nil => cases h
  | cons y r ih =>
    have e : tot (y :: r) = y.size + 1 + tot r := by simp [tot]
    rw [e]
    rcases List.mem_cons.1 h with rfl | h
    · omega
    · have := ih h; omega

end Go.Proofs.YtiplhmamcghehaaGreatDoor.ss

namespace Go.Proofs.YtiplhmamcghehaaGreatDoor.ss
open Go.ChangeShapes Go.WideShapes Go.ChangeAt Go.RowKit Go.Joins Go.Proofs.YtiplhmamcghehaaGreatDoor.common Go.Proofs.YtiplhmamcghehaaGreatDoor.bk
attribute [local go_sem ↓] Go.wp_at_zero Go.wp_at_succ

/-- a slice is no longer than its room -/
def Room (v : Value) : Prop := ∀ oa n c, v = .slice oa n c → n ≤ c
theorem room_of {H : Type} {enc : TypeId × Value → H} {W : World} {fuel : Nat} {v : Value} {x : DataW H × List MemPlace} (h : DataW.trod enc Tryz.prog W 0 (fun _ => true) true fuel 24 [v] = some x) : Room v := by
  rcases Deep.open_slice Tryz.underlying24 h with ⟨hcs, _⟩ | ⟨a, len, cap, m, n, D, Pl, hcs, _, hl, _⟩
  · obtain rfl : v = .slice none 0 0 := by simpa using hcs
    intro oa n c e; cases e; exact Nat.le_refl _
  · obtain rfl : v = .slice (some a) len cap := by simpa using hcs
    intro oa n c e; cases e; exact hl
theorem room_own {w : World} {base : Nat} {e : TypeId} {v : Value} {n : Nat} {xs : List Value} (h : w.ownsRow base e 1 v n xs) : Room v := by
  rcases h.2 with ⟨rfl, _⟩ | ⟨g, cap, cur, rfl, _, _, hn, _⟩
  · intro oa n c e; cases e; exact Nat.le_refl _
  · intro oa n c e; cases e; exact hn

end Go.Proofs.YtiplhmamcghehaaGreatDoor.ss

namespace Go.Proofs.YtiplhmamcghehaaGreatDoor.tm
open Go.RowKit Go.Proofs.YtiplhmamcghehaaGreatDoor.common Go.Proofs.YtiplhmamcghehaaGreatDoor.bk
open Go.Proofs.YtiplhmamcghehaaGreatDoor.ss (joinS tot)

/-- the words of all of them -/
def wordsOf (l : List ByteArray) : List (List UInt8) := l.flatMap fun x => Tm.split 32 x.data.toList
theorem split_tail (r : List (List UInt8)) : ∀ x : List UInt8, Tm.split 32 (x ++ Lib.joinTail [32] r) = Tm.split 32 x ++ r.flatMap (Tm.split 32) := by
  induction r with
  | nil => intro x; simp [Lib.joinTail]
  | cons y s ih =>
    intro x
    have e : x ++ Lib.joinTail [32] (y :: s) = x ++ 32 :: (y ++ Lib.joinTail [32] s) := by simp [Lib.joinTail]
    rw [e, Tm.split_app, ih y, List.flatMap_cons]
theorem parts_join (l : List ByteArray) (h : l ≠ []) : tsq.parts 32 (⟨(joinS l).toArray⟩ : ByteArray) = (wordsOf l).map fun w => ⟨w.toArray⟩ := by
  unfold tsq.parts wordsOf joinS
  cases l with
  | nil => exact absurd rfl h
  | cons x r =>
    rw [str_list, List.map_cons, Lib.join_cons, split_tail, List.flatMap_cons, List.flatMap_map]
theorem raw_map (ws : List (List UInt8)) : raw (ws.map fun w => (⟨w.toArray⟩ : ByteArray)) = ws := by
  unfold raw
  rw [List.map_map]
  exact (List.map_congr_left (fun _ _ => rfl)).trans (List.map_id ws)
theorem mem_words (l : List ByteArray) (x : List UInt8) : x ∈ wordsOf (l.reverse ++ l) ↔ x ∈ wordsOf l := by
  unfold wordsOf
  simp only [List.mem_flatMap, List.mem_append, List.mem_reverse, or_self]

theorem scope_order (l : List ByteArray) (eT eM : Value) : scE eT eM (⟨(joinS (l.reverse ++ l)).toArray⟩ : ByteArray) = scE eT eM (⟨(joinS l).toArray⟩ : ByteArray) ∧ scL (⟨(joinS (l.reverse ++ l)).toArray⟩ : ByteArray) = scL (⟨(joinS l).toArray⟩ : ByteArray) := by
  by_cases h : l = []
  · subst h; exact ⟨rfl, rfl⟩
  · have h2 : l.reverse ++ l ≠ [] := by simp [h]
    have e1 := parts_join l h
    have e2 := parts_join _ h2
    have er : riseB (tsq.parts 32 (⟨(joinS (l.reverse ++ l)).toArray⟩ : ByteArray)) = riseB (tsq.parts 32 (⟨(joinS l).toArray⟩ : ByteArray)) := by
      rw [e1, e2]
      unfold riseB rise
      rw [raw_map, raw_map, Tm.rise_eq (mem_words l)]
    have ea : areSc (⟨(joinS (l.reverse ++ l)).toArray⟩ : ByteArray) = areSc (⟨(joinS l).toArray⟩ : ByteArray) := by
      unfold areSc
      rw [e1, e2, List.all_map, List.all_map, Bool.eq_iff_iff, List.all_eq_true, List.all_eq_true]
      exact ⟨fun hh x hx => hh x ((mem_words l x).2 hx), fun hh x hx => hh x ((mem_words l x).1 hx)⟩
    constructor
    · unfold scE many; rw [ea, er]
    · unfold scL many; rw [ea, er]

theorem rise_one (x : List UInt8) : rise [x] = [x] := by
  apply Tm.rising_one _ _ (Tm.rise_spec [x]).1 (List.pairwise_singleton _ _)
  exact (Tm.rise_spec [x]).2
theorem one_x (eT eM : Value) : scE eT eM ⟨#[120]⟩ = .nilIface ∧ scL ⟨#[120]⟩ = [⟨#[120]⟩] := by
  have ep : tsq.parts 32 ⟨#[120]⟩ = [⟨#[120]⟩] := rfl
  have ea : areSc ⟨#[120]⟩ = true := rfl
  have er : riseB (tsq.parts 32 ⟨#[120]⟩) = [⟨#[120]⟩] := by
    rw [ep]
    unfold riseB
    rw [show raw [(⟨#[120]⟩ : ByteArray)] = [[120]] from rfl, rise_one]; rfl
  constructor
  · unfold scE many; rw [ea, er]; rfl
  · unfold scL many; rw [ea, er]; rfl

end Go.Proofs.YtiplhmamcghehaaGreatDoor.tm

namespace Go.Proofs.YtiplhmamcghehaaGreatDoor.tm
open Go.RowKit Go.Proofs.YtiplhmamcghehaaGreatDoor.common Go.Proofs.YtiplhmamcghehaaGreatDoor.bk
open Go.Proofs.YtiplhmamcghehaaGreatDoor.ss (joinS tot)

/-- a word ahead of the first -/
def pre (w : List UInt8) : List (List UInt8) → List (List UInt8)
  | h :: t => (w ++ h) :: t
  | [] => [w]
theorem pre_nil (c : UInt8) (l : List UInt8) : pre [] (Tm.split c l) = Tm.split c l := by
  cases h : Tm.split c l with
  | nil => exact absurd h (Tm.split_ne c l)
  | cons u t => rfl
theorem pre_sep (c : UInt8) (w r : List UInt8) : pre w (Tm.split c (c :: r)) = w :: pre [] (Tm.split c r) := by
  rw [pre_nil, Tm.split_cons, if_pos rfl]
  show (w ++ []) :: _ = _
  rw [List.append_nil]
theorem pre_not (c x : UInt8) (h : x ≠ c) (w r : List UInt8) : pre w (Tm.split c (x :: r)) = pre (w ++ [x]) (Tm.split c r) := by
  rw [Tm.split_cons, if_neg h]
  cases hs : Tm.split c r with
  | nil => exact absurd hs (Tm.split_ne c r)
  | cons u t => show (w ++ x :: u) :: t = (w ++ [x] ++ u) :: t; simp
theorem pre_end (c : UInt8) (w : List UInt8) : pre w (Tm.split c []) = [w] := by
  show [w ++ []] = _; rw [List.append_nil]

theorem btw_32 : scB 32 = false := by decide
/-- a scope has no blank -/
theorem sc_parts {x : ByteArray} (h : isSc x = true) : tsq.parts 32 x = [x] := by
  apply tsq.parts_none
  intro b hb e
  unfold isSc Tm.word at h
  rw [Bool.and_eq_true] at h
  have := List.all_eq_true.1 h.2 b hb
  rw [e, btw_32] at this; cases this
theorem sc_size {x : ByteArray} (h : isSc x = true) : x.size ≤ 32 := by
  unfold isSc Tm.word at h
  rw [Bool.and_eq_true, Bool.and_eq_true] at h
  have := of_decide_eq_true h.1.2
  rwa [len_list] at this
theorem mem_riseB {zs : List ByteArray} {x : ByteArray} : x ∈ riseB zs ↔ x ∈ zs := by
  unfold riseB
  rw [List.mem_map]
  constructor
  · rintro ⟨y, hy, rfl⟩
    have := ((Tm.rise_spec (raw zs)).2 y).1 hy
    unfold raw at this
    obtain ⟨z, hz, rfl⟩ := List.mem_map.1 this
    exact hz
  · intro h
    refine ⟨x.data.toList, ((Tm.rise_spec (raw zs)).2 _).2 ?_, rfl⟩
    unfold raw
    exact List.mem_map.2 ⟨x, h, rfl⟩
theorem riseB_lt (zs : List ByteArray) : (riseB zs).Pairwise fun a b => a.data.toList < b.data.toList := by
  unfold riseB
  rw [List.pairwise_map]
  exact (Tm.rise_spec (raw zs)).1
theorem riseB_again (l : List ByteArray) (h : l.Pairwise fun a b => a.data.toList < b.data.toList) : riseB l = l := by
  have e : rise (raw l) = raw l := by
    apply Tm.rising_one _ _ (Tm.rise_spec (raw l)).1
    · unfold raw; rw [List.pairwise_map]; exact h
    · exact (Tm.rise_spec (raw l)).2
  unfold riseB
  rw [e]
  unfold raw
  rw [List.map_map]
  exact (List.map_congr_left (fun _ _ => rfl)).trans (List.map_id l)

/-- what is known of scopes that were read -/
structure Good (s : ByteArray) (l : List ByteArray) : Prop where
  pos : 1 ≤ l.length
  most : l.length ≤ 16
  lt : l.Pairwise fun a b => a.data.toList < b.data.toList
  sc : ∀ x ∈ l, isSc x = true
  mem : ∀ x, x ∈ l ↔ x ∈ tsq.parts 32 s
theorem good_of {s : ByteArray} (ha : areSc s = true) (hm : many s = false) : Good s (scL s) := by
  have e : scL s = riseB (tsq.parts 32 s) := by unfold scL; rw [ha, hm]; rfl
  have hp : tsq.parts 32 s ≠ [] := by
    unfold tsq.parts
    intro h
    exact Tm.split_ne 32 s.data.toList (List.map_eq_nil_iff.1 h)
  rw [e]
  refine ⟨?_, ?_, riseB_lt _, fun x hx => List.all_eq_true.1 ha x (mem_riseB.1 hx), fun x => mem_riseB⟩
  · cases hq : tsq.parts 32 s with
    | nil => exact absurd hq hp
    | cons y t =>
      have : y ∈ riseB (y :: t) := mem_riseB.2 (List.mem_cons_self ..)
      exact List.length_pos_of_mem this
  · unfold many at hm
    have := of_decide_eq_false hm
    omega
/-- one scope alone is read as itself -/
theorem sc_alone {x : ByteArray} (h : isSc x = true) (eT eM : Value) : scE eT eM x = .nilIface ∧ scL x = [x] := by
  have ep := sc_parts h
  have ea : areSc x = true := by unfold areSc; rw [ep]; simp [h]
  have er : riseB (tsq.parts 32 x) = [x] := by rw [ep]; exact riseB_again [x] (List.pairwise_singleton _ _)
  constructor
  · unfold scE many; rw [ea, er]; rfl
  · unfold scL many; rw [ea, er]; rfl
/-- written, they are read again as they were -/
theorem good_back {s : ByteArray} {l : List ByteArray} (h : Good s l) (eT eM : Value) : scE eT eM (⟨(joinS l).toArray⟩ : ByteArray) = .nilIface ∧ scL (⟨(joinS l).toArray⟩ : ByteArray) = l := by
  have hne : l ≠ [] := fun e => by have := h.pos; rw [e] at this; exact absurd this (by decide)
  have ew : ∀ m : List ByteArray, (∀ x ∈ m, isSc x = true) → (wordsOf m).map (fun w => (⟨w.toArray⟩ : ByteArray)) = m := by
    intro m
    induction m with
    | nil => intro _; rfl
    | cons x r ih =>
      intro hm
      have e1 := sc_parts (hm x (List.mem_cons_self ..))
      have e2 := ih fun y hy => hm y (List.mem_cons_of_mem _ hy)
      unfold wordsOf at e2 ⊢
      unfold tsq.parts at e1
      rw [List.flatMap_cons, List.map_append, e1, e2]; rfl
  have ep : tsq.parts 32 (⟨(joinS l).toArray⟩ : ByteArray) = l := by rw [parts_join l hne, ew l h.sc]
  have ea : areSc (⟨(joinS l).toArray⟩ : ByteArray) = true := by unfold areSc; rw [ep]; exact List.all_eq_true.2 h.sc
  have er : riseB (tsq.parts 32 (⟨(joinS l).toArray⟩ : ByteArray)) = l := by rw [ep]; exact riseB_again l h.lt
  have hm : many (⟨(joinS l).toArray⟩ : ByteArray) = false := by unfold many; rw [er]; exact decide_eq_false (by have := h.most; omega)
  constructor
  · unfold scE; rw [ea, hm]; rfl
  · unfold scL; rw [ea, hm, er]; rfl
theorem good_bab (eT eM : Value) : scE eT eM ⟨#[98, 32, 97, 32, 98]⟩ = .nilIface ∧ scL ⟨#[98, 32, 97, 32, 98]⟩ = [⟨#[97]⟩, ⟨#[98]⟩] := by
  have ep : tsq.parts 32 ⟨#[98, 32, 97, 32, 98]⟩ = [⟨#[98]⟩, ⟨#[97]⟩, ⟨#[98]⟩] := rfl
  have ea : areSc ⟨#[98, 32, 97, 32, 98]⟩ = true := rfl
  have hr : rise [[98], [97], [98]] = [[97], [98]] := by
    apply Tm.rising_one _ _ (Tm.rise_spec _).1 (by decide)
    intro x
    rw [(Tm.rise_spec _).2 x]
    simp only [List.mem_cons, List.not_mem_nil, or_false]
    constructor
    · rintro (h | h | h) <;> simp [h]
    · rintro (h | h) <;> simp [h]
  have er : riseB (tsq.parts 32 ⟨#[98, 32, 97, 32, 98]⟩) = [⟨#[97]⟩, ⟨#[98]⟩] := by
    rw [ep]
    unfold riseB
    rw [show raw [(⟨#[98]⟩ : ByteArray), ⟨#[97]⟩, ⟨#[98]⟩] = [[98], [97], [98]] from rfl, hr]; rfl
  constructor
  · unfold scE many; rw [ea, er]; rfl
  · unfold scL many; rw [ea, er]; rfl

end Go.Proofs.YtiplhmamcghehaaGreatDoor.tm

namespace Go.Proofs.YtiplhmamcghehaaGreatDoor.tm
open Go.ChangeShapes Go.WideShapes Go.ChangeAt Go.RowKit Go.Proofs.YtiplhmamcghehaaGreatDoor.common Go.Proofs.YtiplhmamcghehaaGreatDoor.bk
open Go.Proofs.YtiplhmamcghehaaGreatDoor.ss (sc)
attribute [local go_sem ↓] Go.wp_at_zero Go.wp_at_succ

theorem drop_at (s : ByteArray) (k : Nat) (h : k < s.size) : s.data.toList.drop k = s[k] :: s.data.toList.drop (k + 1) := List.drop_eq_getElem_cons (by simpa using h)
theorem ext_one (s : ByteArray) (k : Nat) (h : k < s.size) : s.extract k (k + 1) = ⟨#[s[k]]⟩ := by
  apply ba_ext
  have e : (s.extract k (k + 1)).data.toList = (s.data.toList.drop k).take 1 := by simp
  rw [e, drop_at s k h]; rfl
theorem app_list (a b : ByteArray) : (a ++ b).data.toList = a.data.toList ++ b.data.toList := by simp

end Go.Proofs.YtiplhmamcghehaaGreatDoor.tm

namespace Go.Proofs.YtiplhmamcghehaaGreatDoor.tm
open Go.ChangeShapes Go.WideShapes Go.ChangeAt Go.RowKit Go.Proofs.YtiplhmamcghehaaGreatDoor.common Go.Proofs.YtiplhmamcghehaaGreatDoor.bk
open Go.Proofs.YtiplhmamcghehaaGreatDoor.ss (sc)
attribute [local go_sem ↓] Go.wp_at_zero Go.wp_at_succ

/-- what stands from f up to k -/
def cutB (s : ByteArray) (f k : Nat) : ByteArray := s.extract f k
theorem cut_list (s : ByteArray) (f k : Nat) : (cutB s f k).data.toList = (s.data.toList.drop f).take (k - f) := by
  unfold cutB; simp
theorem cut_snoc (s : ByteArray) (f k : Nat) (hf : f ≤ k) (h : k < s.size) : (cutB s f (k + 1)).data.toList = (cutB s f k).data.toList ++ [s[k]] := by
  rw [cut_list, cut_list, show k + 1 - f = (k - f) + 1 by omega]
  have hl : k - f < (s.data.toList.drop f).length := by rw [List.length_drop, len_list]; omega
  rw [List.take_succ_eq_append_getElem hl, List.getElem_drop]
  congr 2
  have : f + (k - f) = k := by omega
  simp only [this]; rfl
theorem cut_none (s : ByteArray) (k : Nat) : (cutB s k k).data.toList = [] := by rw [cut_list, Nat.sub_self, List.take_zero]

set_option maxRecDepth 100000 in
set_option maxHeartbeats 3200000 in
theorem refParts_any (s : ByteArray) (w : World) (hs : s.size ≤ 4294967200) :
    Calls Tryz.prog 101 #[.string s] w fun e w' => ∃ v, e = .returned v ∧ w'.ownsRow w.heap.size 9 1 v (tsq.parts 32 s).length (sc (tsq.parts 32 s)) ∧ Below w.heap.size w w' := by
  obtain ⟨i0, hi, hz0, hz1, hz2⟩ := info_parts ss.infoS
  have HP : Hid (tsq.parts 32 s = (Tm.split 32 s.data.toList).map fun l => ⟨l.toArray⟩) := rfl
  go_enter Tryz.func101, Tryz.ntmps101
  go_wp2_with fail
  go_loopw [3, 4, 5] (fun v x i wr => ∃ (k f : Nat) (L : List ByteArray), k ≤ s.size ∧ i = .int .i64 k ∧ x = .int .i64 f ∧ f ≤ k ∧ L.length ≤ k ∧
      Hid (tsq.parts 32 s = L ++ (pre (cutB s f k).data.toList (Tm.split 32 (s.data.toList.drop k))).map fun l => ⟨l.toArray⟩) ∧ Hid (wr.ownsRow w.heap.size 9 1 v L.length (sc L)) ∧ Hid (Below w.heap.size w wr)) (fun _ _ i _ => s.size - (intOf i).toNat)
  case atStart => exact ⟨0, 0, [], Nat.zero_le _, rfl, rfl, Nat.le_refl _, Nat.le_refl _, by show _ = _; rw [HP.out, List.drop_zero, cut_none]; show _ = [] ++ _; rw [List.nil_append, pre_nil], World.ownsRow_nil _ _ _ _, Below.refl _ _⟩
  case round =>
    obtain ⟨k, f, L, hk, rfl, rfl, hq, hL, HI, HO, HB⟩ := hrel
    obtain ⟨oo, on, oc, rfl⟩ : ∃ oa n cap, u3 = .slice oa n cap := by
      rcases HO.out.2 with ⟨h, _⟩ | ⟨g, cap, cur, h, _⟩
      · exact ⟨none, 0, 0, h⟩
      · exact ⟨_, _, cap, h⟩
    have hsz := HB.out.size
    have hown := HO.out
    have k0 : (0 : Int) ≤ (k : Int) := Int.natCast_nonneg _
    have f0 : (0 : Int) ≤ (f : Int) := Int.natCast_nonneg _
    have fk : (f : Int) ≤ (k : Int) := by omega
    have ks : (k : Int) ≤ (s.size : Int) := by omega
    have fs : (f : Int) ≤ (s.size : Int) := by omega
    by_cases hlt : k < s.size
    · have hki : (k : Int) < (s.size : Int) := by omega
      have HD := hide (drop_at s k hlt)
      by_cases hb : s[k].toNat = 32
      · have hbi : (s[k].toNat : Int) = 32 := by omega
        have hb8 : s[k] = 32 := UInt8.toNat_inj.1 hb
        have HN : Hid (tsq.parts 32 s = (L ++ [s.extract f k]) ++ (pre (cutB s (k + 1) (k + 1)).data.toList (Tm.split 32 (s.data.toList.drop (k + 1)))).map fun l => ⟨l.toArray⟩) := by
          show _ = _
          rw [HI.out, HD.out, hb8, pre_sep, List.map_cons, cut_none, List.append_assoc]; rfl
        clear hb8 HI
        go_wp2_with (at_builtin; refine wpList_append_own _ rfl _ _ 24 rfl w.heap.size 9 i0 (.string ⟨#[]⟩) 1 16 Tryz.underlying24 hi hz0 hz1 hz2 rfl (by decide) _ _ _ rfl (hown.alloc _) ⟨wr.heap.size, 0, none⟩ 1 1 [.string (s.extract f k)] rfl rfl (bk.cell_one_new _ _ _) ?c2 ?c3 ?c4 ?c5 ?_)
        case c2 => first | rfl | (intro u hu; simp at hu; rcases hu with rfl; rfl)
        case c3 => unfold maxLen; omega
        case c4 => omega
        case c5 => first | omega | (simp; omega)
        intro v' w2 hown' hgrow _
        have R1 : Hid (w2.ownsRow w.heap.size 9 1 v' (L ++ [s.extract f k]).length (sc (L ++ [s.extract f k]))) := by
          show w2.ownsRow _ _ _ _ _ _
          rw [List.length_append]
          show w2.ownsRow _ _ _ _ _ (List.map Value.string (L ++ [s.extract f k]))
          rw [List.map_append]; exact hown'
        have R2 : Hid (Below w.heap.size w w2) := (HB.out.alloc hsz _).grown hgrow (by simp; omega) (own_ge hown)
        clear hown' hgrow hown
        go_wp2
        go_roundw
        case rel => exact ⟨k + 1, k + 1, L ++ [s.extract f k], by omega, by go_num, by go_num, Nat.le_refl _, by rw [List.length_append]; simp; omega, HN, R1, R2⟩
        case measure => simp [intOf]; omega
      · have hbi : ¬ (s[k].toNat : Int) = 32 := by omega
        have hb8 : s[k] ≠ 32 := fun e => hb (by rw [e]; rfl)
        have HN : Hid (tsq.parts 32 s = L ++ (pre (cutB s f (k + 1)).data.toList (Tm.split 32 (s.data.toList.drop (k + 1)))).map fun l => ⟨l.toArray⟩) := by
          show _ = _
          rw [HI.out, HD.out, pre_not 32 _ hb8, cut_snoc s f k hq hlt]
        clear hb8 HI hown
        go_wp2_with fail
        go_roundw
        case rel => exact ⟨k + 1, f, L, by omega, by go_num, rfl, by omega, by omega, HN, HO, HB⟩
        case measure => simp [intOf]; omega
    · obtain rfl : k = s.size := by omega
      have HN : Hid (tsq.parts 32 s = L ++ [s.extract f s.size]) := by
        show _ = _
        rw [HI.out, List.drop_eq_nil_of_le (by rw [len_list]; exact Nat.le_refl _), pre_end]; rfl
      clear HI
      go_wp2_with (at_builtin; refine wpList_append_own _ rfl _ _ 24 rfl w.heap.size 9 i0 (.string ⟨#[]⟩) 1 16 Tryz.underlying24 hi hz0 hz1 hz2 rfl (by decide) _ _ _ rfl (hown.alloc _) ⟨wr.heap.size, 0, none⟩ 1 1 [.string (s.extract f s.size)] rfl rfl (bk.cell_one_new _ _ _) ?c2 ?c3 ?c4 ?c5 ?_)
      case c2 => first | rfl | (intro u hu; simp at hu; rcases hu with rfl; rfl)
      case c3 => unfold maxLen; omega
      case c4 => omega
      case c5 => first | omega | (simp; omega)
      intro v' w2 hown' hgrow _
      have R1 : Hid (w2.ownsRow w.heap.size 9 1 v' (tsq.parts 32 s).length (sc (tsq.parts 32 s))) := by
        show w2.ownsRow _ _ _ _ _ _
        rw [HN.out, List.length_append]
        show w2.ownsRow _ _ _ _ _ (List.map Value.string (L ++ [s.extract f s.size]))
        rw [List.map_append]; exact hown'
      have R2 : Hid (Below w.heap.size w w2) := (HB.out.alloc hsz _).grown hgrow (by simp; omega) (own_ge hown)
      clear hown' hgrow hown
      go_wp2
      go_ret
      exact ⟨_, rfl, R1.out, R2.out⟩

theorem all_both (l : List UInt8) (p q : UInt8 → Bool) : (l.all p && l.all q) = l.all fun b => p b && q b := by
  induction l with
  | nil => rfl
  | cons x r ih => simp only [List.all_cons, ← ih]; cases p x <;> cases q x <;> cases r.all p <;> cases r.all q <;> rfl
def noQ (b : UInt8) : Bool := decide (b.toNat ≠ 34) && decide (b.toNat ≠ 92)
theorem isSc_eq (s : ByteArray) : isSc s = (s.data.toList.all noQ && Tm.word 32 (Tm.btw 33 126) s.data.toList) := by
  unfold isSc Tm.word
  have e : s.data.toList.all scB = (s.data.toList.all (Tm.btw 33 126) && s.data.toList.all noQ) := by
    rw [all_both]
    congr 1
    funext b
    unfold scB noQ
    rw [Bool.and_assoc]
  rw [e]
  cases s.data.toList.all noQ <;> cases s.data.toList.all (Tm.btw 33 126) <;> simp

set_option maxRecDepth 100000 in
set_option maxHeartbeats 1600000 in
theorem refScope_any (s : ByteArray) (w : World) (hs : s.size ≤ 4611686018427387904) :
    Calls Tryz.prog 102 #[.string s] w fun e w' => e = .returned (.bool (isSc s)) ∧ w' = w := by
  have HT : Hid (∀ k (_ : k < s.size), (s.data.toList.take (k + 1)).all noQ = ((s.data.toList.take k).all noQ && noQ s[k])) := fun k h => Tm.all_take _ _ k (by simpa using h)
  have HE : Hid (s.data.toList.take s.size = s.data.toList) := take_all s
  have HA : Hid (∀ k, (s.data.toList.take k).all noQ = false → s.data.toList.all noQ = false) := fun k h => Tm.all_short _ _ k h
  have HQ := hide (isSc_eq s)
  have HW := hide (fun W => refWithin_any s 32 33 126 W hs)
  generalize Tm.word 32 (Tm.btw 33 126) s.data.toList = t at *
  go_enter Tryz.func102, Tryz.ntmps102
  go_wp2_with fail
  go_loopw [3] (fun i wr => ∃ k : Nat, k ≤ s.size ∧ i = .int .i64 k ∧ Hid ((s.data.toList.take k).all noQ = true) ∧ wr = w) (fun i _ => s.size - (intOf i).toNat)
  case atStart => exact ⟨0, Nat.zero_le _, rfl, by show _ = _; simp, rfl⟩
  case round =>
    obtain ⟨k, hk, rfl, HAK, rfl⟩ := hrel
    by_cases hlt : k < s.size
    · have hki : (k : Int) < (s.size : Int) := by omega
      have HTK := hide (HT.out k hlt)
      have eb : ∀ c : UInt8, noQ c = (decide (c.toNat ≠ 34) && decide (c.toNat ≠ 92)) := fun _ => rfl
      have HB := hide (eb s[k])
      clear eb
      by_cases h1 : s[k].toNat = 34
      · have h1i : (s[k].toNat : Int) = 34 := by omega
        have HR : Hid (s.data.toList.all noQ = false) := HA.out (k + 1) (by rw [HTK.out, HB.out, h1]; simp)
        go_wp2_with fail
        go_ret
        exact ⟨by rw [HQ.out, HR.out]; rfl, rfl⟩
      · have h1i : ¬ (s[k].toNat : Int) = 34 := by omega
        have h1b : ((s[k].toNat : Int) == 34) = false := beq_false_of_ne h1i
        by_cases h2 : s[k].toNat = 92
        · have h2i : (s[k].toNat : Int) = 92 := by omega
          have HR : Hid (s.data.toList.all noQ = false) := HA.out (k + 1) (by rw [HTK.out, HB.out, h2]; simp)
          go_wp2_with fail
          go_ret
          exact ⟨by rw [HQ.out, HR.out]; rfl, rfl⟩
        · have h2i : ¬ (s[k].toNat : Int) = 92 := by omega
          have h2b : ((s[k].toNat : Int) == 92) = false := beq_false_of_ne h2i
          have HR : Hid ((s.data.toList.take (k + 1)).all noQ = true) := by
            show _ = _
            rw [HTK.out, HB.out, HAK.out, decide_eq_true h1, decide_eq_true h2]; rfl
          go_wp2_with fail
          go_roundw
          case rel => exact ⟨k + 1, by omega, by go_num, HR, by trivial⟩
          case measure => simp [intOf]; omega
    · obtain rfl : k = s.size := by omega
      rw [HE.out] at HAK
      go_wp2_with (go_at_call 72; refine (HW.out _).mono ?_; rintro x w2 ⟨rfl, rfl⟩)
      go_ret
      exact ⟨by rw [HQ.out, HAK.out]; rfl, rfl⟩

end Go.Proofs.YtiplhmamcghehaaGreatDoor.tm
