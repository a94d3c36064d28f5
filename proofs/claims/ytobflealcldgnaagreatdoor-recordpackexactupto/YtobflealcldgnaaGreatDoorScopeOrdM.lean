import Derived.Test.YtobflealcldgnaaGreatDoorTmSeq
import Derived.Lib.SlicesCompact
import Derived.Test.YtobflealcldgnaaGreatDoorStrBase
import Derived.OpenShut
import Derived.Deep.DeepHandedRow
import Derived.Test.YtobflealcldgnaaGreatDoorTermLays
import Derived.Shelf.Strings.OnBuilder
import Derived.Test.YtobflealcldgnaaGreatDoorTmScopes
namespace Go.Proofs.YtobflealcldgnaaGreatDoor.Tm

abbrev By := List UInt8

theorem lt_irr (x : By) : ¬ x < x := List.lt_irrefl x
theorem lt_tr {x y z : By} (h : x < y) (k : y < z) : x < z := List.lt_trans h k
theorem lt_of {x y : By} (h : x ≤ y) (k : x ≠ y) : x < y := by
  rcases Decidable.em (x < y) with h1 | h1
  · exact h1
  · exact absurd (List.le_antisymm h (List.not_lt.1 h1)) k
theorem le_lt {x y z : By} (h : x ≤ y) (k : y < z) : x < z := by
  rcases Decidable.em (x = y) with e | e
  · exact e ▸ k
  · exact lt_tr (lt_of h e) k

/-- a rising list is told by what stands in it -/
theorem rising_one : ∀ xs ys : List By, xs.Pairwise (· < ·) → ys.Pairwise (· < ·) → (∀ x, x ∈ xs ↔ x ∈ ys) → xs = ys
  | [], [], _, _, _ => rfl
  | [], y :: ys, _, _, h => absurd ((h y).2 (List.mem_cons_self ..)) (by simp)
  | x :: xs, [], _, _, h => absurd ((h x).1 (List.mem_cons_self ..)) (by simp)
  | x :: xs, y :: ys, hx, hy, h => by
    rw [List.pairwise_cons] at hx hy
    have e : x = y := by
      rcases List.mem_cons.1 ((h x).1 (List.mem_cons_self ..)) with e | m
      · exact e
      · rcases List.mem_cons.1 ((h y).2 (List.mem_cons_self ..)) with e | m'
        · exact e.symm
        · exact absurd (lt_tr (hx.1 y m') (hy.1 x m)) (lt_irr x)
    subst e
    rw [rising_one xs ys hx.2 hy.2 fun z => ?_]
    constructor
    · intro hz
      rcases List.mem_cons.1 ((h z).1 (List.mem_cons_of_mem _ hz)) with e | m
      · exact absurd (e ▸ hx.1 z hz) (lt_irr _)
      · exact m
    · intro hz
      rcases List.mem_cons.1 ((h z).2 (List.mem_cons_of_mem _ hz)) with e | m
      · exact absurd (e ▸ hy.1 z hz) (lt_irr _)
      · exact m

theorem upTo_inv (zs : List By) (hs : zs.Pairwise (· ≤ ·)) : ∀ m, m ≤ zs.length →
    (Lib.compactUpTo zs.toArray m).Pairwise (· < ·) ∧ (∀ x, x ∈ Lib.compactUpTo zs.toArray m ↔ x ∈ zs.take m) := by
  intro m
  induction m with
  | zero => intro _; exact ⟨by simp [Lib.compactUpTo], fun x => by simp [Lib.compactUpTo]⟩
  | succ m ih =>
    intro hm
    obtain ⟨h1, h2⟩ := ih (by omega)
    have hml : m < zs.length := by omega
    have hd : zs.toArray[m]! = zs[m] := by simp [hml]
    have ht : zs.take (m + 1) = zs.take m ++ [zs[m]] := List.take_succ_eq_append_getElem hml
    rw [Lib.compactUpTo_succ, hd, ht]
    have hle : ∀ x ∈ zs.take m, x ≤ zs[m] := by
      intro x hx
      obtain ⟨i, hi, rfl⟩ := List.mem_iff_getElem.1 hx
      rw [List.length_take] at hi
      rw [List.getElem_take]
      exact List.pairwise_iff_getElem.1 hs i m (by omega) hml (by omega)
    cases hk : Lib.keeps zs.toArray m with
    | true =>
      refine ⟨?_, fun x => ?_⟩
      · simp only [if_true]
        rw [List.pairwise_append]
        refine ⟨h1, List.pairwise_singleton _ _, fun x hx y hy => ?_⟩
        obtain rfl : y = zs[m] := by simpa using hy
        have hx' := (h2 x).1 hx
        by_cases h0 : m = 0
        · subst h0; simp at hx'
        · have hm1 : m - 1 < zs.length := by omega
          have hne : zs[m - 1] ≠ zs[m] := by
            unfold Lib.keeps at hk
            simp [h0] at hk
            have e1 : zs.toArray[m - 1]! = zs[m - 1] := by simp [hm1]
            have e2 : zs.toArray[m]! = zs[m] := hd
            intro e
            first
              | exact hk (by rw [e])
              | exact hk (by simp [hm1, hml, e])
              | (rw [e2, e1] at hk; exact hk e.symm)
              | (rw [e1, e2] at hk; exact hk e)
              | exact hk e.symm
              | exact hk e
          have h3 : x ≤ zs[m - 1] := by
            obtain ⟨i, hi, rfl⟩ := List.mem_iff_getElem.1 hx'
            rw [List.length_take] at hi
            rw [List.getElem_take]
            by_cases e : i = m - 1
            · subst e; exact List.le_refl _
            · exact List.pairwise_iff_getElem.1 hs i (m - 1) (by omega) hm1 (by omega)
          exact le_lt h3 (lt_of (List.pairwise_iff_getElem.1 hs (m - 1) m hm1 hml (by omega)) hne)
      · simp only [if_true, List.mem_append, h2]
    | false =>
      have h0 : m ≠ 0 := by
        intro e; subst e
        rw [Lib.keeps_lt_one _ 0 (by decide)] at hk; cases hk
      have hm1 : m - 1 < zs.length := by omega
      have he : zs[m - 1] = zs[m] := by
        unfold Lib.keeps at hk
        simp [h0] at hk
        have e1 : zs.toArray[m - 1]! = zs[m - 1] := by simp [hm1]
        have e2 : zs.toArray[m]! = zs[m] := hd
        first
          | exact hk
          | exact hk.symm
          | (simp [hm1, hml] at hk; exact hk)
          | (simp [hm1, hml] at hk; exact hk.symm)
      refine ⟨by simpa using h1, fun x => ?_⟩
      simp only [Bool.false_eq_true, if_false, List.append_nil, h2, List.mem_append, List.mem_singleton]
      constructor
      · exact Or.inl
      · rintro (h | rfl)
        · exact h
        · rw [← he]
          exact List.mem_iff_getElem.2 ⟨m - 1, by rw [List.length_take]; omega, by rw [List.getElem_take]⟩

def sorted (ss : List By) : List By := ss.mergeSort fun x y => decide (x ≤ y)
theorem sorted_pw (ss : List By) : (sorted ss).Pairwise (· ≤ ·) := by
  have h := List.pairwise_mergeSort (le := fun x y : By => decide (x ≤ y)) (fun a b c h1 h2 => by
    simp only [decide_eq_true_eq] at *
    exact List.le_trans h1 h2) (fun a b => by
    simp only [Bool.or_eq_true, decide_eq_true_eq]
    exact List.le_total a b) ss
  exact h.imp fun hh => by simpa using hh
theorem rise_spec (ss : List By) : (Lib.compact (ss.mergeSort fun x y => decide (x ≤ y))).Pairwise (· < ·) ∧ ∀ x, x ∈ Lib.compact (ss.mergeSort fun x y => decide (x ≤ y)) ↔ x ∈ ss := by
  have h := upTo_inv (sorted ss) (sorted_pw ss) (sorted ss).length (Nat.le_refl _)
  refine ⟨h.1, fun x => (h.2 x).trans ?_⟩
  rw [List.take_length]
  exact List.mem_mergeSort
/-- the order and how often says nothing -/
theorem rise_eq {ss ts : List By} (h : ∀ x, x ∈ ss ↔ x ∈ ts) : Lib.compact (ss.mergeSort fun x y => decide (x ≤ y)) = Lib.compact (ts.mergeSort fun x y => decide (x ≤ y)) :=
  rising_one _ _ (rise_spec ss).1 (rise_spec ts).1 fun x => ((rise_spec ss).2 x).trans ((h x).trans ((rise_spec ts).2 x).symm)

theorem split_cons (c x : UInt8) (r : By) : split c (x :: r) = if x = c then [] :: split c r else match split c r with
    | h :: t => (x :: h) :: t
    | [] => [[x]] := rfl
theorem split_app (c : UInt8) : ∀ a b : By, split c (a ++ c :: b) = split c a ++ split c b
  | [], b => by rw [List.nil_append, split_cons, if_pos rfl]; rfl
  | x :: a, b => by
    have ih := split_app c a b
    rw [List.cons_append, split_cons, split_cons c x a]
    by_cases h : x = c
    · rw [if_pos h, if_pos h, ih]; rfl
    · rw [if_neg h, if_neg h, ih]
      cases hs : split c a with
      | nil => exact absurd hs (split_ne c a)
      | cons u t => rfl
end Go.Proofs.YtobflealcldgnaaGreatDoor.Tm

namespace Go.Proofs.YtobflealcldgnaaGreatDoor.ss
open Go.ChangeShapes Go.WideShapes Go.ChangeAt Go.RowKit Go.Joins Go.Proofs.YtobflealcldgnaaGreatDoor.common Go.Proofs.YtobflealcldgnaaGreatDoor.bk
open Go.WideMaps Go.WideElems

/-- all the bytes of texts, and one for each -/
def tot (l : List ByteArray) : Nat := (l.map fun x => x.size + 1).sum

theorem weightsAll_mem {H : Type} {P : Program} {e : TypeId} {p : Nat → Bool} : ∀ (l : List (DataW H)), (DataW.weightsAll P e l).all p = true → ∀ d ∈ l, (d.weights P e).all p = true
  | [], _, d, hd => by cases hd
  | x :: r, h, d, hd => by
    rw [DataW.weightsAll, List.all_append, Bool.and_eq_true] at h
    rcases List.mem_cons.1 hd with rfl | hd
    · exact h.1
    · exact weightsAll_mem r h.2 d hd
theorem bytesStr : Tryz.prog.bytesOf 9 = 16 := by kernel_rfl
theorem cellsStr1 : Tryz.prog.cellsOf 9 = 1 := by kernel_rfl
theorem sum_bulkS {H : Type} (f : Nat → ByteArray) (D : Nat → DataW H) : ∀ (ns : List Nat), (∀ i ∈ ns, (f i).size + 1 ≤ Rows.uptoBulk (D i)) → tot (ns.map f) ≤ Rows.uptoBulkAll (ns.map D)
  | [], _ => Nat.zero_le _
  | n :: r, h => by
    have h1 := h n (List.mem_cons_self ..)
    have h2 := sum_bulkS f D r fun i hi => h i (List.mem_cons_of_mem _ hi)
    unfold tot at h2 ⊢
    simp only [List.map_cons, List.sum_cons, Rows.uptoBulkAll]
    omega
theorem len_tot (l : List ByteArray) : l.length ≤ tot l := by
  unfold tot
  induction l with
  | nil => exact Nat.zero_le _
  | cons x r ih => simp only [List.map_cons, List.sum_cons, List.length_cons]; omega

set_option maxRecDepth 100000 in
/-- a list of texts as an argument -/
theorem strs_of {H : Type} {enc : TypeId × Value → H} {W : World} {fuel : Nat} {v : Value} {d : DataW H} {pl : List MemPlace}
    (h : DataW.trod enc Tryz.prog W 0 (fun _ => true) true fuel 24 [v] = some (d, pl)) (hw : (d.weights Tryz.prog 24).all (· ≤ reachBytes) = true) :
    ∃ l, Lies W v l ∧ l.length * 16 ≤ reachBytes ∧ (∀ x ∈ l, x.size ≤ reachBytes) ∧ tot l ≤ Rows.uptoBulk d := by
  rcases Deep.open_slice Tryz.underlying24 h with ⟨hcs, hx⟩ | ⟨a, len, cap, m, n, D, Pl, hcs, hb, hl, hm, hmm, hx, hall⟩
  · obtain rfl : v = .slice none 0 0 := by simpa using hcs
    exact ⟨[], lies_nil W, Nat.zero_le _, fun x hx => (by cases hx), Nat.zero_le _⟩
  · obtain rfl : v = .slice (some a) len cap := by simpa using hcs
    have hd : d = .slice ((List.range len).map D) ((List.range (m - len)).map fun j => D (len + j)) := (Prod.mk.inj hx).1
    subst hd
    simp only [DataW.weights, Tryz.underlying24, List.all_cons, List.all_append, Bool.and_eq_true] at hw
    have each : ∀ i, ∃ p : ByteArray, i < len → D i = .lit (.string p.data.toList) ∧ p.size + 1 ≤ Rows.uptoBulk (D i) ∧ ∃ b o, a = ⟨b, o, none⟩ ∧ b < W.heap.size ∧ W.cell? ⟨b, o + i, none⟩ = some (.string p) := by
      intro i
      by_cases hi : i < len
      · obtain ⟨cs', h1, h2⟩ := hall i (by rw [hmm]; simp; omega)
        rw [cellsStr1] at h1
        obtain ⟨_, hlen, hcell⟩ := World.cells?_some h1
        match cs', hlen with
        | [v0], _ =>
          obtain ⟨s, es, hz, _⟩ := DataW.trod_string Tryz.underlying9 h2
          simp at es
          subst es
          have hDi : D i = .lit (.string s.data.toList) := (Prod.mk.inj hz).1
          have hw : s.size + 1 ≤ Rows.uptoBulk (D i) := by
            rw [hDi]
            simp only [Rows.uptoBulk, len_list]
            omega
          have c0 := hcell 0 (by decide)
          have hsp : a.spot = none := by
            have q0 := hall 0 (by rw [hmm]; simp; omega)
            obtain ⟨cs0, g1, _⟩ := q0
            rw [cellsStr1] at g1
            obtain ⟨_, hlen0, hcell0⟩ := World.cells?_some g1
            have g2 := hcell0 0 (by decide)
            rw [List.getElem?_eq_getElem (by omega)] at g2
            have := World.cell?_spot g2
            simpa [Addr.add] using this
          obtain ⟨b, o, sp⟩ := a
          simp at hsp
          subst hsp
          rw [Addr.add_mid, Addr.add_mid] at c0
          have c0' : W.cell? ⟨b, o + i, none⟩ = some (.string s) := by simpa using c0
          exact ⟨s, fun _ => ⟨hDi, hw, b, o, rfl, World.block_lt_of_cell? W _ c0', c0'⟩⟩
      · exact ⟨ByteArray.empty, fun h => absurd h hi⟩
    obtain ⟨f, hf⟩ := Classical.axiomOfChoice each
    have hlen : ((List.range len).map f).length = len := by simp
    have hsum := sum_bulkS f D (List.range len) (fun i hi => (hf i (List.mem_range.1 hi)).2.1)
    have hB : Rows.uptoBulkAll ((List.range len).map D) ≤ Rows.uptoBulk (.slice ((List.range len).map D) ((List.range (m - len)).map fun j => D (len + j))) := by
      simp only [Rows.uptoBulk]
      omega
    have hww : len * 16 ≤ reachBytes ∧ ∀ i, i < len → (f i).size ≤ reachBytes := by
      refine ⟨?_, fun i hi => ?_⟩
      · have h1 := hw.1
        rw [bytesStr] at h1
        simp at h1
        omega
      · have hwi := weightsAll_mem _ hw.2.1 (D i) (List.mem_map.2 ⟨i, List.mem_range.2 hi, rfl⟩)
        rw [(hf i hi).1] at hwi
        simp [DataW.weights] at hwi
        simpa using hwi
    refine ⟨(List.range len).map f, ⟨some a, cap, by rw [hlen], fun i hi => ?_⟩, by rw [hlen]; exact hww.1, ?_, Nat.le_trans hsum hB⟩
    · rw [hlen] at hi
      obtain ⟨_, _, b, o, rfl, hb, c0⟩ := hf i hi
      exact ⟨b, o, rfl, hb, by simpa using c0⟩
    · intro x hx
      obtain ⟨i, hi, rfl⟩ := List.mem_map.1 hx
      exact hww.2 i (List.mem_range.1 hi)

end Go.Proofs.YtobflealcldgnaaGreatDoor.ss

namespace Go.Proofs.YtobflealcldgnaaGreatDoor.ss
open Go.ChangeShapes Go.WideShapes Go.ChangeAt Go.RowKit Go.Proofs.YtobflealcldgnaaGreatDoor.common Go.Proofs.YtobflealcldgnaaGreatDoor.bk
attribute [local go_sem ↓] Go.wp_at_zero Go.wp_at_succ

/-- texts with a blank between each two -/
def joinS (l : List ByteArray) : List UInt8 := Lib.join (l.map (·.data.toList)) [32]
theorem join_snoc (x : List UInt8) (r : List (List UInt8)) (y : List UInt8) : Lib.join ((x :: r) ++ [y]) [32] = Lib.join (x :: r) [32] ++ [32] ++ y := by
  rw [List.cons_append, Lib.join_cons, Lib.join_cons]
  unfold Lib.joinTail
  simp [List.append_assoc]
theorem joinS_snoc (l : List ByteArray) (k : Nat) (h : k < l.length) (h0 : 0 < k) : joinS (l.take (k + 1)) = joinS (l.take k) ++ [32] ++ l[k].data.toList := by
  rw [takeS l k h]
  unfold joinS
  rw [List.map_append]
  cases e : l.take k with
  | nil => have := congrArg List.length e; rw [List.length_take, Nat.min_eq_left (by omega), List.length_nil] at this; omega
  | cons x r => rw [List.map_cons]; exact join_snoc _ _ _
theorem joinS_first (l : List ByteArray) (h : 0 < l.length) : joinS (l.take 1) = l[0].data.toList := by
  rw [show 1 = 0 + 1 from rfl, takeS l 0 h]
  unfold joinS
  simp [Lib.join_one]
theorem tot_app (l m : List ByteArray) : tot (l ++ m) = tot l + tot m := by simp [tot]
theorem joinS_len (l : List ByteArray) : (joinS l).length ≤ tot l := by
  unfold joinS
  cases l with
  | nil => simp [Lib.join_nil]
  | cons x r =>
    rw [List.map_cons, Lib.join_cons]
    unfold Lib.joinTail tot
    rw [List.length_append, len_list, List.map_cons, List.sum_cons]
    have : ∀ m : List ByteArray, (((m.map (·.data.toList)).map ([32] ++ ·)).flatten).length ≤ (m.map fun x => x.size + 1).sum := by
      intro m
      induction m with
      | nil => simp
      | cons y s ih =>
        simp only [List.map_cons, List.flatten_cons, List.length_append, List.sum_cons, List.length_cons, List.length_nil, len_list]
        omega
    have := this r
    omega
theorem tot_take (l : List ByteArray) (k : Nat) (h : k < l.length) : tot (l.take k) + l[k].size + 1 ≤ tot l := by
  have e : tot l = tot (l.take (k + 1)) + tot (l.drop (k + 1)) := by rw [← tot_app, List.take_append_drop]
  rw [e, takeS l k h, tot_app]
  simp [tot]; omega
theorem tot_mem {l : List ByteArray} {x : ByteArray} (h : x ∈ l) : x.size + 1 ≤ tot l := by
  induction l with
  | nil => cases h
  | cons y r ih =>
    have e : tot (y :: r) = y.size + 1 + tot r := by simp [tot]
    rw [e]
    rcases List.mem_cons.1 h with rfl | h
    · omega
    · have := ih h; omega

end Go.Proofs.YtobflealcldgnaaGreatDoor.ss

namespace Go.Proofs.YtobflealcldgnaaGreatDoor.ss
open Go.ChangeShapes Go.WideShapes Go.ChangeAt Go.RowKit Go.Joins Go.Proofs.YtobflealcldgnaaGreatDoor.common Go.Proofs.YtobflealcldgnaaGreatDoor.bk
attribute [local go_sem ↓] Go.wp_at_zero Go.wp_at_succ

/-- a slice is no longer than its room -/
def Room (v : Value) : Prop := ∀ oa n c, v = .slice oa n c → n ≤ c
theorem room_of {H : Type} {enc : TypeId × Value → H} {W : World} {fuel : Nat} {v : Value} {x : DataW H × List MemPlace} (h : DataW.trod enc Tryz.prog W 0 (fun _ => true) true fuel 24 [v] = some x) : Room v := by
  rcases Deep.open_slice Tryz.underlying24 h with ⟨hcs, _⟩ | ⟨a, len, cap, m, n, D, Pl, hcs, _, hl, _⟩
  · obtain rfl : v = .slice none 0 0 := by simpa using hcs
    intro oa n c e; cases e; exact Nat.le_refl _
  · obtain rfl : v = .slice (some a) len cap := by simpa using hcs
    intro oa n c e; cases e; exact hl
theorem room_own {w : World} {base : Nat} {e : TypeId} {v : Value} {n : Nat} {xs : List Value} (h : w.ownsRow base e 1 v n xs) : Room v := by
  rcases h.2 with ⟨rfl, _⟩ | ⟨g, cap, cur, rfl, _, _, hn, _⟩
  · intro oa n c e; cases e; exact Nat.le_refl _
  · intro oa n c e; cases e; exact hn

end Go.Proofs.YtobflealcldgnaaGreatDoor.ss

namespace Go.Proofs.YtobflealcldgnaaGreatDoor.tm
open Go.RowKit Go.Proofs.YtobflealcldgnaaGreatDoor.common Go.Proofs.YtobflealcldgnaaGreatDoor.bk
open Go.Proofs.YtobflealcldgnaaGreatDoor.ss (joinS tot)

/-- the words of all of them -/
def wordsOf (l : List ByteArray) : List (List UInt8) := l.flatMap fun x => Tm.split 32 x.data.toList
theorem split_tail (r : List (List UInt8)) : ∀ x : List UInt8, Tm.split 32 (x ++ Lib.joinTail [32] r) = Tm.split 32 x ++ r.flatMap (Tm.split 32) := by
  induction r with
  | nil => intro x; simp [Lib.joinTail]
  | cons y s ih =>
    intro x
    have e : x ++ Lib.joinTail [32] (y :: s) = x ++ 32 :: (y ++ Lib.joinTail [32] s) := by simp [Lib.joinTail]
    rw [e, Tm.split_app, ih y, List.flatMap_cons]
theorem parts_join (l : List ByteArray) (h : l ≠ []) : tsq.parts 32 (⟨(joinS l).toArray⟩ : ByteArray) = (wordsOf l).map fun w => ⟨w.toArray⟩ := by
  unfold tsq.parts wordsOf joinS
  cases l with
  | nil => exact absurd rfl h
  | cons x r =>
    rw [str_list, List.map_cons, Lib.join_cons, split_tail, List.flatMap_cons, List.flatMap_map]
theorem raw_map (ws : List (List UInt8)) : raw (ws.map fun w => (⟨w.toArray⟩ : ByteArray)) = ws := by
  unfold raw
  rw [List.map_map]
  exact (List.map_congr_left (fun _ _ => rfl)).trans (List.map_id ws)
theorem mem_words (l : List ByteArray) (x : List UInt8) : x ∈ wordsOf (l.reverse ++ l) ↔ x ∈ wordsOf l := by
  unfold wordsOf
  simp only [List.mem_flatMap, List.mem_append, List.mem_reverse, or_self]

theorem scope_order (l : List ByteArray) (eT eM : Value) : scE eT eM (⟨(joinS (l.reverse ++ l)).toArray⟩ : ByteArray) = scE eT eM (⟨(joinS l).toArray⟩ : ByteArray) ∧ scL (⟨(joinS (l.reverse ++ l)).toArray⟩ : ByteArray) = scL (⟨(joinS l).toArray⟩ : ByteArray) := by
  by_cases h : l = []
  · subst h; exact ⟨rfl, rfl⟩
  · have h2 : l.reverse ++ l ≠ [] := by simp [h]
    have e1 := parts_join l h
    have e2 := parts_join _ h2
    have er : riseB (tsq.parts 32 (⟨(joinS (l.reverse ++ l)).toArray⟩ : ByteArray)) = riseB (tsq.parts 32 (⟨(joinS l).toArray⟩ : ByteArray)) := by
      rw [e1, e2]
      unfold riseB rise
      rw [raw_map, raw_map, Tm.rise_eq (mem_words l)]
    have ea : areSc (⟨(joinS (l.reverse ++ l)).toArray⟩ : ByteArray) = areSc (⟨(joinS l).toArray⟩ : ByteArray) := by
      unfold areSc
      rw [e1, e2, List.all_map, List.all_map, Bool.eq_iff_iff, List.all_eq_true, List.all_eq_true]
      exact ⟨fun hh x hx => hh x ((mem_words l x).2 hx), fun hh x hx => hh x ((mem_words l x).1 hx)⟩
    constructor
    · unfold scE many; rw [ea, er]
    · unfold scL many; rw [ea, er]

theorem rise_one (x : List UInt8) : rise [x] = [x] := by
  apply Tm.rising_one _ _ (Tm.rise_spec [x]).1 (List.pairwise_singleton _ _)
  exact (Tm.rise_spec [x]).2
theorem one_x (eT eM : Value) : scE eT eM ⟨#[120]⟩ = .nilIface ∧ scL ⟨#[120]⟩ = [⟨#[120]⟩] := by
  have ep : tsq.parts 32 ⟨#[120]⟩ = [⟨#[120]⟩] := rfl
  have ea : areSc ⟨#[120]⟩ = true := rfl
  have er : riseB (tsq.parts 32 ⟨#[120]⟩) = [⟨#[120]⟩] := by
    rw [ep]
    unfold riseB
    rw [show raw [(⟨#[120]⟩ : ByteArray)] = [[120]] from rfl, rise_one]; rfl
  constructor
  · unfold scE many; rw [ea, er]; rfl
  · unfold scL many; rw [ea, er]; rfl

end Go.Proofs.YtobflealcldgnaaGreatDoor.tm
