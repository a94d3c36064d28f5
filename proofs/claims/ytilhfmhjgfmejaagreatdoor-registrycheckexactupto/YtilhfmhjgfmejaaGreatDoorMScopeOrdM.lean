import Derived.Test.YtilhfmhjgfmejaaGreatDoorMTmWords
import Derived.Lib.SlicesCompact
import Derived.Test.YtilhfmhjgfmejaaGreatDoorMRgBase
import Derived.OpenShut
import Derived.Deep.DeepHandedRow
import Derived.Test.YtilhfmhjgfmejaaGreatDoorMTermLays
import Derived.Shelf.Strings.OnBuilder
import Derived.Test.YtilhfmhjgfmejaaGreatDoorMTmScopes
namespace Go.Proofs.YtilhfmhjgfmejaaGreatDoor.Tm

abbrev By := List UInt8

theorem lt_irr (x : By) : ¬ x < x := List.lt_irrefl x
theorem lt_tr {x y z : By} (h : x < y) (k : y < z) : x < z := List.lt_trans h k
theorem lt_of {x y : By} (h : x ≤ y) (k : x ≠ y) : x < y := by
  rcases Decidable.em (x < y) with h1 | h1
  · exact h1
  · exact absurd (List.le_antisymm h (List.not_lt.1 h1)) k
theorem le_lt {x y z : By} (h : x ≤ y) (k : y < z) : x < z := by
  rcases Decidable.em (x = y) with e | e
  · exact e ▸ k
  · exact lt_tr (lt_of h e) k

theorem upTo_inv (zs : List By) (hs : zs.Pairwise (· ≤ ·)) : ∀ m, m ≤ zs.length →
    (Lib.compactUpTo zs.toArray m).Pairwise (· < ·) ∧ (∀ x, x ∈ Lib.compactUpTo zs.toArray m ↔ x ∈ zs.take m) := by
  intro m
  induction m with
  | zero => intro _; exact ⟨by simp [Lib.compactUpTo], fun x => by simp [Lib.compactUpTo]⟩
  | succ m ih =>
    intro hm
    obtain ⟨h1, h2⟩ := ih (by omega)
    have hml : m < zs.length := by omega
    have hd : zs.toArray[m]! = zs[m] := by simp [hml]
    have ht : zs.take (m + 1) = zs.take m ++ [zs[m]] := List.take_succ_eq_append_getElem hml
    rw [Lib.compactUpTo_succ, hd, ht]
    have hle : ∀ x ∈ zs.take m, x ≤ zs[m] := by
      intro x hx
      obtain ⟨i, hi, rfl⟩ := List.mem_iff_getElem.1 hx
      rw [List.length_take] at hi
      rw [List.getElem_take]
      exact List.pairwise_iff_getElem.1 hs i m (by omega) hml (by omega)
    cases hk : Lib.keeps zs.toArray m with
    | true =>
      refine ⟨?_, fun x => ?_⟩
      · simp only [if_true]
        rw [List.pairwise_append]
        refine ⟨h1, List.pairwise_singleton _ _, fun x hx y hy => ?_⟩
        obtain rfl : y = zs[m] := by simpa using hy
        have hx' := (h2 x).1 hx
        by_cases h0 : m = 0
        · subst h0; simp at hx'
        · have hm1 : m - 1 < zs.length := by omega
          have hne : zs[m - 1] ≠ zs[m] := by
            unfold Lib.keeps at hk
            simp [h0] at hk
            have e1 : zs.toArray[m - 1]! = zs[m - 1] := by simp [hm1]
            have e2 : zs.toArray[m]! = zs[m] := hd
            intro e
            first
              | exact hk (by rw [e])
              | exact hk (by simp [hm1, hml, e])
              | (rw [e2, e1] at hk; exact hk e.symm)
              | (rw [e1, e2] at hk; exact hk e)
              | exact hk e.symm
              | exact hk e
          have h3 : x ≤ zs[m - 1] := by
            obtain ⟨i, hi, rfl⟩ := List.mem_iff_getElem.1 hx'
            rw [List.length_take] at hi
            rw [List.getElem_take]
            by_cases e : i = m - 1
            · subst e; exact List.le_refl _
            · exact List.pairwise_iff_getElem.1 hs i (m - 1) (by omega) hm1 (by omega)
          exact le_lt h3 (lt_of (List.pairwise_iff_getElem.1 hs (m - 1) m hm1 hml (by omega)) hne)
      · simp only [if_true, List.mem_append, h2]
    | false =>
      have h0 : m ≠ 0 := by
        intro e; subst e
        rw [Lib.keeps_lt_one _ 0 (by decide)] at hk; cases hk
      have hm1 : m - 1 < zs.length := by omega
      have he : zs[m - 1] = zs[m] := by
        unfold Lib.keeps at hk
        simp [h0] at hk
        have e1 : zs.toArray[m - 1]! = zs[m - 1] := by simp [hm1]
        have e2 : zs.toArray[m]! = zs[m] := hd
        first
          | exact hk
          | exact hk.symm
          | (simp [hm1, hml] at hk; exact hk)
          | (simp [hm1, hml] at hk; exact hk.symm)
      refine ⟨by simpa using h1, fun x => ?_⟩
      simp only [Bool.false_eq_true, if_false, List.append_nil, h2, List.mem_append, List.mem_singleton]
      constructor
      · exact Or.inl
      · rintro (h | rfl)
        · exact h
        · rw [← he]
          exact List.mem_iff_getElem.2 ⟨m - 1, by rw [List.length_take]; omega, by rw [List.getElem_take]⟩

def sorted (ss : List By) : List By := ss.mergeSort fun x y => decide (x ≤ y)
theorem sorted_pw (ss : List By) : (sorted ss).Pairwise (· ≤ ·) := by
  have h := List.pairwise_mergeSort (le := fun x y : By => decide (x ≤ y)) (fun a b c h1 h2 => by
    simp only [decide_eq_true_eq] at *
    exact List.le_trans h1 h2) (fun a b => by
    simp only [Bool.or_eq_true, decide_eq_true_eq]
    exact List.le_total a b) ss
  exact h.imp fun hh => by simpa using hh
theorem rise_spec (ss : List By) : (Lib.compact (ss.mergeSort fun x y => decide (x ≤ y))).Pairwise (· < ·) ∧ ∀ x, x ∈ Lib.compact (ss.mergeSort fun x y => decide (x ≤ y)) ↔ x ∈ ss := by
  have h := upTo_inv (sorted ss) (sorted_pw ss) (sorted ss).length (Nat.le_refl _)
  refine ⟨h.1, fun x => (h.2 x).trans ?_⟩
  rw [List.take_length]
  exact List.mem_mergeSort
theorem split_cons (c x : UInt8) (r : By) : split c (x :: r) = if x = c then [] :: split c r else match split c r with
    | h :: t => (x :: h) :: t
    | [] => [[x]] := rfl
end Go.Proofs.YtilhfmhjgfmejaaGreatDoor.Tm

namespace Go.Proofs.YtilhfmhjgfmejaaGreatDoor.ss
open Go.ChangeShapes Go.WideShapes Go.ChangeAt Go.RowKit Go.Joins Go.Proofs.YtilhfmhjgfmejaaGreatDoor.common Go.Proofs.YtilhfmhjgfmejaaGreatDoor.bk
open Go.WideMaps Go.WideElems

/-- all the bytes of texts, and one for each -/
def tot (l : List ByteArray) : Nat := (l.map fun x => x.size + 1).sum

theorem weightsAll_mem {H : Type} {P : Program} {e : TypeId} {p : Nat → Bool} : ∀ (l : List (DataW H)), (DataW.weightsAll P e l).all p = true → ∀ d ∈ l, (d.weights P e).all p = true
  | [], _, d, hd => by cases hd
  | x :: r, h, d, hd => by
    rw [DataW.weightsAll, List.all_append, Bool.and_eq_true] at h
    rcases List.mem_cons.1 hd with rfl | hd
    · exact h.1
    · exact weightsAll_mem r h.2 d hd
theorem bytesStr : Tryz.prog.bytesOf 9 = 16 := by kernel_rfl
theorem cellsStr1 : Tryz.prog.cellsOf 9 = 1 := by kernel_rfl
theorem sum_bulkS {H : Type} (f : Nat → ByteArray) (D : Nat → DataW H) : ∀ (ns : List Nat), (∀ i ∈ ns, (f i).size + 1 ≤ Rows.uptoBulk (D i)) → tot (ns.map f) ≤ Rows.uptoBulkAll (ns.map D)
  | [], _ => Nat.zero_le _
  | n :: r, h => by
    have h1 := h n (List.mem_cons_self ..)
    have h2 := sum_bulkS f D r fun i hi => h i (List.mem_cons_of_mem _ hi)
    unfold tot at h2 ⊢
    simp only [List.map_cons, List.sum_cons, Rows.uptoBulkAll]
    omega
set_option maxRecDepth 100000 in
/-- a list of texts as an argument -/
theorem strs_of {H : Type} {enc : TypeId × Value → H} {W : World} {fuel : Nat} {v : Value} {d : DataW H} {pl : List MemPlace}
    (h : DataW.trod enc Tryz.prog W 0 (fun _ => true) true fuel 43 [v] = some (d, pl)) (hw : (d.weights Tryz.prog 43).all (· ≤ reachBytes) = true) :
    ∃ l, Lies W v l ∧ l.length * 16 ≤ reachBytes ∧ (∀ x ∈ l, x.size ≤ reachBytes) ∧ tot l ≤ Rows.uptoBulk d := by
  rcases Deep.open_slice Tryz.underlying43 h with ⟨hcs, hx⟩ | ⟨a, len, cap, m, n, D, Pl, hcs, hb, hl, hm, hmm, hx, hall⟩
  · obtain rfl : v = .slice none 0 0 := by simpa using hcs
    exact ⟨[], lies_nil W, Nat.zero_le _, fun x hx => (by cases hx), Nat.zero_le _⟩
  · obtain rfl : v = .slice (some a) len cap := by simpa using hcs
    have hd : d = .slice ((List.range len).map D) ((List.range (m - len)).map fun j => D (len + j)) := (Prod.mk.inj hx).1
    subst hd
    simp only [DataW.weights, Tryz.underlying43, List.all_cons, List.all_append, Bool.and_eq_true] at hw
    have each : ∀ i, ∃ p : ByteArray, i < len → D i = .lit (.string p.data.toList) ∧ p.size + 1 ≤ Rows.uptoBulk (D i) ∧ ∃ b o, a = ⟨b, o, none⟩ ∧ b < W.heap.size ∧ W.cell? ⟨b, o + i, none⟩ = some (.string p) := by
      intro i
      by_cases hi : i < len
      · obtain ⟨cs', h1, h2⟩ := hall i (by rw [hmm]; simp; omega)
        rw [cellsStr1] at h1
        obtain ⟨_, hlen, hcell⟩ := World.cells?_some h1
        match cs', hlen with
        | [v0], _ =>
          obtain ⟨s, es, hz, _⟩ := DataW.trod_string Tryz.underlying9 h2
          simp at es
          subst es
          have hDi : D i = .lit (.string s.data.toList) := (Prod.mk.inj hz).1
          have hw : s.size + 1 ≤ Rows.uptoBulk (D i) := by
            rw [hDi]
            simp only [Rows.uptoBulk, len_list]
            omega
          have c0 := hcell 0 (by decide)
          have hsp : a.spot = none := by
            have q0 := hall 0 (by rw [hmm]; simp; omega)
            obtain ⟨cs0, g1, _⟩ := q0
            rw [cellsStr1] at g1
            obtain ⟨_, hlen0, hcell0⟩ := World.cells?_some g1
            have g2 := hcell0 0 (by decide)
            rw [List.getElem?_eq_getElem (by omega)] at g2
            have := World.cell?_spot g2
            simpa [Addr.add] using this
          obtain ⟨b, o, sp⟩ := a
          simp at hsp
          subst hsp
          rw [Addr.add_mid, Addr.add_mid] at c0
          have c0' : W.cell? ⟨b, o + i, none⟩ = some (.string s) := by simpa using c0
          exact ⟨s, fun _ => ⟨hDi, hw, b, o, rfl, World.block_lt_of_cell? W _ c0', c0'⟩⟩
      · exact ⟨ByteArray.empty, fun h => absurd h hi⟩
    obtain ⟨f, hf⟩ := Classical.axiomOfChoice each
    have hlen : ((List.range len).map f).length = len := by simp
    have hsum := sum_bulkS f D (List.range len) (fun i hi => (hf i (List.mem_range.1 hi)).2.1)
    have hB : Rows.uptoBulkAll ((List.range len).map D) ≤ Rows.uptoBulk (.slice ((List.range len).map D) ((List.range (m - len)).map fun j => D (len + j))) := by
      simp only [Rows.uptoBulk]
      omega
    have hww : len * 16 ≤ reachBytes ∧ ∀ i, i < len → (f i).size ≤ reachBytes := by
      refine ⟨?_, fun i hi => ?_⟩
      · have h1 := hw.1
        rw [bytesStr] at h1
        simp at h1
        omega
      · have hwi := weightsAll_mem _ hw.2.1 (D i) (List.mem_map.2 ⟨i, List.mem_range.2 hi, rfl⟩)
        rw [(hf i hi).1] at hwi
        simp [DataW.weights] at hwi
        simpa using hwi
    refine ⟨(List.range len).map f, ⟨some a, cap, by rw [hlen], fun i hi => ?_⟩, by rw [hlen]; exact hww.1, ?_, Nat.le_trans hsum hB⟩
    · rw [hlen] at hi
      obtain ⟨_, _, b, o, rfl, hb, c0⟩ := hf i hi
      exact ⟨b, o, rfl, hb, by simpa using c0⟩
    · intro x hx
      obtain ⟨i, hi, rfl⟩ := List.mem_map.1 hx
      exact hww.2 i (List.mem_range.1 hi)

end Go.Proofs.YtilhfmhjgfmejaaGreatDoor.ss

namespace Go.Proofs.YtilhfmhjgfmejaaGreatDoor.ss
open Go.ChangeShapes Go.WideShapes Go.ChangeAt Go.RowKit Go.Proofs.YtilhfmhjgfmejaaGreatDoor.common Go.Proofs.YtilhfmhjgfmejaaGreatDoor.bk
attribute [local go_sem ↓] Go.wp_at_zero Go.wp_at_succ

/-- texts with a blank between each two -/
def joinS (l : List ByteArray) : List UInt8 := Lib.join (l.map (·.data.toList)) [32]
theorem tot_mem {l : List ByteArray} {x : ByteArray} (h : x ∈ l) : x.size + 1 ≤ tot l := by
  induction l with
  | nil => cases h
  | cons y r ih =>
    have e : tot (y :: r) = y.size + 1 + tot r := by simp [tot]
    rw [e]
    rcases List.mem_cons.1 h with rfl | h
    · omega
    · have := ih h; omega

end Go.Proofs.YtilhfmhjgfmejaaGreatDoor.ss

namespace Go.Proofs.YtilhfmhjgfmejaaGreatDoor.ss
open Go.ChangeShapes Go.WideShapes Go.ChangeAt Go.RowKit Go.Joins Go.Proofs.YtilhfmhjgfmejaaGreatDoor.common Go.Proofs.YtilhfmhjgfmejaaGreatDoor.bk
attribute [local go_sem ↓] Go.wp_at_zero Go.wp_at_succ

end Go.Proofs.YtilhfmhjgfmejaaGreatDoor.ss

namespace Go.Proofs.YtilhfmhjgfmejaaGreatDoor.tm
open Go.RowKit Go.Proofs.YtilhfmhjgfmejaaGreatDoor.common Go.Proofs.YtilhfmhjgfmejaaGreatDoor.bk
open Go.Proofs.YtilhfmhjgfmejaaGreatDoor.ss (joinS tot)

end Go.Proofs.YtilhfmhjgfmejaaGreatDoor.tm
