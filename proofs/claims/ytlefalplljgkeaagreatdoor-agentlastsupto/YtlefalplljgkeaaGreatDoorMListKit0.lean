import Derived.Test.YtlefalplljgkeaaGreatDoorRows
import Derived.Test.YtlefalplljgkeaaGreatDoorMRanges
import Derived.Deep.MidRow
import Derived.WalkKit
import Derived.WalkSpells
import Derived.WalkLawsBesides
import Derived.Outline
import Derived.Laws.IdiomStrings
import Derived.Deep.OwnRows
import Derived.Maps.AppendAt
import Derived.Below
import Derived.Deep.RegionHeld3
import Derived.Deep.QuietTactic
import Derived.BigQuiet
import Derived.Deep.DrawnRows
namespace Go.Proofs.YtlefalplljgkeaaGreatDoor.lst
open Go.ChangeShapes Go.WideShapes Go.ChangeAt Go.RowKit Go.Proofs.YtlefalplljgkeaaGreatDoor.common
attribute [local go_sem ↓] Go.wp_at_zero Go.wp_at_succ

/-- a pair: its name and its value -/
abbrev PB := ByteArray × ByteArray

/-- the cells of pairs that lie one behind the other -/
def cl : List PB → List Value
  | [] => []
  | p :: r => .string p.1 :: .string p.2 :: cl r
theorem cl_len (l : List PB) : (cl l).length = l.length * 2 := by
  induction l with
  | nil => rfl
  | cons p r ih => show (cl r).length + 2 = _; rw [ih, List.length_cons]; omega
theorem cl_app (l m : List PB) : cl (l ++ m) = cl l ++ cl m := by
  induction l with
  | nil => rfl
  | cons p r ih => show _ :: _ :: cl (r ++ m) = _; rw [ih]; rfl
theorem cl_get0 (l : List PB) (i : Nat) (h : i < l.length) : (cl l)[i * 2]? = some (.string l[i].1) := by
  induction l generalizing i with
  | nil => simp at h
  | cons p r ih =>
    cases i with
    | zero => rfl
    | succ i =>
      rw [show (i + 1) * 2 = i * 2 + 1 + 1 by omega]
      show (cl r)[i * 2]? = _
      exact ih i (by simpa using h)
theorem cl_get1 (l : List PB) (i : Nat) (h : i < l.length) : (cl l)[i * 2 + 1]? = some (.string l[i].2) := by
  induction l generalizing i with
  | nil => simp at h
  | cons p r ih =>
    cases i with
    | zero => rfl
    | succ i =>
      rw [show (i + 1) * 2 + 1 = i * 2 + 1 + 1 + 1 by omega]
      show (cl r)[i * 2 + 1]? = _
      exact ih i (by simpa using h)
theorem cl_set (l : List PB) (i : Nat) (h : i < l.length) (p : PB) : ((cl l).set (i * 2) (.string p.1)).set (i * 2 + 1) (.string p.2) = cl (l.set i p) := by
  induction l generalizing i with
  | nil => simp at h
  | cons q r ih =>
    cases i with
    | zero => rfl
    | succ i =>
      have := ih i (by simpa using h)
      rw [show (i + 1) * 2 = i * 2 + 1 + 1 by omega]
      show Value.string q.1 :: Value.string q.2 :: (((cl r).set (i * 2) (.string p.1)).set (i * 2 + 1) (.string p.2)) = _
      rw [this]; rfl

/-- a slice that reads as l -/
def Lies (w : World) (v : Value) (l : List PB) : Prop :=
  ∃ oa cap, v = .slice oa l.length cap ∧ ∀ i (h : i < l.length), ∃ b o, oa = some ⟨b, o, none⟩ ∧ b < w.heap.size ∧ w.cell? ⟨b, o + i * 2, none⟩ = some (.string l[i].1) ∧ w.cell? ⟨b, o + i * 2 + 1, none⟩ = some (.string l[i].2)

theorem Lies.below {w w' : World} {v : Value} {l : List PB} (h : Lies w v l) (hb : Below w.heap.size w w') : Lies w' v l := by
  obtain ⟨oa, cap, hv, hc⟩ := h
  refine ⟨oa, cap, hv, fun i hi => ?_⟩
  obtain ⟨b, o, ho, hlt, c0, c1⟩ := hc i hi
  exact ⟨b, o, ho, Nat.lt_of_lt_of_le hlt hb.size, (hb.cell hlt).trans c0, (hb.cell hlt).trans c1⟩

/-- pairs that lie in a block of one's own -/
def Row (w : World) (g : Nat) (l : List PB) : Prop := w.there g 0 (l.length * 2) ∧ w.rangeAt g 0 (cl l)

theorem row_of_own {w : World} {base : Nat} {e : TypeId} {v : Value} {l : List PB} (h : w.ownsRow base e 2 v l.length (cl l)) : (v = .slice none 0 0 ∧ l = []) ∨ ∃ g cap, v = .slice (some ⟨g, 0, none⟩) l.length cap ∧ base ≤ g ∧ g < w.heap.size ∧ Row w g l ∧ l.length ≤ cap := by
  rcases h.2 with ⟨hv, h0⟩ | ⟨g, cap, cur, rfl, hg, hh, hn, _, hsz, htk⟩
  · exact Or.inl ⟨hv, List.eq_nil_of_length_eq_zero h0⟩
  · refine Or.inr ⟨g, cap, rfl, hg, (Array.getElem?_eq_some_iff.1 hh).1, ?_, hn⟩
    have hr : w.rangeAt g 0 (cl l) := by
      intro j u hu
      have hj : j < l.length * 2 := by have := (List.getElem?_eq_some_iff.1 hu).1; rw [cl_len] at this; exact this
      have : (cur.toList.take (l.length * 2))[j]? = (cl l)[j]? := by rw [htk]
      rw [List.getElem?_take_of_lt hj, hu] at this
      simp only [World.cell?, hh]
      simpa using this
    refine ⟨fun j hj => ⟨?_, by simp [World.frozen?, hh]⟩, hr⟩
    rw [range_cell hr j (by rw [cl_len]; exact hj)]; rfl

theorem Row.lies {w : World} {g : Nat} {l : List PB} (h : Row w g l) (hg : g < w.heap.size) (n cap : Nat) (hn : n ≤ l.length) : Lies w (.slice (some ⟨g, 0, none⟩) n cap) (l.take n) := by
  have hl : (l.take n).length = n := by rw [List.length_take]; omega
  refine ⟨_, cap, by rw [hl], fun i hi => ?_⟩
  rw [hl] at hi
  have hi2 : i < l.length := by omega
  refine ⟨g, 0, rfl, hg, ?_, ?_⟩
  · rw [h.2 (i * 2) _ (cl_get0 l i hi2)]; simp
  · have := h.2 (i * 2 + 1) _ (cl_get1 l i hi2)
    rw [Nat.zero_add] at this
    rw [Nat.zero_add, this]; simp

theorem lies_of_own {w : World} {base : Nat} {e : TypeId} {v : Value} {l : List PB} (h : w.ownsRow base e 2 v l.length (cl l)) : Lies w v l := by
  rcases row_of_own h with ⟨rfl, rfl⟩ | ⟨g, cap, rfl, _, hg, hr, _⟩
  · exact ⟨none, 0, rfl, fun i hi => absurd hi (Nat.not_lt_zero _)⟩
  · have := hr.lies hg l.length cap (Nat.le_refl _)
    rwa [List.take_length] at this

theorem Row.below {w w' : World} {b g : Nat} {l : List PB} (h : Row w g l) (hb : Below b w w') (hg : g < b) : Row w' g l := ⟨there_below h.1 hb hg, range_below h.2 hb hg⟩
theorem Row.drew {w : World} {g : Nat} {l : List PB} (h : Row w g l) : Row w.drew g l := h
theorem Row.set {w : World} {g : Nat} {l : List PB} (h : Row w g l) (i : Nat) (hi : i < l.length) (p : PB) : Row ((w.setCell ⟨g, i * 2, none⟩ (.string p.1)).setCell ⟨g, i * 2 + 1, none⟩ (.string p.2)) g (l.set i p) := by
  refine ⟨by rw [List.length_set]; exact there_set (there_set h.1 _ _) _ _, ?_⟩
  have h1 := range_set h.2 (i * 2) (by rw [cl_len]; omega) (.string p.1)
  have h2 := range_set h1 (i * 2 + 1) (by rw [List.length_set, cl_len]; omega) (.string p.2)
  rw [Nat.zero_add, Nat.zero_add, cl_set l i hi p] at h2
  exact h2

theorem infoP : (Tryz.prog.info? 37).map (fun i => (i.zero, i.size, i.bytes)) = some (some (.agg #[.string ⟨#[]⟩, .string ⟨#[]⟩]), 2, 32) := by kernel_rfl

theorem own_ge {w : World} {base : Nat} {e : TypeId} {size : Nat} {v : Value} {n : Nat} {xs : List Value} (h : w.ownsRow base e size v n xs) : ∀ b, v.ownBlock = some b → base ≤ b := by
  intro b hb
  exact (h.lt b hb).1

theorem cells_new (w : World) (l : List Value) (t : TypeId) : ∀ j u, l[j]? = some u → (w.alloc (.cells l.toArray t)).cell? ((⟨w.heap.size, 0, none⟩ : Addr).add j) = some u := by
  intro j u h
  rw [Addr.add_mid]
  exact range_new w l.toArray t j u h

theorem takeP (l : List PB) (k : Nat) (h : k < l.length) : l.take (k + 1) = l.take k ++ [l[k]] := by
  rw [List.take_succ_eq_append_getElem h]

theorem own_below {w w' : World} {base : Nat} {e : TypeId} {size : Nat} {v : Value} {n : Nat} {xs : List Value} (h : w.ownsRow base e size v n xs) (hb : Below w.heap.size w w') : w'.ownsRow base e size v n xs := by
  refine ⟨h.1, ?_⟩
  rcases h.2 with hh | ⟨g, cap, cur, rfl, hg, hh, hn⟩
  · exact Or.inl hh
  · exact Or.inr ⟨g, cap, cur, rfl, hg, (hb.block g (Array.getElem?_eq_some_iff.1 hh).1).trans hh, hn⟩

end Go.Proofs.YtlefalplljgkeaaGreatDoor.lst
