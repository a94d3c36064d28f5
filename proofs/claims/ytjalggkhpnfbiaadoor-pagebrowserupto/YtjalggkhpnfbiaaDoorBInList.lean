import Derived.Test.YtjalggkhpnfbiaaDoorBPageWr
import Derived.Maps.AppendAt
namespace Go.Proofs.YtjalggkhpnfbiaaDoor.pg
open Go.ChangeShapes Go.WideShapes Go.ChangeAt Go.RowKit Go.Proofs.YtjalggkhpnfbiaaDoor.common Go.Maps
attribute [local go_sem ↓] Go.wp_at_zero Go.wp_at_succ

/-- an input: its kind, name, value and label -/
structure Inp where
  kind : Int
  name : ByteArray
  value : ByteArray
  label : ByteArray
/-- a slice of inputs that reads as xs -/
def LiesI (w : World) (v : Value) (xs : List Inp) : Prop :=
  ∃ oa cap, v = .slice oa xs.length cap ∧ ∀ i (h : i < xs.length), ∃ b o, oa = some ⟨b, o, none⟩ ∧ b < w.heap.size ∧ w.cell? ⟨b, o + i * 4, none⟩ = some (.int .i64 xs[i].kind) ∧ w.cell? ⟨b, o + i * 4 + 1, none⟩ = some (.string xs[i].name) ∧ w.cell? ⟨b, o + i * 4 + 2, none⟩ = some (.string xs[i].value) ∧ w.cell? ⟨b, o + i * 4 + 3, none⟩ = some (.string xs[i].label)

theorem LiesI.below {w w' : World} {v : Value} {l : List Inp} (h : LiesI w v l) (hb : Below w.heap.size w w') : LiesI w' v l := by
  obtain ⟨oa, cap, hv, hc⟩ := h
  refine ⟨oa, cap, hv, fun i hi => ?_⟩
  obtain ⟨b, o, ho, hlt, c0, c1, c2, c3⟩ := hc i hi
  exact ⟨b, o, ho, Nat.lt_of_lt_of_le hlt hb.size, (hb.cell hlt).trans c0, (hb.cell hlt).trans c1, (hb.cell hlt).trans c2, (hb.cell hlt).trans c3⟩

/-- the cells of inputs that lie one behind the other -/
def ic : List Inp → List Value
  | [] => []
  | x :: r => .int .i64 x.kind :: .string x.name :: .string x.value :: .string x.label :: ic r
theorem ic_len (l : List Inp) : (ic l).length = l.length * 4 := by
  induction l with
  | nil => rfl
  | cons p r ih => show (ic r).length + 4 = _; rw [ih, List.length_cons]; omega
theorem ic_app (l m : List Inp) : ic (l ++ m) = ic l ++ ic m := by
  induction l with
  | nil => rfl
  | cons p r ih => show _ :: _ :: _ :: _ :: ic (r ++ m) = _; rw [ih]; rfl
theorem ic_get (l : List Inp) (i : Nat) (h : i < l.length) : (ic l)[i * 4]? = some (.int .i64 l[i].kind) ∧ (ic l)[i * 4 + 1]? = some (.string l[i].name) ∧ (ic l)[i * 4 + 2]? = some (.string l[i].value) ∧ (ic l)[i * 4 + 3]? = some (.string l[i].label) := by
  induction l generalizing i with
  | nil => simp at h
  | cons p r ih =>
    cases i with
    | zero => exact ⟨rfl, rfl, rfl, rfl⟩
    | succ i =>
      have := ih i (by simpa using h)
      rw [show (i + 1) * 4 = i * 4 + 1 + 1 + 1 + 1 by omega]
      exact ⟨this.1, this.2.1, this.2.2.1, this.2.2.2⟩
theorem ic_one (l : List Inp) : ∀ u ∈ ic l, u.oneCell' = true := by
  induction l with
  | nil => intro u hu; cases hu
  | cons p r ih =>
    intro u hu
    simp only [ic, List.mem_cons] at hu
    rcases hu with rfl | rfl | rfl | rfl | hu
    · rfl
    · rfl
    · rfl
    · rfl
    · exact ih u hu

/-- inputs that lie in a block of one's own -/
def RowI (w : World) (g : Nat) (l : List Inp) : Prop := w.rangeAt g 0 (ic l)
theorem rowI_of_own {w : World} {base : Nat} {e : TypeId} {v : Value} {l : List Inp} (h : w.ownsRow base e 4 v l.length (ic l)) : (v = .slice none 0 0 ∧ l = []) ∨ ∃ g cap, v = .slice (some ⟨g, 0, none⟩) l.length cap ∧ base ≤ g ∧ g < w.heap.size ∧ RowI w g l ∧ l.length ≤ cap := by
  rcases h.2 with ⟨hv, h0⟩ | ⟨g, cap, cur, rfl, hg, hh, hn, _, hsz, htk⟩
  · exact Or.inl ⟨hv, List.eq_nil_of_length_eq_zero h0⟩
  · refine Or.inr ⟨g, cap, rfl, hg, (Array.getElem?_eq_some_iff.1 hh).1, ?_, hn⟩
    intro j u hu
    have hj : j < l.length * 4 := by have := (List.getElem?_eq_some_iff.1 hu).1; rw [ic_len] at this; exact this
    have : (cur.toList.take (l.length * 4))[j]? = (ic l)[j]? := by rw [htk]
    rw [List.getElem?_take_of_lt hj, hu] at this
    simp only [World.cell?, hh]
    simpa using this
theorem RowI.lies {w : World} {g : Nat} {l : List Inp} (h : RowI w g l) (hg : g < w.heap.size) (n cap : Nat) (hn : n ≤ l.length) : LiesI w (.slice (some ⟨g, 0, none⟩) n cap) (l.take n) := by
  have hl : (l.take n).length = n := by rw [List.length_take]; omega
  refine ⟨_, cap, by rw [hl], fun i hi => ?_⟩
  rw [hl] at hi
  have hi2 : i < l.length := by omega
  have ht : (l.take n)[i]'(by rw [hl]; exact hi) = l[i] := by simp
  rw [ht]
  obtain ⟨h0, h1, h2, h3⟩ := ic_get l i hi2
  have g0 := h _ _ h0
  have g1 := h _ _ h1
  have g2 := h _ _ h2
  have g3 := h _ _ h3
  rw [Nat.zero_add] at g0 g1 g2 g3
  exact ⟨g, 0, rfl, hg, by rw [Nat.zero_add]; exact g0, by rw [Nat.zero_add]; exact g1, by rw [Nat.zero_add]; exact g2, by rw [Nat.zero_add]; exact g3⟩
theorem liesI_of_own {w : World} {base : Nat} {e : TypeId} {v : Value} {l : List Inp} (h : w.ownsRow base e 4 v l.length (ic l)) : LiesI w v l := by
  rcases rowI_of_own h with ⟨rfl, rfl⟩ | ⟨g, cap, rfl, _, hg, hr, _⟩
  · exact ⟨none, 0, rfl, fun i hi => absurd hi (Nat.not_lt_zero _)⟩
  · have := hr.lies hg l.length cap (Nat.le_refl _)
    rwa [List.take_length] at this
/-- the cells of a slice, one by one -/
theorem LiesI.cells {w : World} {ad : Addr} {n cap : Nat} {xs : List Inp} (h : LiesI w (.slice (some ad) n cap) xs) : n = xs.length ∧ (0 < xs.length → ad = ⟨ad.block, ad.off, none⟩) ∧ ∀ j u, (ic xs)[j]? = some u → w.cell? (ad.add j) = some u := by
  obtain ⟨oa, ca, hv, hc⟩ := h
  cases hv
  refine ⟨rfl, fun h0 => ?_, fun j u hu => ?_⟩
  · obtain ⟨b, o, ho, _⟩ := hc 0 h0
    cases ho
    rfl
  · have hj : j < xs.length * 4 := by have := (List.getElem?_eq_some_iff.1 hu).1; rw [ic_len] at this; exact this
    have hi : j / 4 < xs.length := by omega
    obtain ⟨b, o, ho, _, c0, c1, c2, c3⟩ := hc (j / 4) hi
    cases ho
    obtain ⟨g0, g1, g2, g3⟩ := ic_get xs (j / 4) hi
    rw [Addr.add_mid]
    have hm : j % 4 = 0 ∨ j % 4 = 1 ∨ j % 4 = 2 ∨ j % 4 = 3 := by omega
    rcases hm with hm | hm | hm | hm
    · have he : j = j / 4 * 4 := by omega
      rw [← he] at c0 g0
      rw [g0] at hu; cases hu; exact c0
    · have he : j = j / 4 * 4 + 1 := by omega
      rw [Nat.add_assoc, ← he] at c1; rw [← he] at g1
      rw [g1] at hu; cases hu; exact c1
    · have he : j = j / 4 * 4 + 2 := by omega
      rw [Nat.add_assoc, ← he] at c2; rw [← he] at g2
      rw [g2] at hu; cases hu; exact c2
    · have he : j = j / 4 * 4 + 3 := by omega
      rw [Nat.add_assoc, ← he] at c3; rw [← he] at g3
      rw [g3] at hu; cases hu; exact c3

theorem infoI : (Tryd.prog.info? 28).map (fun i => (i.zero, i.size, i.bytes)) = some (some (.agg #[.int .i64 0, .string ⟨#[]⟩, .string ⟨#[]⟩, .string ⟨#[]⟩]), 4, 56) := by kernel_rfl

end Go.Proofs.YtjalggkhpnfbiaaDoor.pg
