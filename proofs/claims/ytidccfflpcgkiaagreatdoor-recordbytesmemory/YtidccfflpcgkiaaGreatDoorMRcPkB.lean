import Derived.Test.YtidccfflpcgkiaaGreatDoorMRcTidAll
import Derived.Test.YtidccfflpcgkiaaGreatDoorMRdSameD
import Derived.Test.YtidccfflpcgkiaaGreatDoorMRcLoK
namespace Go.Proofs.YtidccfflpcgkiaaGreatDoor.rc
open Go.ChangeShapes Go.WideShapes Go.ChangeAt Go.RowKit Go.Proofs.YtidccfflpcgkiaaGreatDoor.common Go.Proofs.YtidccfflpcgkiaaGreatDoor.dk
attribute [local go_sem ↓] Go.wp_at_zero Go.wp_at_succ

theorem one_len {r : Rec} (h : mayB r = true) : 3 ≤ (oneL r).length ∧ (oneL r).length ≤ 1356 := by
  have h1 := rec_len h
  have h2 := num2 (n := (recL r).length) (by omega)
  have h3 := num_pos (recL r).length
  unfold oneL
  rw [List.length_append]
  omega
theorem ones_len : ∀ (q : List Rec), (∀ r ∈ q, mayB r = true) → q.length * 3 ≤ (q.flatMap oneL).length ∧ (q.flatMap oneL).length ≤ q.length * 1356
  | [], _ => by simp
  | r :: t, h => by
    have h1 := one_len (h r (List.mem_cons_self ..))
    have h2 := ones_len t (fun x hx => h x (List.mem_cons_of_mem _ hx))
    rw [List.flatMap_cons, List.length_append, List.length_cons]
    omega
theorem pk_good {q : List Rec} (h0 : 0 < q.length) (h4 : q.length ≤ 4) (h : ∀ r ∈ q, mayB r = true) : pkE q = 0 ∧ pkL q = numL q.length ++ q.flatMap oneL ∧ 3 ≤ (pkL q).length ∧ (pkL q).length ≤ 5425 := by
  have hok : pkOk q = true := List.all_eq_true.2 h
  have hE : pkE q = 0 := by unfold pkE; rw [if_neg (by omega), if_neg (by omega), if_pos hok]
  have hL : pkL q = numL q.length ++ q.flatMap oneL := by unfold pkL; rw [if_neg (by omega), if_neg (by omega), if_pos hok]
  have h1 := ones_len q h
  have h2 := num1 (n := q.length) (by omega)
  refine ⟨hE, hL, ?_⟩
  rw [hL, List.length_append]
  omega
theorem good_of {q : List Rec} (h : ∀ r ∈ q, mayB r = true) : GoodL q := fun r hr => ⟨h r hr, (may_sz (h r hr)).low, (may_sz (h r hr)).len⟩
theorem un_of {q : List Rec} (h0 : 0 < q.length) (h4 : q.length ≤ 4) (h : ∀ r ∈ q, mayB r = true) {o : Option (List Rec)} (hu : UnR (pkL q) o) : o = some q :=
  hu.on q h0 h4 (good_of h) (pk_good h0 h4 h).2.1.symm
/-- a record at a time that no time is -/
def badR (r : Rec) : Rec := { r with at_ := -1 }
theorem bad_may (r : Rec) : mayB (badR r) = false := by
  cases h : mayB (badR r) with
  | false => rfl
  | true => have := (may_sz h).at0; exact absurd this (by unfold badR; simp)
theorem bad_low {r : Rec} (h : r.Low) : (badR r).Low := ⟨h.id, h.us, h.cl, h.rd, h.ch, h.cd, h.ss⟩
theorem bad_small {r : Rec} (h : r.Small) : (badR r).Small := ⟨h.id, h.us, h.cl, h.rd, h.ch, h.cd, h.len, h.ss⟩
theorem pk_bad {l : List Rec} {r : Rec} (h4 : l.length + 1 ≤ 4) : pkE (l ++ [badR r]) = 1 ∧ pkL (l ++ [badR r]) = [] := by
  have hok : pkOk (l ++ [badR r]) = false := by
    unfold pkOk
    rw [List.all_append]
    simp [bad_may]
  have hl : (l ++ [badR r]).length = l.length + 1 := by simp
  constructor
  · unfold pkE; rw [if_neg (by omega), if_neg (by omega), hok]; rfl
  · unfold pkL; rw [if_neg (by omega), if_neg (by omega), hok]; rfl
theorem pk_many {l : List Rec} (h : 4 < l.length) : pkE l = 3 ∧ pkL l = [] := by
  constructor
  · unfold pkE; rw [if_pos h]
  · unfold pkL; rw [if_pos h]
/-- the row of records that lie there, with its block -/
theorem OwnR.slot {base : Nat} {w : World} {v : Value} {l : List Rec} {s : List Value} (h : OwnR base w v l s) (h0 : 0 < l.length) : ∃ g cap, v = .slice (some ⟨g, 0, none⟩) l.length cap ∧ base ≤ g ∧ g < w.heap.size ∧ l.length ≤ cap ∧ w.rangeAt g 0 (rcc l s) := by
  rcases h.row.2 with ⟨_, h1⟩ | ⟨g, cap, cur, rfl, hg, hh, hn, _⟩
  · omega
  · have hc := h.row.cells (g := g) rfl
    refine ⟨g, cap, rfl, hg, (Array.getElem?_eq_some_iff.1 hh).1, hn, fun j u hu => ?_⟩
    have := hc j u hu
    rw [Addr.add_mid] at this
    exact this
theorem rcc_take : ∀ (l : List Rec) (s : List Value) (n : Nat), l.length = s.length → rcc (l.take n) (s.take n) = (rcc l s).take (n * 9)
  | [], [], n, _ => by simp [rcc]
  | [], _ :: _, _, h => by simp at h
  | _ :: _, [], _, h => by simp at h
  | r :: t, v :: s, 0, _ => by simp [rcc]
  | r :: t, v :: s, n + 1, h => by
    have := rcc_take t s n (by simpa using h)
    rw [List.take_succ_cons, List.take_succ_cons]
    show rcl9 r v ++ rcc (t.take n) (s.take n) = (rcl9 r v ++ rcc t s).take ((n + 1) * 9)
    have e9 : (rcl9 r v).length = 9 := rfl
    have e8 : (rcl9 r v).take ((n + 1) * 9) = rcl9 r v := List.take_of_length_le (by rw [e9]; omega)
    rw [this, List.take_append, e8, e9, show (n + 1) * 9 - 9 = n * 9 by omega]
/-- the first m of them, copied behind nothing -/
theorem OwnR.copy {base m : Nat} {w w' : World} {vq v0 v' : Value} {q : List Rec} {sq : List Value} (h : OwnR base w vq q sq) (he : w.ownsRow base 24 9 v0 0 []) (hm : m ≤ q.length)
    (hr : w'.ownsRow base 24 9 v' (0 + m) ([] ++ rcc (q.take m) (sq.take m))) (hg : w.grownBy w' v0.ownBlock) : OwnR base w' v' (q.take m) (sq.take m) := by
  have hl := h.len
  have h1 : (q.take m).length = m := by rw [List.length_take]; omega
  have h2 : (sq.take m).length = m := by rw [List.length_take]; omega
  have hne : (9 : TypeId) ≠ 24 := by decide
  refine ⟨by omega, ?_, fun i hi => ?_⟩
  · rw [h1]
    rw [Nat.zero_add, List.nil_append] at hr
    exact hr
  · have hi1 : i < sq.length := by omega
    have e1 : (sq.take m)[i] = sq[i] := List.getElem_take ..
    have e2 : (q.take m)[i]'(by omega) = q[i]'(by omega) := List.getElem_take ..
    rw [e1, e2]
    exact (h.each i hi1).kept hg (rows_ne hne (h.each i hi1) he)
theorem rcc_news {w : World} {g m : Nat} {q : List Rec} {sq : List Value} (h : w.rangeAt g 0 (rcc q sq)) (hl : q.length = sq.length) : ∀ j u, (rcc (q.take m) (sq.take m))[j]? = some u → w.cell? ((⟨g, 0, none⟩ : Addr).add j) = some u := by
  intro j u hu
  rw [rcc_take q sq m hl, List.getElem?_take] at hu
  split at hu
  · have := h j u hu
    rw [Addr.add_mid]
    exact this
  · cases hu
theorem rcc_one : ∀ (l : List Rec) (s : List Value), (∀ v ∈ s, ∃ oa n c, v = .slice oa n c) → ∀ u ∈ rcc l s, u.oneCell' = true
  | [], [], _, u, h => by cases h
  | [], _ :: _, _, u, h => by cases h
  | _ :: _, [], _, u, h => by cases h
  | r :: t, v :: s, hv, u, h => by
    obtain ⟨oa, n, c, rfl⟩ := hv v (List.mem_cons_self ..)
    rcases List.mem_append.1 h with h | h
    · exact rcl_one r oa n c u h
    · exact rcc_one t s (fun x hx => hv x (List.mem_cons_of_mem _ hx)) u h
theorem OwnR.slices {base : Nat} {w : World} {v : Value} {l : List Rec} {s : List Value} (h : OwnR base w v l s) : ∀ u ∈ s, ∃ oa n c, u = .slice oa n c := fun u hu => by
  obtain ⟨i, hi, rfl⟩ := List.getElem_of_mem hu
  obtain ⟨oa, c, e⟩ := own_slice (h.each i hi)
  exact ⟨oa, _, c, e⟩
theorem OwnR.five {base : Nat} {w w' : World} {v0 v' u : Value} {r : Rec} (hu : w.ownsRow base 9 1 u r.ss.length (Go.Proofs.YtidccfflpcgkiaaGreatDoor.ss.sc r.ss)) (he : w.ownsRow base 24 9 v0 0 [])
    (hr : w'.ownsRow base 24 9 v' (0 + 5) ([] ++ rcc [r, r, r, r, r] [u, u, u, u, u])) (hg : w.grownBy w' v0.ownBlock) : OwnR base w' v' [r, r, r, r, r] [u, u, u, u, u] := by
  have hne : (9 : TypeId) ≠ 24 := by decide
  have hk := hu.kept hg (rows_ne hne hu he)
  refine ⟨rfl, hr, fun i hi => ?_⟩
  have hi : i < 5 := hi
  rcases i with _ | _ | _ | _ | _ | i
  · exact hk
  · exact hk
  · exact hk
  · exact hk
  · exact hk
  · omega
theorem own_empty (w : World) (base : Nat) (h : base ≤ w.heap.size) (t : TypeId) (z : Nat) : (w.alloc (.cells #[] t)).ownsRow base t z (.slice (some ⟨w.heap.size, 0, none⟩) 0 0) 0 [] := by
  have := World.ownsRow_lit (base := base) (e := t) (size := z) w #[] 0 h (by decide) (by simp)
  simpa using this
end Go.Proofs.YtidccfflpcgkiaaGreatDoor.rc
