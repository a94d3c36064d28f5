import Derived.Test.YtkmhhodapnlkiaaDoorGtW
import Derived.Test.YtkmhhodapnlkiaaDoorSameWalks
import Derived.Deep.RegionHeld3
namespace Go.Proofs.YtkmhhodapnlkiaaDoor.gt
open Go.ChangeShapes Go.WideShapes Go.ChangeAt Go.RowKit Go.Proofs.YtkmhhodapnlkiaaDoor.common
open Go.Proofs.YtkmhhodapnlkiaaDoor.lst (PB Lies Row cl cl_get0 cl_get1 cl_len cl_set takeP lies_of_own row_of_own pairs_any)
open Go.Proofs.YtkmhhodapnlkiaaDoor.pctw (tot pr)
attribute [local go_sem ↓] Go.wp_at_zero Go.wp_at_succ

theorem keepD {w w1 w2 : World} (h : Below w.heap.size w w1) (h2 : Below w1.heap.size w1 w2) : Below w.heap.size w w2 := h.trans (h2.mono h.size)
abbrev bx : ByteArray := ⟨#[120]⟩
def px (p : PB) : PB := (p.1, p.2 ++ bx)
/-- the first k with the sign behind -/
def mx (l : List PB) (k : Nat) : List PB := (l.take k).map px ++ l.drop k
theorem mx_zero (l : List PB) : mx l 0 = l := by simp [mx]
theorem mx_all (l : List PB) : mx l l.length = l.map px := by simp [mx]
theorem mx_len (l : List PB) (k : Nat) : (mx l k).length = l.length := by simp [mx]; omega
theorem mx_at (l : List PB) (k : Nat) (h : k < l.length) : (mx l k)[k]'(by rw [mx_len]; exact h) = l[k] := by
  have : (mx l k)[k]? = some l[k] := by
    unfold mx
    rw [List.getElem?_append_right (by simp; omega)]
    simp; rw [Nat.min_eq_left (by omega)]; simp [h]
  exact (List.getElem?_eq_some_iff.1 this).2
theorem mx_set (l : List PB) (k : Nat) (h : k < l.length) : (mx l k).set k (px l[k]) = mx l (k + 1) := by
  have e : l.drop k = l[k] :: l.drop (k + 1) := List.drop_eq_getElem_cons h
  unfold mx
  rw [e, takeP l k h, List.map_append, List.set_append_right _ _ (by rw [List.length_map, List.length_take]; exact Nat.min_le_left _ _)]
  simp only [List.length_map, List.length_take]
  rw [Nat.min_eq_left (by omega), Nat.sub_self]
  simp only [List.set_cons_zero, List.map_cons, List.map_nil, List.append_assoc, List.cons_append, List.nil_append]
theorem tot_px (l : List PB) : tot (l.map px) = tot l + l.length := by
  induction l with
  | nil => rfl
  | cons p r ih =>
    show p.1.size + (p.2 ++ bx).size + 1 + tot (r.map px) = p.1.size + p.2.size + 1 + tot r + (r.length + 1)
    rw [ih, ByteArray.size_append]
    have : bx.size = 1 := rfl
    omega
theorem set_same {α : Type} (l : List α) (i : Nat) (x : α) (h : l[i]? = some x) : l.set i x = l := by
  refine List.ext_getElem? fun j => ?_
  rw [List.getElem?_set]
  by_cases e : i = j
  · subst e
    rw [if_pos rfl, h, if_pos (List.getElem?_eq_some_iff.1 h).1]
  · rw [if_neg e]
theorem row_set1 {w : World} {g : Nat} {l : List PB} (h : Row w g l) (i : Nat) (hi : i < l.length) (b : ByteArray) : Row (w.setCell ⟨g, i * 2 + 1, none⟩ (.string b)) g (l.set i (l[i].1, b)) := by
  refine ⟨by rw [List.length_set]; exact there_set h.1 _ _, ?_⟩
  have h2 := range_set h.2 (i * 2 + 1) (by rw [cl_len]; omega) (.string b)
  have h3 := cl_set l i hi (l[i].1, b)
  rw [set_same _ _ _ (cl_get0 l i hi)] at h3
  rw [Nat.zero_add, h3] at h2
  exact h2
/-- a row of one's own, or nothing -/
def RowV (w : World) (oa : Option Addr) (b : Nat) (m : List PB) : Prop := m = [] ∨ ∃ g, oa = some ⟨g, 0, none⟩ ∧ b ≤ g ∧ g < w.heap.size ∧ Row w g m
theorem rowV_own {w : World} {base : Nat} {e : TypeId} {v : Value} {l : List PB} (h : w.ownsRow base e 2 v l.length (cl l)) : ∃ oa cap, v = .slice oa l.length cap ∧ RowV w oa base l := by
  rcases row_of_own h with ⟨rfl, rfl⟩ | ⟨g, cap, rfl, hb, hg, hr, _⟩
  · exact ⟨none, 0, rfl, Or.inl rfl⟩
  · exact ⟨_, cap, rfl, Or.inr ⟨g, rfl, hb, hg, hr⟩⟩
theorem RowV.lies {w : World} {oa : Option Addr} {b n : Nat} {m : List PB} (h : RowV w oa b m) (cap : Nat) (hn : m.length = n) : Lies w (.slice oa n cap) m := by
  rcases h with rfl | ⟨g, rfl, _, hg, hr⟩
  · exact ⟨oa, cap, by rw [hn], fun i hi => absurd hi (Nat.not_lt_zero _)⟩
  · have := hr.lies hg m.length cap (Nat.le_refl _)
    rw [List.take_length] at this
    rw [← hn]; exact this
theorem RowV.below {w w' : World} {oa : Option Addr} {b : Nat} {m : List PB} (h : RowV w oa b m) (hb : Below w.heap.size w w') : RowV w' oa b m := by
  rcases h with rfl | ⟨g, rfl, h0, hg, hr⟩
  · exact Or.inl rfl
  · exact Or.inr ⟨g, rfl, h0, Nat.lt_of_lt_of_le hg hb.size, hr.below hb hg⟩

set_option maxRecDepth 100000 in
set_option maxHeartbeats 6400000 in
theorem lawTicket (s : ByteArray) (v : Value) (l : List PB) (w : World) (hl : Lies w v l) (he : Env w) (hs : s.size ≤ 1048576) (hz : tot l + l.length ≤ 1048576) :
    Calls Tryd.prog 3 #[.agg #[.string s, v]] w fun e w' => e = .returned (.bool true) ∧ Below w.heap.size w w' := by
  obtain ⟨W0, hW0⟩ : ∃ W0, W0 = w.alloc (.cells #[.string s, v] 24) := ⟨_, rfl⟩
  have hb0 : Below w.heap.size w W0 := by rw [hW0]; exact (Below.refl _ _).alloc (Nat.le_refl _) _
  have hlt0 : w.heap.size < W0.heap.size := by rw [hW0]; simp
  have c0 : W0.cell? ⟨w.heap.size, 0, none⟩ = some (.string s) := by rw [hW0]; simp
  have c1 : W0.cell? ⟨w.heap.size, 1, none⟩ = some v := by rw [hW0]; simp
  have HENV : Hid (∀ X, Below W0.heap.size W0 X → Env X) := fun X hX => he.below (keepD hb0 hX)
  have HLV : Hid (∀ X, Below W0.heap.size W0 X → Lies X v l) := fun X hX => hl.below (keepD hb0 hX)
  have HC0 : Hid (∀ X, Below W0.heap.size W0 X → X.cell? ⟨w.heap.size, 0, none⟩ = some (.string s)) := fun X hX => (hX.cell (p := ⟨w.heap.size, 0, none⟩) hlt0).trans c0
  have HC1 : Hid (∀ X, Below W0.heap.size W0 X → X.cell? ⟨w.heap.size, 1, none⟩ = some v) := fun X hX => (hX.cell (p := ⟨w.heap.size, 1, none⟩) hlt0).trans c1
  have HB0 := hide hb0
  have HS : Hid (s.size ≤ 281474976710656 ∧ 4 * tot l ≤ 140737488355328 ∧ l.length ≤ 4611686018427387904 ∧ l.length * 32 ≤ 140737488355328 ∧ 4 * tot (l.map px) ≤ 140737488355328) := ⟨by omega, by omega, by omega, by omega, by rw [tot_px]; omega⟩
  have HT : Hid (∀ X u, Below W0.heap.size W0 X → Lies X u l → Calls Tryd.prog 5 #[.string s, u] X fun e w' => e = .returned (.string (tk s l)) ∧ Below X.heap.size X w') := fun X u hX hu => ticket_any s u l X hu (HENV.out X hX) HS.out.1 HS.out.2.1 HS.out.2.2.1
  have HR : Hid (∀ X u, Below W0.heap.size W0 X → Lies X u l → Calls Tryd.prog 7 #[.string s, u] X fun e w' => e = .returned (.string (tk s l)) ∧ Below X.heap.size X w') := fun X u hX hu => refTicket_any s u l X hu (HENV.out X hX) HS.out.1 HS.out.2.1 HS.out.2.2.1
  have HT2 : Hid (∀ X u, Below W0.heap.size W0 X → Lies X u (l.map px) → Calls Tryd.prog 5 #[.string s, u] X fun e w' => e = .returned (.string (tk s (l.map px))) ∧ Below X.heap.size X w') := fun X u hX hu => ticket_any s u _ X hu (HENV.out X hX) HS.out.1 HS.out.2.2.2.2 (by rw [List.length_map]; exact HS.out.2.2.1)
  have HR2 : Hid (∀ X u, Below W0.heap.size W0 X → Lies X u (l.map px) → Calls Tryd.prog 7 #[.string s, u] X fun e w' => e = .returned (.string (tk s (l.map px))) ∧ Below X.heap.size X w') := fun X u hX hu => refTicket_any s u _ X hu (HENV.out X hX) HS.out.1 HS.out.2.2.2.2 (by rw [List.length_map]; exact HS.out.2.2.1)
  generalize tk s l = T at *
  generalize tk s (l.map px) = T2 at *
  obtain ⟨ov, cv, rfl, _⟩ := hl
  have hW0' := hW0
  rw [hW0] at c0 c1
  have HW0 := hide hW0
  clear he hs hb0 hW0 hW0'
  go_enter Tryd.func3, Tryd.ntmps3
  go_wp2_with fail
  rw [← HW0.out]
  refine (pairs_any _ l W0 (HLV.out _ (Below.refl _ _)) HS.out.2.2.2.1).mono ?_
  rintro x w1 ⟨v1, rfl, ho1, b1⟩
  have HB1 := hide b1
  have HL1 := hide (lies_of_own ho1)
  obtain ⟨o1, k1, rfl, _⟩ := lies_of_own ho1
  clear ho1 b1 c0 c1
  have c0 := HC0.out _ HB1.out
  have c1 := HC1.out _ HB1.out
  go_wp2_with fail
  refine (HT.out _ _ HB1.out (HLV.out _ HB1.out)).mono ?_
  rintro x w2 ⟨rfl, b2⟩
  have HB2 := hide (keepD HB1.out b2)
  have HL2 := hide (HL1.out.below b2)
  clear b2 c0 c1 HL1 HB1
  have c1 := HC1.out _ HB2.out
  go_wp2_with fail
  refine (lst.same_any _ _ l w2 (HLV.out _ HB2.out) HL2.out HS.out.2.2.1).mono ?_
  rintro x w3 ⟨rfl, b3⟩
  have HB3 := hide (keepD HB2.out b3)
  have HL3 := hide (HL2.out.below b3)
  clear b3 c1 HL2 HB2
  have c0 := HC0.out _ HB3.out
  go_wp2_with fail
  refine (HR.out _ _ HB3.out HL3.out).mono ?_
  rintro x w4 ⟨rfl, b4⟩
  have HB4 := hide (keepD HB3.out b4)
  have HL4 := hide (HL3.out.below b4)
  clear b4 c0 HL3 HB3
  go_wp2_with fail
  refine (pairs_any _ l w4 HL4.out HS.out.2.2.2.1).mono ?_
  rintro x w5 ⟨v5, rfl, ho5, b5⟩
  obtain ⟨o5, k5, rfl, hv5⟩ := rowV_own ho5
  have HB5 := hide (keepD HB4.out b5)
  have HV5 := hide hv5
  have HG : Hid (W0.heap.size ≤ w4.heap.size) := HB4.out.size
  clear ho5 b5 hv5 HL4 HB4
  have c0 := HC0.out _ HB5.out
  go_wp2_with fail
  refine (HT.out _ _ HB5.out (HV5.out.lies k5 rfl)).mono ?_
  rintro x w6 ⟨rfl, b6⟩
  have HB6 := hide (keepD HB5.out b6)
  have HV6 := hide (HV5.out.below b6)
  clear b6 c0 HB5 HV5
  go_wp2_with fail
  go_loopw [8] (fun i wr => ∃ k : Nat, k ≤ l.length ∧ i = .int .i64 k ∧ RowV wr o5 w4.heap.size (mx l k) ∧ Below W0.heap.size W0 wr) (fun i _ => l.length - (intOf i).toNat)
  case atStart => exact ⟨0, Nat.zero_le _, rfl, by rw [mx_zero]; exact HV6.out, HB6.out⟩
  case round =>
    obtain ⟨k, hk, rfl, hrow, hnx⟩ := hrel
    by_cases hlt : k < l.length
    · have hki : (k : Int) < (l.length : Int) := by omega
      have hkl : k < (mx l k).length := by rw [mx_len]; exact hlt
      rcases hrow with h0 | ⟨g, rfl, hg0, hg, hr⟩
      · rw [h0] at hkl; simp at hkl
      have d1 : wr.cell? ⟨g, k * 2 + 1, none⟩ = some (.string l[k].2) := by
        have := hr.2 _ _ (cl_get1 _ k hkl)
        rw [Nat.zero_add] at this
        rw [this, mx_at l k hlt]
      have f1 : wr.frozen? ⟨g, k * 2 + 1, none⟩ = false := by simpa using (hr.1 (k * 2 + 1) (by omega)).2
      have HRW := hide (row_set1 hr k hkl (l[k].2 ++ bx))
      rw [mx_at l k hlt] at HRW
      have e1 : (l[k].1, l[k].2 ++ bx) = px l[k] := rfl
      rw [e1, mx_set l k hlt] at HRW
      have hsz : l[k].2.size ≤ 1048576 := by have := pctw.tot_take l k hlt; omega
      have HX := hide hnx
      have HG1 : Hid (w4.heap.size ≤ g ∧ g < wr.heap.size) := ⟨hg0, hg⟩
      clear hr hnx e1 hg0 hg
      generalize l[k].2 = pv at *
      obtain ⟨Z, hZ⟩ : ∃ Z : ByteArray, pv ++ bx = Z := ⟨_, rfl⟩
      have hadd : ¬ (9223372036854775807 < pv.size + bx.size) := by have : bx.size = 1 := rfl; omega
      have k0 : (0 : Int) ≤ (k : Int) := Int.natCast_nonneg _
      rw [hZ] at HRW
      go_wp2_with fail
      go_roundw
      case rel => exact ⟨k + 1, by omega, by go_num, Or.inr ⟨g, rfl, HG1.out.1, by rw [World.size_setCell]; exact HG1.out.2, HRW.out⟩, HX.out.setCell (p := ⟨g, k * 2 + 1, none⟩) (Nat.le_trans HG.out HG1.out.1) _⟩
      case measure => simp [intOf]; omega
    · obtain rfl : k = l.length := by omega
      rw [mx_all] at hrow
      have HV := hide hrow
      have HB := hide hnx
      have HL := hide (hrow.lies k5 (show (l.map px).length = l.length by rw [List.length_map]))
      have x0 := HC0.out
      have b9 := HB.out
      clear hrow hnx hk hlt
      have hxx : ¬ (l.length : Int) < (l.length : Int) := by omega
      go_wp2_with fail
      go_region_held3 (fun X => Below W0.heap.size W0 X)
        (first
          | assumption
          | exact keepD (by assumption) (by assumption)
          | exact Below.drew (by assumption)
          | exact Below.drew (keepD (by assumption) (by assumption)))
        (first
          | (go_at_call 5; refine (HT2.out _ _ (Below.drew HB.out) (HL.out.below ((Below.refl _ _).drew))).mono ?_; rintro x wa ⟨rfl, ba⟩)
          | (go_at_call 4; refine (pairs_any _ (l.map px) _ (HL.out.below (keepD ((Below.refl _ _).drew) ba)) (by rw [List.length_map]; exact HS.out.2.2.2.1)).mono ?_; rintro x wb ⟨vb, rfl, hob, bb⟩)
          | (go_at_call 7; refine (HR2.out _ _ (keepD (keepD (Below.drew HB.out) ba) bb) (lies_of_own hob)).mono ?_; rintro x wc ⟨rfl, bc⟩))
      have B3 := hide (keepD HB0.out (keepD (keepD (keepD (Below.drew HB.out) ba) bb) bc))
      clear ba bb bc hob b9
      go_wp2_with fail
      go_ret
      exact ⟨by simp, B3.out⟩
end Go.Proofs.YtkmhhodapnlkiaaDoor.gt
