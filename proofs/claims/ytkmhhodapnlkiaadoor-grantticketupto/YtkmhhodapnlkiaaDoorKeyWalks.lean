import Derived.Test.YtkmhhodapnlkiaaDoorShaWalks
namespace Go.Proofs.YtkmhhodapnlkiaaDoor.shaw
open Go.ChangeShapes Go.WideShapes Go.ChangeAt Go.RowKit Go.Proofs.YtkmhhodapnlkiaaDoor.common
attribute [local go_sem ↓] Go.wp_at_zero Go.wp_at_succ

/-- the value of a digest that has taken in l -/
def HashVal (vs : List Value) (l : List UInt8) : Prop := ∃ pc : List UInt8, pc.length = 64 ∧ pc.take (l.length % 64) = l.drop (64 * (l.length / 64)) ∧ vs = cells73 (Sha.after l (l.length / 64)) pc l.length

theorem HashVal.length {vs : List Value} {l : List UInt8} (h : HashVal vs l) : vs.length = 73 := by
  obtain ⟨pc, h1, _, rfl⟩ := h
  exact cells73_length _ _ _ h1

theorem HashVal.one {vs : List Value} {l : List UInt8} (h : HashVal vs l) : ∀ v ∈ vs, v.oneCell' = true := by
  obtain ⟨pc, h1, _, rfl⟩ := h
  intro x hx
  unfold cells73 at hx
  simp only [List.mem_append, List.mem_map, List.mem_singleton] at hx
  rcases hx with (⟨y, _, rfl⟩ | ⟨y, _, rfl⟩) | rfl <;> rfl

theorem HashOf.val {w : World} {b o : Nat} {l : List UInt8} (h : HashOf w b o l) : ∃ vs, HashVal vs l ∧ w.rangeAt b o vs := by
  obtain ⟨pc, h1, h2⟩ := h
  exact ⟨_, ⟨pc, h1.len, h2, rfl⟩, h1.all⟩

theorem HashVal.of {w : World} {b o : Nat} {l : List UInt8} {vs : List Value} (h : HashVal vs l) (hr : w.rangeAt b o vs) (ht : w.there b o 73) : HashOf w b o l := by
  obtain ⟨pc, h1, h2, rfl⟩ := h
  exact ⟨pc, hashAt_of h1 hr ht, h2⟩

theorem range_left {w : World} {b o : Nat} {xs ys : List Value} (h : w.rangeAt b o (xs ++ ys)) : w.rangeAt b o xs := fun j v hv =>
  h j v (by rw [List.getElem?_append_left (List.getElem?_eq_some_iff.1 hv).1]; exact hv)
theorem range_right {w : World} {b o : Nat} {xs ys : List Value} (h : w.rangeAt b o (xs ++ ys)) : w.rangeAt b (o + xs.length) ys := fun j v hv => by
  have := h (xs.length + j) v (by rw [List.getElem?_append_right (Nat.le_add_right _ _), Nat.add_sub_cancel_left]; exact hv)
  rw [← Nat.add_assoc] at this
  exact this
theorem range_join {w : World} {b o : Nat} {xs ys : List Value} (h1 : w.rangeAt b o xs) (h2 : w.rangeAt b (o + xs.length) ys) : w.rangeAt b o (xs ++ ys) := fun j v hv => by
  by_cases hj : j < xs.length
  · rw [List.getElem?_append_left hj] at hv; exact h1 j v hv
  · rw [List.getElem?_append_right (by omega)] at hv
    have := h2 (j - xs.length) v hv
    rw [show o + xs.length + (j - xs.length) = o + j by omega] at this
    exact this
theorem there_part {w : World} {b o n : Nat} (h : w.there b o n) (p m : Nat) (hm : p + m ≤ n) : w.there b (o + p) m := fun j hj => by
  have := h (p + j) (by omega)
  rw [← Nat.add_assoc] at this
  exact this

/-- the value of a key that has been taken in -/
def KeyVal (cs : List Value) (I O : List UInt8) : Prop := ∃ vi vo, cs = vi ++ vo ∧ HashVal vi I ∧ HashVal vo O

theorem KeyVal.length {cs : List Value} {I O : List UInt8} (h : KeyVal cs I O) : cs.length = 146 := by
  obtain ⟨vi, vo, rfl, h1, h2⟩ := h
  rw [List.length_append, h1.length, h2.length]
theorem KeyVal.one {cs : List Value} {I O : List UInt8} (h : KeyVal cs I O) : cs.toArray.all (·.oneCell') = true := all_oneCell_toArray (by
  obtain ⟨vi, vo, rfl, h1, h2⟩ := h
  intro v hv
  rcases List.mem_append.1 hv with hv | hv
  · exact h1.one v hv
  · exact h2.one v hv)
theorem KeyVal.of {w : World} {b : Nat} {cs : List Value} {I O : List UInt8} (h : KeyVal cs I O) (hr : w.rangeAt b 0 cs) (ht : w.there b 0 146) : HashOf w b 0 I ∧ HashOf w b 73 O := by
  obtain ⟨vi, vo, rfl, h1, h2⟩ := h
  refine ⟨h1.of (range_left hr) (there_part ht 0 73 (by decide)), ?_⟩
  have := range_right hr
  rw [h1.length, Nat.zero_add] at this
  have t := there_part ht 73 73 (by decide)
  rw [Nat.zero_add] at t
  exact h2.of this t

theorem sizeKeyed : (Tryd.prog.info? 43).map (·.size) = some 146 := by kernel_rfl

theorem digest_length (l : List UInt8) : (Sha.digest l).length = 32 := by
  unfold Sha.digest
  generalize Sha.after (l ++ Sha.pad l.length) ((l.length + Sha.padSize l.length) / 64) = X
  exact bytesTo_length X 8 (Nat.le_refl _)

set_option maxRecDepth 100000 in
set_option maxHeartbeats 1600000 in
theorem sign_any (cs : List Value) (I O : List UInt8) (msg : ByteArray) (w : World) (hI : I.length + msg.size ≤ 562949953421312) (hO : O.length ≤ 1024) (hc : KeyVal cs I O) (hk : RW w) :
    Calls Tryd.prog 16 #[.agg cs.toArray, .string msg] w fun e w' => e = .returned (.string ⟨(Sha.digest (O ++ Sha.digest (I ++ msg.data.toList))).toArray⟩) ∧ Below w.heap.size w w' := by
  have HC := hide hc
  have HK := hide hk
  clear hc hk
  obtain ⟨D, hD⟩ : ∃ D, (Sha.digest (O ++ Sha.digest (I ++ msg.data.toList))).toArray = D := ⟨_, rfl⟩
  rw [hD]
  have HD := hide hD
  clear hD
  go_enter Tryd.func16, Tryd.ntmps16
  go_wp2_with fail
  have hh := HC.out.of (range_new_at w cs.toArray 43 w.heap.size cs rfl rfl) (there_new_at w cs.toArray 43 w.heap.size 146 rfl (by rw [List.size_toArray, HC.out.length]))
  have b0 : Below w.heap.size w (w.alloc (.cells cs.toArray 43)) := (Below.refl _ _).alloc (Nat.le_refl _) _
  have HNE : Hid (w.heap.size ≠ 5) := fun h => by have := HK.out.lt; omega
  have HH := hide hh
  have HB0 := hide b0
  have HK0 := hide (HK.out.below b0 HK.out.lt)
  clear hh b0
  refine (add_any w.heap.size 0 I msg _ (by omega) HH.out.1 HK0.out HNE.out).mono ?_
  rintro e w1 ⟨rfl, h1, k1⟩
  have HO1 := hide (HH.out.2.kept k1 (Or.inr (Or.inr (by decide))))
  have HI1 := hide h1
  have HK1 := hide (HK0.out.kept k1 HNE.out)
  have HB1 : Hid (Below w.heap.size w w1) := HB0.out.trans (k1.Below (Nat.le_refl _) HB0.out.size)
  clear h1 k1 HH HB0 HK0
  go_wp2_with fail
  refine (sum_any w.heap.size 0 (I ++ msg.data.toList) w1 (by rw [List.length_append]; exact hI) HI1.out HK1.out).mono ?_
  rintro e w2 ⟨rfl, hb2⟩
  have HO2 := hide (HO1.out.below hb2)
  have HK2 := hide (HK1.out.below hb2 HK1.out.lt)
  have HB2 : Hid (Below w.heap.size w w2) := HB1.out.trans (hb2.mono HB1.out.size)
  have hdl : (Sha.digest (I ++ msg.data.toList)).length = 32 := digest_length _
  clear hb2 HI1 HB1 HK1 HO1
  obtain ⟨E, hE⟩ : ∃ E, Sha.digest (I ++ msg.data.toList) = E := ⟨_, rfl⟩
  rw [hE] at hdl HD
  rw [hE]
  clear hE
  go_wp2_with fail
  refine (add_any w.heap.size 73 O ⟨E.toArray⟩ w2 (by have : (⟨E.toArray⟩ : ByteArray).size = E.length := by simp [ByteArray.size]
                                                      omega) HO2.out HK2.out HNE.out).mono ?_
  rintro e w3 ⟨rfl, h3, k3⟩
  have HO3 := hide h3
  have HK3 := hide (HK2.out.kept k3 HNE.out)
  have HB3 : Hid (Below w.heap.size w w3) := HB2.out.trans (k3.Below (Nat.le_refl _) HB2.out.size)
  clear h3 k3 HO2 HK2 HB2
  go_wp2_with fail
  refine (sum_any w.heap.size 73 (O ++ E) w3 (by rw [List.length_append]; omega) HO3.out HK3.out).mono ?_
  rintro e w4 ⟨rfl, hb4⟩
  rw [HD.out]
  have HB4 : Hid (Below w.heap.size w w4) := HB3.out.trans (hb4.mono HB3.out.size)
  clear hb4
  go_wp2_with fail
  go_ret
  exact ⟨rfl, HB4.out⟩
end Go.Proofs.YtkmhhodapnlkiaaDoor.shaw
