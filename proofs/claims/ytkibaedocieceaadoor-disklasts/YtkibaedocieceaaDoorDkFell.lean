import Derived.Test.YtkibaedocieceaaDoorDkHeld
namespace Go.Proofs.YtkibaedocieceaaDoor.dk
open Go.ChangeShapes Go.WideShapes Go.ChangeAt Go.RowKit Go.Proofs.YtkibaedocieceaaDoor.common

/-- a disk and what is held of it -/
structure Jt (base : Nat) (W0 w : World) (e : Nat → Addr) (p h : Nat) (F H : List Nat) (x : St) (good all : List UInt8) (ar : Int) (j : Nat) : Prop where
  run : Run base w e p F x j
  held : Hd base w h H good all ar
  ap : ∀ q ∈ F, q ∉ H
  hlow : ∀ q ∈ H, base ≤ q
  low : Below base W0 w
theorem Jt.keep {base : Nat} {W0 w w' : World} {e : Nat → Addr} {p h : Nat} {F H : List Nat} {x : St} {good all : List UInt8} {ar : Int} {j : Nat} (t : Jt base W0 w e p h F H x good all ar j) (hb : Below w.heap.size w w') (hs : base ≤ w.heap.size) : Jt base W0 w' e p h F H x good all ar j :=
  ⟨t.run.keep hb, t.held.below hb, t.ap, t.hlow, t.low.trans (hb.mono hs)⟩
/-- something happens to the disk -/
theorem Jt.disk {base : Nat} {W0 w w' : World} {e : Nat → Addr} {p h : Nat} {F F' H : List Nat} {x y : St} {good all : List UInt8} {ar : Int} {j j' : Nat} (t : Jt base W0 w e p h F H x good all ar j) (hs : base ≤ w.heap.size) (hR : Run base w' e p F' y j') (hf : Fr F w w') (hsub : ∀ k ∈ F', k ∈ F ∨ w.heap.size ≤ k) : Jt base W0 w' e p h F' H y good all ar j' :=
  ⟨hR, t.held.keep (fun k hk => hf.block k (t.held.lt k hk) (fun hm => t.ap k hm hk)), fun q hq hm => by
    rcases hsub q hq with h1 | h1
    · exact t.ap q h1 hm
    · have := t.held.lt q hm; omega, t.hlow, t.low.trans (hf.below t.run.low hs)⟩
/-- what is held is set anew -/
theorem Jt.set0 {base : Nat} {W0 w w1 : World} {e : Nat → Addr} {p h : Nat} {F H : List Nat} {x : St} {good all g2 : List UInt8} {ar : Int} {j : Nat} (t : Jt base W0 w e p h F H x good all ar j) (hs : base ≤ w.heap.size) (hb : Below w.heap.size w w1) (v : Value) (ho : w1.ownsRow w.heap.size 5 1 v g2.length (g2.map B)) : ∃ H', Jt base W0 (w1.setCell ⟨h, 0, none⟩ v) e p h F H' x g2 all ar j := by
  have t1 := t.keep hb hs
  obtain ⟨vG, vA, h1, h2, h3, h4, rfl⟩ := t1.held.ex
  have hlt := t.held.lt
  have ho' := own_lt ho
  have hnh : ∀ g, v.ownBlock = some g → g ≠ h := fun g hg e1 => by
    have := (ho' g hg).1
    have := hlt h (by simp)
    omega
  have hnA : ∀ g, vA.ownBlock = some g → g ≠ h := fun g hg e1 => by
    obtain ⟨_, _, cur, hc⟩ := own_lt h3 g hg
    rw [e1, h1] at hc
    simp at hc
  have hhF : h ∉ F := fun hm => t.ap h hm (by simp)
  refine ⟨h :: (v.ownBlock.toList ++ vA.ownBlock.toList), ⟨⟨t1.run.disk.keep (fun k hk => set_other _ _ _ _ (fun e1 => hhF (by rw [show k = h from e1] at hk; exact hk))), t1.run.low, t1.run.err.fr (F := [h]) ((Fr.refl _ _).set _ _ (Or.inl (by simp))) (fun k hk => by rw [List.mem_singleton.1 hk]; exact t.hlow h (by simp)), t1.run.fine, t1.run.arms⟩, ⟨v, vA, set_of h1 0 v, ?_, own_keep h3 (fun g hg => set_other _ _ _ _ (hnA g hg)), fun g hg hg2 => ?_, rfl⟩, fun q hq hm => ?_, fun q hq => ?_, t1.low.trans (Below.setCell (Below.refl _ _) (p := ⟨h, 0, none⟩) (t.hlow h (by simp)) v)⟩⟩
  · have := own_keep ho (w' := w1.setCell ⟨h, 0, none⟩ v) (fun g hg => set_other _ _ _ _ (hnh g hg))
    refine ⟨this.1, ?_⟩
    rcases this.2 with h5 | ⟨g, cap, cur, h5, h6, h7⟩
    · exact Or.inl h5
    · exact Or.inr ⟨g, cap, cur, h5, by omega, h7⟩
  · have h5 := (ho' g hg2).1
    have h6 := hlt g (by simp [hg])
    omega
  · rcases List.mem_cons.1 hm with rfl | hm
    · exact hhF hq
    · rcases List.mem_append.1 hm with hm | hm
      · have h5 := (ho' q (by simpa using hm)).1
        have h6 := t.run.disk.lt q hq
        omega
      · exact t.ap q hq (by simp at hm; simp [hm])
  · rcases List.mem_cons.1 hq with rfl | hq
    · exact t.hlow _ (by simp)
    · rcases List.mem_append.1 hq with hq | hq
      · exact Nat.le_trans hs (ho' q (by simpa using hq)).1
      · exact t.hlow q (by simp at hq; simp [hq])
theorem Jt.set1 {base : Nat} {W0 w w1 : World} {e : Nat → Addr} {p h : Nat} {F H : List Nat} {x : St} {good all g2 : List UInt8} {ar : Int} {j : Nat} (t : Jt base W0 w e p h F H x good all ar j) (hs : base ≤ w.heap.size) (hb : Below w.heap.size w w1) (v : Value) (ho : w1.ownsRow w.heap.size 5 1 v g2.length (g2.map B)) : ∃ H', Jt base W0 (w1.setCell ⟨h, 1, none⟩ v) e p h F H' x good g2 ar j := by
  have t1 := t.keep hb hs
  obtain ⟨vG, vA, h1, h2, h3, h4, rfl⟩ := t1.held.ex
  have hlt := t.held.lt
  have ho' := own_lt ho
  have hnh : ∀ g, v.ownBlock = some g → g ≠ h := fun g hg e1 => by
    have := (ho' g hg).1
    have := hlt h (by simp)
    omega
  have hnG : ∀ g, vG.ownBlock = some g → g ≠ h := fun g hg e1 => by
    obtain ⟨_, _, cur, hc⟩ := own_lt h2 g hg
    rw [e1, h1] at hc
    simp at hc
  have hhF : h ∉ F := fun hm => t.ap h hm (by simp)
  refine ⟨h :: (vG.ownBlock.toList ++ v.ownBlock.toList), ⟨⟨t1.run.disk.keep (fun k hk => set_other _ _ _ _ (fun e1 => hhF (by rw [show k = h from e1] at hk; exact hk))), t1.run.low, t1.run.err.fr (F := [h]) ((Fr.refl _ _).set _ _ (Or.inl (by simp))) (fun k hk => by rw [List.mem_singleton.1 hk]; exact t.hlow h (by simp)), t1.run.fine, t1.run.arms⟩, ⟨vG, v, set_of h1 1 v, own_keep h2 (fun g hg => set_other _ _ _ _ (hnG g hg)), ?_, fun g hg hg2 => ?_, rfl⟩, fun q hq hm => ?_, fun q hq => ?_, t1.low.trans (Below.setCell (Below.refl _ _) (p := ⟨h, 1, none⟩) (t.hlow h (by simp)) v)⟩⟩
  · have := own_keep ho (w' := w1.setCell ⟨h, 1, none⟩ v) (fun g hg => set_other _ _ _ _ (hnh g hg))
    refine ⟨this.1, ?_⟩
    rcases this.2 with h5 | ⟨g, cap, cur, h5, h6, h7⟩
    · exact Or.inl h5
    · exact Or.inr ⟨g, cap, cur, h5, by omega, h7⟩
  · have h5 := (ho' g hg).1
    have h6 := hlt g (by simp [hg2])
    omega
  · rcases List.mem_cons.1 hm with rfl | hm
    · exact hhF hq
    · rcases List.mem_append.1 hm with hm | hm
      · exact t.ap q hq (by simp at hm; simp [hm])
      · have h5 := (ho' q (by simpa using hm)).1
        have h6 := t.run.disk.lt q hq
        omega
  · rcases List.mem_cons.1 hq with rfl | hq
    · exact t.hlow _ (by simp)
    · rcases List.mem_append.1 hq with hq | hq
      · exact t.hlow q (by simp at hq; simp [hq])
      · exact Nat.le_trans hs (ho' q (by simpa using hq)).1

set_option maxRecDepth 100000 in
set_option maxHeartbeats 3200000 in
theorem fell_any (base : Nat) (W0 w : World) (e : Nat → Addr) (p h : Nat) (F H : List Nat) (x : St) (good all : List UInt8) (ar : Int) (j : Nat) (t : Jt base W0 w e p h F H x good all ar j) (hs : base ≤ w.heap.size) (hj : (j + 1) * 16 ≤ 140737488355328) (more : ByteArray) (hll : all.length ≤ 140737488355328) (hal : all.length + more.size ≤ 140738562097152)
    (hg1 : good.length ≤ x.b.length) (hg2 : good = x.b.take good.length) (hx1 : x.b.length ≤ (all ++ more.data.toList).length) (hx2 : x.b = (all ++ more.data.toList).take x.b.length) :
    Calls Tryd.prog 39 #[ptr h, ptr p, .string more] w fun r' w' => r' = .returned (.bool true) ∧ ∃ F' H', Jt base W0 w' e p h F' H' x x.b x.b ar j := by
  obtain ⟨vG, vA, q1, q2, q3, q4, hH⟩ := t.held.ex
  obtain ⟨oA, cA, hvA, _⟩ := own_form q3
  subst hvA
  have HT := hide t
  have HRA := hide (rd_own q3)
  have a1 : w.cell? ⟨h, 1, none⟩ = some (.slice oA all.length cA) := cell_of q1 1
  have HG2 := hide hg2
  have HX2 := hide hx2
  have HLL : Hid ((all ++ more.data.toList).length ≤ 4611686018427387904) := by
    show _ ≤ _
    have h1 : more.data.toList.length = more.size := by rw [Array.length_toList]; rfl
    rw [List.length_append, h1]
    omega
  clear q1 q2 q3 q4 hH t hg2 hx2
  go_enter Tryd.func39, Tryd.ntmps39
  go_wp2_with fail
  refine (copy_any w _ all HRA.out (by omega)).mono ?_
  rintro r' w1 ⟨v1, rfl, o1, b1⟩
  have hlt1 : w.heap.size ≤ w1.heap.size := b1.size
  obtain ⟨v2, W2, hrun, o2, f2, hv2⟩ := append_text w1 w.heap.size v1 all o1 more hal hlt1
  have b2 : Below w.heap.size w W2 := b1.trans (f2.below (fun k hk => (own_lt o1 k (by simpa using hk)).1) hlt1)
  have HT2 := hide (HT.out.keep b2 hs)
  have HR2 := hide (rd_own o2)
  have HO2 := hide (own_lt o2)
  obtain ⟨oa1, ca1, hv1, _⟩ := own_form o1
  subst hv1
  obtain ⟨oa2, ca2, hv2', hc2⟩ := own_form o2
  subst hv2'
  have hz2 : base ≤ W2.heap.size := Nat.le_trans hs b2.size
  have HFL : Hid (∀ q ∈ F, q < w.heap.size) := HT.out.run.disk.lt
  clear b1 o1 f2 b2 hv2 o2 HT HRA a1
  go_wp2_with (at_builtin; refine wpList_append_run rfl _ _ 28 9 rfl _ _ rfl rfl _ _ hrun ?_)
  clear hrun
  refine (lookS_any W2).mono ?_
  rintro r' w3 ⟨rfl, b3⟩
  have HT3 := hide (HT2.out.keep b3 hz2)
  have HR3 := hide (HR2.out.below b3)
  have hz3 : W2.heap.size ≤ w3.heap.size := b3.size
  have HLT := hide HT2.out.run.disk.lt
  clear b3
  go_wp2_with fail
  refine (HT3.out.run.look hj).mono ?_
  rintro r' w4 ⟨v4, F4, rfl, hA4, hR4, hf4, hs4⟩
  have hT4 := HT3.out.disk (by omega) hR4 hf4 hs4
  have hR34 : Rd w4 (.slice oa2 (all ++ more.data.toList).length ca2) (all ++ more.data.toList) := HR3.out.fr hf4 (fun a n c hv hm => by
    have h1 := (HO2.out a.block (by cases hv; rfl)).1
    have h2 := HLT.out _ hm
    have h3 := HFL.out _ hm
    omega) (fun a n c hv => Nat.lt_of_lt_of_le (HO2.out a.block (by cases hv; rfl)).2.1 hz3)
  have HRN := hide hA4.rd
  obtain ⟨o4, c4, hv4, hc4⟩ : ∃ o c, v4 = .slice o x.b.length c ∧ x.b.length ≤ c := by
    rcases hA4 with ⟨e1, e2⟩ | ⟨g, e1, _⟩
    · exact ⟨none, 0, by rw [e1, e2]; rfl, by rw [e2]; exact Nat.le_refl _⟩
    · exact ⟨_, _, e1, Nat.le_refl _⟩
  subst hv4
  obtain ⟨X, hX⟩ : ∃ X, X = w4.alloc (.cells #[.slice o4 x.b.length c4, .int .i64 (x.s : Int), .int .i64 0] 31) := ⟨_, rfl⟩
  have BX : Below w4.heap.size w4 X := by rw [hX]; exact (Below.refl _ _).alloc (Nat.le_refl _) _
  have HGX : Hid (X.heap[w4.heap.size]? = some (.cells #[.slice o4 x.b.length c4, .int .i64 (x.s : Int), .int .i64 0] 31)) := by rw [hX]; exact heap_alloc_new _ _
  have HTX := hide (hT4.keep BX (by have := hT4.run.err.size; omega))
  have HRL := hide (hR34.below BX)
  have HRNX := hide (HRN.out.below BX)
  have HX := hide hX
  have hzX : w4.heap.size < X.heap.size := (Array.getElem?_eq_some_iff.1 HGX.out).1
  have HNO : Hid (∀ a n c, Value.slice o4 x.b.length c4 = .slice (some a) n c → a.block ≠ h) := fun a n c hv e1 => by
    rcases hA4 with ⟨e2, _⟩ | ⟨g, e2, e3, _⟩
    · rw [hv] at e2; cases e2
    · rw [hv] at e2; cases e2
      have := HT3.out.held.lt h (by obtain ⟨_, _, _, _, _, _, e5⟩ := HT3.out.held.ex; rw [e5]; simp)
      have e6 : g = h := e1
      omega
  clear hA4 hR4 hf4 hs4 hT4 hR34 BX hX HRN HT3 HR3 HT2 HR2 HO2 HLT HFL
  obtain ⟨uG, uA, u1, u2, u3, u4, hH⟩ := HTX.out.held.ex
  have hhX := (Array.getElem?_eq_some_iff.1 u1).1
  obtain ⟨oG, cG, hvG, _⟩ := own_form u2
  subst hvG
  have HRG := hide (rd_own u2)
  have HU1 := hide u1
  have k0 : ∀ Z, Below X.heap.size X Z → Z.cell? ⟨w4.heap.size, 0, none⟩ = some (.slice o4 x.b.length c4) := fun Z hZ => cell_of ((hZ.block _ hzX).trans HGX.out) 0
  have k1 : ∀ Z, Below X.heap.size X Z → Z.cell? ⟨h, 0, none⟩ = some (.slice oG good.length cG) := fun Z hZ => cell_of ((hZ.block _ hhX).trans HU1.out) 0
  have hxm : x.b.length ≤ 4611686018427387904 := by have := HTX.out.run.fine.ok.most; omega
  clear u1 u2 u3 u4 hH
  have HSA : Hid (∀ Z, Below X.heap.size X Z → Calls Tryd.prog 26 #[.slice o4 x.b.length c4, .slice oG good.length cG] Z fun r' w' => r' = .returned (.bool true) ∧ Below Z.heap.size Z w') := fun Z hZ => starts_eq Z _ _ _ _ _ (HRNX.out.below hZ) (HRG.out.below hZ) hc4 hg1 HG2.out hxm
  have HSB : Hid (∀ Z, Below X.heap.size X Z → Calls Tryd.prog 26 #[.slice oa2 (all.length + more.size) ca2, .slice o4 x.b.length c4] Z fun r' w' => r' = .returned (.bool true) ∧ Below Z.heap.size Z w') := fun Z hZ => by
    have hLA : (all ++ more.data.toList).length = all.length + more.size := by rw [List.length_append]; rfl
    rw [← hLA]
    exact starts_eq Z _ _ _ _ _ (HRL.out.below hZ) (HRNX.out.below hZ) hc2 hx1 HX2.out HLL.out
  go_wp2_with fail
  rw [← HX.out]
  go_region_held3 (fun Z => Below X.heap.size X Z)
    (first
      | exact Below.refl _ _
      | assumption
      | exact keepD (by assumption) (by assumption)
      | exact Below.drew (by assumption)
      | exact (Below.refl _ _).drew)
    (first
      | (go_at_call 26; with_reducible refine (HSA.out _ (by assumption)).mono ?_; rintro x' w5 ⟨rfl, b5⟩)
      | (go_at_call 26; with_reducible refine (HSB.out _ (by assumption)).mono ?_; rintro x' w6 ⟨rfl, b6⟩))
  have HB6 : Hid (Below X.heap.size X w6) := by assumption
  have hzb : base ≤ X.heap.size := HTX.out.run.err.size
  have HT6 := hide (HTX.out.keep HB6.out hzb)
  have hz6 : X.heap.size ≤ w6.heap.size := HB6.out.size
  have m0 : w6.cell? ⟨w4.heap.size, 0, none⟩ = some (.slice o4 x.b.length c4) := k0 w6 HB6.out
  have HRN6 := hide (HRNX.out.below HB6.out)
  have HG6 := hide ((HB6.out.block _ hzX).trans HGX.out)
  have hxc : x.b.length ≤ 140737488355328 := HTX.out.run.fine.ok.most
  have HNH : Hid (w4.heap.size ≠ h) := fun e1 => by
    have := HU1.out
    rw [← e1, HGX.out] at this
    simp at this
  clear b5 b6 k0 k1 HSA HSB HTX HRL HRNX HRG HGX HU1 HB6
  go_wp2_with fail
  refine (copy_any w6 _ x.b HRN6.out hxc).mono ?_
  rintro r' w7 ⟨v7, rfl, o7, b7⟩
  obtain ⟨H7, hT7⟩ := HT6.out.set0 (by omega) b7 v7 o7
  obtain ⟨oo7, cc7, hv7, _⟩ := own_form o7
  subst hv7
  have hh7 := (HT6.out.held.below b7).ex
  obtain ⟨tG, tA, y1, _⟩ := hh7
  have n0 : w7.cell? ⟨h, 0, none⟩ = some tG := cell_of y1 0
  have nf : w7.frozen? ⟨h, 0, none⟩ = false := free_of y1 0
  have hg7 := (b7.block _ (by omega : w4.heap.size < w6.heap.size)).trans HG6.out
  have hg8 : (w7.setCell ⟨h, 0, none⟩ (.slice oo7 x.b.length cc7)).heap[w4.heap.size]? = some (.cells #[.slice o4 x.b.length c4, .int .i64 (x.s : Int), .int .i64 0] 31) := (set_other _ _ _ _ HNH.out).trans hg7
  have n4 : (w7.setCell ⟨h, 0, none⟩ (.slice oo7 x.b.length cc7)).cell? ⟨w4.heap.size, 0, none⟩ = some (.slice o4 x.b.length c4) := cell_of hg8 0
  have HRN8 : Hid (Rd (w7.setCell ⟨h, 0, none⟩ (.slice oo7 x.b.length cc7)) (.slice o4 x.b.length c4) x.b) := by
    refine (HRN6.out.below b7).keep (fun oa n cap hv => ?_) (by rw [size_set]; exact Nat.le_refl _)
    cases hv
    refine set_other _ _ _ _ (fun e1 => ?_)
    exact HNO.out _ _ _ rfl e1
  have HT7 := hide hT7
  have hz7 : base ≤ w7.heap.size := by have := b7.size; omega
  clear o7 b7 hT7 y1 hg7 hg8 HT6 HRN6 HG6 m0
  go_wp2_with fail
  refine (copy_any (w7.setCell ⟨h, 0, none⟩ (.slice oo7 x.b.length cc7)) _ x.b HRN8.out hxc).mono ?_
  rintro r' w9 ⟨v9, rfl, o9, b9⟩
  obtain ⟨H9, hT9⟩ := HT7.out.set1 (by rw [size_set]; exact hz7) b9 v9 o9
  obtain ⟨oo9, cc9, hv9, _⟩ := own_form o9
  subst hv9
  obtain ⟨sG, sA, y9, _⟩ := (HT7.out.held.below b9).ex
  have l0 : w9.cell? ⟨h, 1, none⟩ = some sA := cell_of y9 1
  have lf : w9.frozen? ⟨h, 1, none⟩ = false := free_of y9 1
  have HT9 := hide hT9
  clear o9 b9 hT9 y9 HT7 HRN8 n0 nf n4
  go_wp2
  go_ret
  exact ⟨rfl, _, H9, HT9.out⟩
end Go.Proofs.YtkibaedocieceaaDoor.dk
