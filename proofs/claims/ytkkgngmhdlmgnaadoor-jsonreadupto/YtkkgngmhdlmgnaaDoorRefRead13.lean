import Derived.Test.YtkkgngmhdlmgnaaDoorRefRead12
namespace Go.Proofs.YtkkgngmhdlmgnaaDoor.jw
open Go.ChangeShapes Go.WideShapes Go.ChangeAt Go.RowKit Go.Proofs.YtkkgngmhdlmgnaaDoor.common
attribute [local go_sem ↓] Go.wp_at_zero Go.wp_at_succ

/-- a place in s where r is left, or -1 -/
def PlI (s : ByteArray) (o : Option (List UInt8)) (I : Int) : Prop :=
  (o = none ∧ I = -1) ∨ ∃ (r : List UInt8) (b : Nat), o = some r ∧ b ≤ s.size ∧ I = (b : Int) ∧ s.data.toList.drop b = r
theorem PlI.at {s : ByteArray} {a : Nat} (h : a ≤ s.size) : PlI s (some (s.data.toList.drop a)) (a : Int) := Or.inr ⟨_, a, rfl, h, rfl, rfl⟩
theorem QPl.split {s : ByteArray} {o : Option (List UInt8 × List UInt8)} {v : Value} (h : QPl s o v) : ∃ (N : ByteArray) (I : Int), v = .tuple #[.string N, .int .i64 I] ∧ PlI s (o.map (·.2)) I ∧ ∀ t r, o = some (t, r) → N.data.toList = t := by
  rcases h with ⟨rfl, rfl⟩ | ⟨t, r, b, rfl, hb, rfl, hd⟩
  · exact ⟨_, _, rfl, Or.inl ⟨rfl, rfl⟩, fun _ _ h => by cases h⟩
  · exact ⟨_, _, rfl, Or.inr ⟨r, b, rfl, hb, rfl, hd⟩, fun _ _ h => by injection h with h; injection h⟩

theorem mark_at (s : ByteArray) (o : Option (List UInt8)) (c : UInt8) (w : World) (hs : s.size < 9223372036854775800) (I J : Int) (hI : PlI s o I) (hJ : J = (c.toNat : Int)) :
    Calls Tryd.prog 20 #[.string s, .int .i64 I, .int .u8 J] w fun x w' => (∃ I', x = .returned (.int .i64 I') ∧ PlI s (o.bind fun r => Json.part c (Json.blanks r)) I') ∧ w' = w := by
  rcases hI with ⟨rfl, rfl⟩ | ⟨r, b, rfl, hb, rfl, rfl⟩
  · refine (refMark_none s _ w).mono ?_
    rintro x w' ⟨rfl, rfl⟩
    exact ⟨⟨_, rfl, Or.inl ⟨rfl, rfl⟩⟩, rfl⟩
  · refine (refMark_any s b c w hb hs _ J rfl hJ).mono ?_
    rintro x w' ⟨⟨v, rfl, hv⟩, rfl⟩
    rcases hv with ⟨h1, rfl⟩ | ⟨r', b', h1, hb', rfl, hd⟩
    · exact ⟨⟨_, rfl, Or.inl ⟨h1, rfl⟩⟩, rfl⟩
    · exact ⟨⟨_, rfl, Or.inr ⟨r', b', h1, hb', rfl, hd⟩⟩, rfl⟩
theorem value_at (s n : ByteArray) (o : Option (List UInt8)) (w : World) (hs : s.size ≤ 140737488351232) (I : Int) (hI : PlI s o I) :
    Calls Tryd.prog 52 #[.string s, .int .i64 I, .agg #[.string n, .int .i64 0, .string ⟨#[]⟩, .int .i64 0, .bool false]] w fun x w' => (∃ (N T : ByteArray) (k q : Int) (f : Bool) (I' : Int), x = .returned (.tuple #[.agg #[.string N, .int .i64 k, .string T, .int .i64 q, .bool f], .int .i64 I']) ∧ PlI s ((o.bind Json.valueR).map (·.2)) I' ∧ ∀ m r, o.bind Json.valueR = some (m, r) → ({ m with name := n.data.toList } : Mem) = ⟨N.data.toList, k, T.data.toList, q, f⟩) ∧ Below w.heap.size w w' := by
  rcases hI with ⟨rfl, rfl⟩ | ⟨r, b, rfl, hb, rfl, rfl⟩
  · refine (refValue_none s n w).mono ?_
    rintro x w' ⟨rfl, hb⟩
    exact ⟨⟨_, _, _, _, _, _, rfl, Or.inl ⟨rfl, rfl⟩, fun _ _ h => by cases h⟩, hb⟩
  · refine (refValue_any s n b w hs hb _ rfl).mono ?_
    rintro x w' ⟨⟨v, rfl, hv⟩, hbl⟩
    refine ⟨?_, hbl⟩
    show ∃ N T k q f I', Ending.returned v = _ ∧ PlI s ((Json.valueR (s.data.toList.drop b)).map (·.2)) I' ∧ ∀ m r, Json.valueR (s.data.toList.drop b) = some (m, r) → _
    cases hx : Json.valueR (s.data.toList.drop b) with
    | none =>
      rw [hx] at hv
      rcases hv with ⟨_, m, rfl⟩ | ⟨m, r, c, h, _⟩
      · exact ⟨_, _, _, _, _, _, rfl, Or.inl ⟨rfl, rfl⟩, fun _ _ h => by cases h⟩
      · cases h
    | some p =>
      obtain ⟨m0, r0⟩ := p
      rw [hx] at hv
      rcases hv with ⟨h, _⟩ | ⟨m, r, c, h, hc, rfl, hd⟩
      · cases h
      · injection h with h
        injection h with h1 h2
        subst h1 h2
        refine ⟨_, _, _, _, _, _, rfl, Or.inr ⟨_, c, rfl, hc, rfl, hd⟩, fun m r h => ?_⟩
        injection h with h
        injection h with h1 h2
        subst h1
        rfl
theorem blanks_exact (s : ByteArray) (a : Nat) (w : World) (ha : a ≤ s.size) (hs : s.size < 9223372036854775800) (I : Int) (hI : I = (a : Int)) (c : Nat) (hc : c = s.size - (Json.blanks (s.data.toList.drop a)).length) :
    Calls Tryd.prog 38 #[.string s, .int .i64 I] w fun x w' => x = .returned (.int .i64 (c : Int)) ∧ w' = w := by
  refine (refBlanks_any s a w ha hs I hI).mono ?_
  rintro x w' ⟨b, rfl, h1, h2, h3, rfl⟩
  have hl := congrArg List.length h3
  rw [List.length_drop, len_list] at hl
  obtain rfl : c = b := by omega
  exact ⟨rfl, rfl⟩
theorem blanks_place (s : ByteArray) (a c : Nat) (hc : c = s.size - (Json.blanks (s.data.toList.drop a)).length) : c ≤ s.size ∧ s.data.toList.drop c = Json.blanks (s.data.toList.drop a) := by
  refine ⟨by omega, ?_⟩
  have hsuf : Json.blanks (s.data.toList.drop a) <:+ s.data.toList := (List.dropWhile_suffix _).trans (List.drop_suffix _ _)
  have := List.suffix_iff_eq_drop.1 hsuf
  rw [len_list] at this
  rw [hc]; exact this.symm
/-- both blocks stored -/
theorem set_ten {w : World} {b : Nat} {u0 u1 u2 u3 u4 : Value} {t : TypeId} (h : w.heap[b]? = some (.cells #[u0, u1, u2, u3, u4] t (0, 0))) (y0 y1 y2 y3 y4 : Value) :
    (((((w.setCell ⟨b + 1, 0, none⟩ y0).setCell ⟨b + 1, 1, none⟩ y1).setCell ⟨b + 1, 2, none⟩ y2).setCell ⟨b + 1, 3, none⟩ y3).setCell ⟨b + 1, 4, none⟩ y4).heap[b]? = some (.cells #[u0, u1, u2, u3, u4] t (0, 0)) := by
  rw [other_block (by omega), other_block (by omega), other_block (by omega), other_block (by omega), other_block (by omega)]; exact h
theorem below_five {w0 w : World} {b c : Nat} (hc : c ≤ b) (h : Below c w0 w) (x0 x1 x2 x3 x4 : Value) :
    Below c w0 (((((w.setCell ⟨b, 0, none⟩ x0).setCell ⟨b, 1, none⟩ x1).setCell ⟨b, 2, none⟩ x2).setCell ⟨b, 3, none⟩ x3).setCell ⟨b, 4, none⟩ x4) :=
  ((((h.setCell (p := ⟨b, 0, none⟩) hc _).setCell (p := ⟨b, 1, none⟩) hc _).setCell (p := ⟨b, 2, none⟩) hc _).setCell (p := ⟨b, 3, none⟩) hc _).setCell (p := ⟨b, 4, none⟩) hc _
theorem five_block {w : World} {B : Nat} {u0 u1 u2 u3 u4 : Value} {t : TypeId} (h : w.heap[B]? = some (.cells #[u0, u1, u2, u3, u4] t (0, 0))) (x0 x1 x2 x3 x4 : Value) :
    (((((w.setCell ⟨B, 0, none⟩ x0).setCell ⟨B, 1, none⟩ x1).setCell ⟨B, 2, none⟩ x2).setCell ⟨B, 3, none⟩ x3).setCell ⟨B, 4, none⟩ x4).heap[B]? = some (.cells #[x0, x1, x2, x3, x4] t (0, 0)) :=
  set_block (set_block (set_block (set_block (set_block h 0 x0) 1 x1) 2 x2) 3 x3) 4 x4
theorem range_drew {w : World} {b o : Nat} {cs : List Value} (h : w.rangeAt b o cs) : w.drew.rangeAt b o cs := fun j u hu => h j u hu
/-- the member in parts -/
theorem member_parts (l : List UInt8) (oq : Option (List UInt8 × List UInt8)) (hq : Json.quoted l = oq) (o3 : Option (Mem × List UInt8)) (h3 : ((oq.map (·.2)).bind fun r => Json.part 58 (Json.blanks r)).bind Json.valueR = o3) :
    (o3 = none → Json.memberR l = none) ∧ ∀ m r, o3 = some (m, r) → ∃ t r0, oq = some (t, r0) ∧ Json.memberR l = some ({ m with name := t }, Json.blanks r) := by
  unfold Json.memberR
  rw [hq]
  cases oq with
  | none =>
    subst h3
    exact ⟨fun _ => rfl, fun _ _ h => by cases h⟩
  | some x =>
    obtain ⟨t, r0⟩ := x
    simp only [Option.map_some, Option.bind_some] at h3
    cases hp : Json.part 58 (Json.blanks r0) with
    | none =>
      rw [hp] at h3
      subst h3
      exact ⟨fun _ => by simp [hp], fun _ _ h => by cases h⟩
    | some r1 =>
      rw [hp] at h3
      simp only [Option.bind_some] at h3
      subst h3
      refine ⟨fun h => by simp [hp, h], fun m r h => ⟨t, r0, rfl, by simp [hp, h]⟩⟩

set_option maxRecDepth 100000 in
set_option maxHeartbeats 1600000 in
theorem refMember_any (s : ByteArray) (a : Nat) (w : World) (hs : s.size ≤ 140737488351232) (ha : a ≤ s.size) (I : Int) (hI : I = (a : Int)) :
    Calls Tryd.prog 39 #[.string s, .int .i64 I] w fun x w' => (∃ v, x = .returned v ∧ VPl s (Json.memberR (s.data.toList.drop a)) v) ∧ Below w.heap.size w w' := by
  have HI := hide hI
  have HS := hide hs
  obtain ⟨O, hO⟩ : ∃ O, Json.memberR (s.data.toList.drop a) = O := ⟨_, rfl⟩
  obtain ⟨OQ, hOQ⟩ : ∃ O, Json.quoted (s.data.toList.drop a) = O := ⟨_, rfl⟩
  have HQ := hide (fun W => refQText_any s a W hs ha I HI.out)
  have HP := hide (fun o3 => member_parts (s.data.toList.drop a) OQ hOQ o3)
  rw [hO] at HP
  rw [hOQ] at HQ
  rw [hO]
  clear hO hI hOQ
  go_enter Tryd.func39, Tryd.ntmps39
  go_wp2_with fail
  obtain ⟨hB0, hB1, hBl, hBs⟩ := two_blocks w #[.string ⟨#[]⟩, .int .i64 0, .string ⟨#[]⟩, .int .i64 0, .bool false] #[.string ⟨#[]⟩, .int .i64 0, .string ⟨#[]⟩, .int .i64 0, .bool false] 37
  generalize (w.alloc (.cells #[.string ⟨#[]⟩, .int .i64 0, .string ⟨#[]⟩, .int .i64 0, .bool false] 37)).alloc (.cells #[.string ⟨#[]⟩, .int .i64 0, .string ⟨#[]⟩, .int .i64 0, .bool false] 37) = W at *
  refine (HQ.out W).mono ?_
  rintro x w2 ⟨⟨v1, rfl, hv1⟩, hb2⟩
  have h0 := (hb2.block w.heap.size (by omega)).trans hB0
  have h1 := (hb2.block (w.heap.size + 1) (by omega)).trans hB1
  have HB2 := hide (hBl.trans (hb2.mono (by omega)))
  clear hB0 hB1 hBl hBs hb2 HQ
  obtain ⟨N, I1, rfl, hp1, hN⟩ := hv1.split
  have HP1 := hide hp1
  have HN := hide hN
  clear hv1 hp1 hN
  have f1 := Lib.frozen_of_heap h1
  have d0 : w2.cell? ⟨w.heap.size + 1, 0, none⟩ = some (.string ⟨#[]⟩) := by rw [Lib.cell_of_heap h1]; rfl
  have d1 : w2.cell? ⟨w.heap.size + 1, 1, none⟩ = some (.int .i64 0) := by rw [Lib.cell_of_heap h1]; rfl
  have d2 : w2.cell? ⟨w.heap.size + 1, 2, none⟩ = some (.string ⟨#[]⟩) := by rw [Lib.cell_of_heap h1]; rfl
  have d3 : w2.cell? ⟨w.heap.size + 1, 3, none⟩ = some (.int .i64 0) := by rw [Lib.cell_of_heap h1]; rfl
  have d4 : w2.cell? ⟨w.heap.size + 1, 4, none⟩ = some (.bool false) := by rw [Lib.cell_of_heap h1]; rfl
  have H0 := hide h0
  have H1 := hide h1
  clear h0 h1
  go_wp2_with fail
  refine (mark_at s _ 58 _ (by have := HS.out; omega) I1 58 HP1.out rfl).mono ?_
  rintro x w3 ⟨⟨I2, rfl, hp2⟩, hw3⟩
  obtain rfl := hw3
  have HP2 := hide hp2
  clear hp2
  go_wp2_with fail
  refine (value_at s N _ _ HS.out I2 HP2.out).mono ?_
  rintro x w4 ⟨⟨N4, T4, k4, q4, g4, I4, rfl, hp4, hm4⟩, hb4⟩
  have e1 : (w2.setCell ⟨w.heap.size + 1, 0, none⟩ (.string N)).heap[w.heap.size + 1]? = some (.cells #[.string N, .int .i64 0, .string ⟨#[]⟩, .int .i64 0, .bool false] 37 (0, 0)) := set_block H1.out 0 _
  have e0 : (w2.setCell ⟨w.heap.size + 1, 0, none⟩ (.string N)).heap[w.heap.size]? = some (.cells #[.string ⟨#[]⟩, .int .i64 0, .string ⟨#[]⟩, .int .i64 0, .bool false] 37 (0, 0)) := by rw [other_block (by omega)]; exact H0.out
  have hlt : w.heap.size + 1 < (w2.setCell ⟨w.heap.size + 1, 0, none⟩ (.string N)).heap.size := (Array.getElem?_eq_some_iff.1 e1).1
  have h0 := (hb4.block w.heap.size (by omega)).trans e0
  have h1 := (hb4.block (w.heap.size + 1) hlt).trans e1
  have HB4 := hide ((HB2.out.setCell (p := ⟨w.heap.size + 1, 0, none⟩) (by show w.heap.size ≤ w.heap.size + 1; omega) (.string N)).trans (hb4.mono (by omega)))
  clear e0 e1 hlt hb4 d0 d1 d2 d3 d4 f1
  have HP4 := hide hp4
  have HM4 := hide hm4
  clear hp4 hm4
  have f0 := Lib.frozen_of_heap h0
  have f1 := Lib.frozen_of_heap h1
  have c0 : w4.cell? ⟨w.heap.size, 0, none⟩ = some (.string ⟨#[]⟩) := by rw [Lib.cell_of_heap h0]; rfl
  have c1 : w4.cell? ⟨w.heap.size, 1, none⟩ = some (.int .i64 0) := by rw [Lib.cell_of_heap h0]; rfl
  have c2 : w4.cell? ⟨w.heap.size, 2, none⟩ = some (.string ⟨#[]⟩) := by rw [Lib.cell_of_heap h0]; rfl
  have c3 : w4.cell? ⟨w.heap.size, 3, none⟩ = some (.int .i64 0) := by rw [Lib.cell_of_heap h0]; rfl
  have c4 : w4.cell? ⟨w.heap.size, 4, none⟩ = some (.bool false) := by rw [Lib.cell_of_heap h0]; rfl
  have d0 : w4.cell? ⟨w.heap.size + 1, 0, none⟩ = some (.string N) := by rw [Lib.cell_of_heap h1]; rfl
  have d1 : w4.cell? ⟨w.heap.size + 1, 1, none⟩ = some (.int .i64 0) := by rw [Lib.cell_of_heap h1]; rfl
  have d2 : w4.cell? ⟨w.heap.size + 1, 2, none⟩ = some (.string ⟨#[]⟩) := by rw [Lib.cell_of_heap h1]; rfl
  have d3 : w4.cell? ⟨w.heap.size + 1, 3, none⟩ = some (.int .i64 0) := by rw [Lib.cell_of_heap h1]; rfl
  have d4 : w4.cell? ⟨w.heap.size + 1, 4, none⟩ = some (.bool false) := by rw [Lib.cell_of_heap h1]; rfl
  have H0 := hide h0
  have H1 := hide h1
  clear h0 h1
  obtain ⟨O3, hO3⟩ : ∃ O3, ((OQ.map (·.2)).bind fun r => Json.part 58 (Json.blanks r)).bind Json.valueR = O3 := ⟨_, rfl⟩
  have HPP := hide (HP.out O3 hO3)
  rw [hO3] at HP4 HM4
  clear hO3 HP
  by_cases hneg : I4 < 0
  · have HX : Hid (O = none) := by
      rcases HP4.out with ⟨h, _⟩ | ⟨r, b, _, _, h, _⟩
      · refine HPP.out.1 ?_
        cases O3 with
        | none => rfl
        | some x => cases h
      · omega
    go_wp2_with fail
    refine bodyPost_ret (results_ct (b := w.heap.size) (o := 0) Tryd.results39 _ rfl (set_five (set_ten H0.out _ _ _ _ _) _ _ _ _ _) Tryd.underlying37 rfl sizeM rfl) rfl ⟨⟨_, rfl, Or.inl ⟨HX.out, ⟨N4.data.toList, k4, T4.data.toList, q4, g4⟩, rfl⟩⟩, below_five (Nat.le_refl _) (below_five (Nat.le_succ _) HB4.out _ _ _ _ _) _ _ _ _ _⟩
  · obtain ⟨b4, m3, r3, hb4, hI4, hO3, hdr⟩ : ∃ (b : Nat) (m : Mem) (r : List UInt8), b ≤ s.size ∧ I4 = (b : Int) ∧ O3 = some (m, r) ∧ s.data.toList.drop b = r := by
      rcases HP4.out with ⟨_, h⟩ | ⟨r, b, h, hb, hI, hd⟩
      · omega
      · cases O3 with
        | none => cases h
        | some x =>
          obtain ⟨m, r'⟩ := x
          injection h with h
          exact ⟨b, m, r', hb, hI, rfl, hd.trans h.symm⟩
    obtain ⟨cN, hc4⟩ : ∃ c, c = s.size - (Json.blanks (s.data.toList.drop b4)).length := ⟨_, rfl⟩
    have HBk := hide (fun W => blanks_exact s b4 W hb4 (by have := HS.out; omega) I4 hI4 cN hc4)
    have HPl := hide (blanks_place s b4 cN hc4)
    have HX : Hid (O = some (⟨N4.data.toList, k4, T4.data.toList, q4, g4⟩, Json.blanks r3)) := by
      show _ = _
      obtain ⟨t, r0, h1, h2⟩ := HPP.out.2 m3 r3 hO3
      have hm := HM4.out m3 r3 hO3
      rw [HN.out t r0 h1] at hm
      rw [h2, hm]
    have HDR := hide hdr
    clear hI4 hO3 hdr hc4 HP4 HM4 HPP
    have G0 := hide (set_ten H0.out (.string N4) (.int .i64 k4) (.string T4) (.int .i64 q4) (.bool g4))
    have G1 := hide (five_block H1.out (.string N4) (.int .i64 k4) (.string T4) (.int .i64 q4) (.bool g4))
    have HB5 := hide (below_five (Nat.le_succ _) HB4.out (.string N4) (.int .i64 k4) (.string T4) (.int .i64 q4) (.bool g4))
    go_wp2_with fail
    generalize ((((w4.setCell ⟨w.heap.size + 1, 0, none⟩ (.string N4)).setCell ⟨w.heap.size + 1, 1, none⟩ (.int .i64 k4)).setCell ⟨w.heap.size + 1, 2, none⟩ (.string T4)).setCell ⟨w.heap.size + 1, 3, none⟩ (.int .i64 q4)).setCell ⟨w.heap.size + 1, 4, none⟩ (.bool g4) = w5 at *
    clear c0 c1 c2 c3 c4 d0 d1 d2 d3 d4 f0 f1 H0 H1
    have h0 := G0.out
    have h1 := G1.out
    have f0 := Lib.frozen_of_heap h0
    have f1 := Lib.frozen_of_heap h1
    have c0 : w5.cell? ⟨w.heap.size, 0, none⟩ = some (.string ⟨#[]⟩) := by rw [Lib.cell_of_heap h0]; rfl
    have c1 : w5.cell? ⟨w.heap.size, 1, none⟩ = some (.int .i64 0) := by rw [Lib.cell_of_heap h0]; rfl
    have c2 : w5.cell? ⟨w.heap.size, 2, none⟩ = some (.string ⟨#[]⟩) := by rw [Lib.cell_of_heap h0]; rfl
    have c3 : w5.cell? ⟨w.heap.size, 3, none⟩ = some (.int .i64 0) := by rw [Lib.cell_of_heap h0]; rfl
    have c4 : w5.cell? ⟨w.heap.size, 4, none⟩ = some (.bool false) := by rw [Lib.cell_of_heap h0]; rfl
    have d0 : w5.cell? ⟨w.heap.size + 1, 0, none⟩ = some (.string N4) := by rw [Lib.cell_of_heap h1]; rfl
    have d1 : w5.cell? ⟨w.heap.size + 1, 1, none⟩ = some (.int .i64 k4) := by rw [Lib.cell_of_heap h1]; rfl
    have d2 : w5.cell? ⟨w.heap.size + 1, 2, none⟩ = some (.string T4) := by rw [Lib.cell_of_heap h1]; rfl
    have d3 : w5.cell? ⟨w.heap.size + 1, 3, none⟩ = some (.int .i64 q4) := by rw [Lib.cell_of_heap h1]; rfl
    have d4 : w5.cell? ⟨w.heap.size + 1, 4, none⟩ = some (.bool g4) := by rw [Lib.cell_of_heap h1]; rfl
    have H0 := G0
    clear h0 h1 G1 G0
    go_region_with (go_at_call 38; refine (HBk.out _).mono ?_; rintro x w' ⟨rfl, rfl⟩)
    all_goals
      go_wp2_with fail
      refine bodyPost_ret (results_ct (b := w.heap.size) (o := 0) Tryd.results39 _ rfl (range_drew (set_five H0.out _ _ _ _ _)) Tryd.underlying37 rfl sizeM rfl) rfl ⟨⟨_, rfl, Or.inr ⟨_, _, cN, HX.out, HPl.out.1, rfl, by rw [HPl.out.2, HDR.out]⟩⟩, (below_five (Nat.le_refl _) HB5.out _ _ _ _ _).drew⟩
end Go.Proofs.YtkkgngmhdlmgnaaDoor.jw
