import Derived.Test.YtaeleccngpfngaaRegM
namespace Go.Proofs.Ytaeleccngpfngaa.sent
open Go.ChangeShapes Go.WideShapes Go.ChangeAt Go.RowKit Go.Proofs.Ytaeleccngpfngaa.common Go.Proofs.Ytaeleccngpfngaa.lst Go.Maps
attribute [local go_sem ↓] Go.wp_at_zero Go.wp_at_succ

/-- the input that is always sent -/
def iA : Inp := ⟨1, ⟨#[97, 108, 119, 97, 121, 115]⟩, ⟨#[118]⟩, ⟨#[]⟩⟩
def pA : PB := (⟨#[97, 108, 119, 97, 121, 115]⟩, ⟨#[118]⟩)
theorem sent_snoc (l : List PB) (xs : List Inp) : sentL l (xs ++ [iA]) = sentL l xs ++ [pA] := by
  unfold sentL
  rw [List.flatMap_append]
  congr 1
theorem fits_snoc {xs : List Inp} (h : FitsI xs) : FitsI (xs ++ [iA]) := by
  intro x hx
  rcases List.mem_append.1 hx with h1 | h1
  · exact h x h1
  · obtain rfl : x = iA := by simpa using h1
    exact ⟨by decide, by decide, by decide, by decide⟩
theorem form_set {w : World} {F : Nat} {x y z : Value} {t : TypeId} (h : w.heap[F]? = some (.cells #[x, y, z] t)) (v : Value) : (w.setCell ⟨F, 1, none⟩ v).heap[F]? = some (.cells #[x, v, z] t) := by

  simp [World.setCell, Array.getElem?_modify, h]

theorem heap_two (w : World) (o p : Obj) : ((w.alloc o).alloc p).heap[w.heap.size]? = some o ∧ ((w.alloc o).alloc p).heap[w.heap.size + 1]? = some p ∧ ((w.alloc o).alloc p).heap.size = w.heap.size + 2 := by
  have h1 : ((w.alloc o).alloc p).heap = (w.heap.push o).push p := rfl
  rw [h1]
  refine ⟨?_, ?_, by simp⟩
  · rw [Array.getElem?_push, if_neg (by simp), Array.getElem?_push, if_pos rfl]
  · rw [Array.getElem?_push, if_pos (by simp)]
theorem heap_old {W : World} {o v : Obj} {g : Nat} (h : W.heap[g]? = some v) : (W.alloc o).heap[g]? = some v := by
  have hl := (Array.getElem?_eq_some_iff.1 h).1
  show (W.heap.push o)[g]? = some v
  rw [Array.getElem?_push, if_neg (by omega)]
  exact h
theorem grown_at {w w' : World} {row : Option Nat} (hg : w.grownBy w' row) {b : Nat} {o : Obj} (h : w.heap[b]? = some o) (hr : ∀ k, row = some k → k ≠ b) : w'.heap[b]? = some o :=
  (hg.block b (Array.getElem?_eq_some_iff.1 h).1 (fun e => hr b e.symm rfl)).trans h
theorem own_form {w : World} {base : Nat} {e : TypeId} {size : Nat} {v : Value} {n : Nat} {xs : List Value} (h : w.ownsRow base e size v n xs) : ∃ oa cap, v = .slice oa n cap := by
  rcases h.2 with ⟨h, h0⟩ | ⟨g, cap, cur, h, _⟩
  · exact ⟨none, 0, by rw [h, h0]⟩
  · exact ⟨_, cap, h⟩
theorem own_some {w : World} {base : Nat} {e : TypeId} {size : Nat} {v : Value} {n : Nat} {xs : List Value} (h : w.ownsRow base e size v (n + 1) xs) : ∃ g cap, v = .slice (some ⟨g, 0, none⟩) (n + 1) cap := by
  rcases h.2 with ⟨h, h0⟩ | ⟨g, cap, cur, h, _⟩
  · omega
  · exact ⟨g, cap, h⟩
theorem lies_own {w : World} {base : Nat} {e : TypeId} {v : Value} {n : Nat} {l : List PB} (h : w.ownsRow base e 2 v n (cl l)) (hn : n = l.length) : Lies w v l := by subst hn; exact lies_of_own h
theorem liesI_own {w : World} {base : Nat} {e : TypeId} {v : Value} {n : Nat} {l : List Inp} (h : w.ownsRow base e 4 v n (ic l)) (hn : n = l.length) : LiesI w v l := by subst hn; exact liesI_of_own h
theorem range3F {w : World} {F : Nat} {x y z : Value} {t : TypeId} (h : w.heap[F]? = some (.cells #[x, y, z] t)) : w.rangeAt F 0 [x, y, z] := fun j v hv => by
  rw [Nat.zero_add]
  simp only [World.cell?, h]
  simpa using hv
def mA : ByteArray := ⟨#[109, 97, 114, 107, 32, 111, 102, 32, 97]⟩
def mB : ByteArray := ⟨#[109, 97, 114, 107, 32, 111, 102, 32, 98]⟩
theorem markAll_n (base g cap n : Nat) (c : ByteArray) (l : List PB) (w : World) (hown : w.ownsRow base 33 2 (.slice (some ⟨g, 0, none⟩) n cap) n (cl l)) (hn : n = l.length) (hs : n ≤ 4611686018427387904) :
    Calls Try.prog 6 #[.slice (some ⟨g, 0, none⟩) n cap, .string c] w fun e w' => e = .returned (.tuple #[]) ∧ w'.ownsRow base 33 2 (.slice (some ⟨g, 0, none⟩) n cap) n (cl (List.replicate n (c, c))) ∧ w.grownBy w' (some g) := by
  subst hn
  exact markAll_any base g cap c l w hown hs
theorem rep_cl (c : ByteArray) (n : Nat) : cl (List.replicate n (c, c)) ++ cl [(c, c)] = cl (List.replicate (n + 1) (c, c)) := by
  rw [← cl_app, List.replicate_succ']
theorem ap_num {g h n m c d : Nat} (hne : g ≠ h) : Ap (.slice (some ⟨g, 0, none⟩) n c) (.slice (some ⟨h, 0, none⟩) m d) := fun k h1 h2 => by
  cases h1; cases h2; exact hne rfl
theorem below_grown {B : Nat} {a w w' : World} {v : Value} (hb : Below B a w) (hg : w.grownBy w' v.ownBlock) (hB : B ≤ w.heap.size) (hv : ∀ k, v.ownBlock = some k → B ≤ k) : Below B a w' := hb.grown hg hB hv
/-- the last input with another value -/
def ovr : ByteArray := ⟨#[111, 118, 101, 114]⟩
def iB : Inp := ⟨1, ⟨#[97, 108, 119, 97, 121, 115]⟩, ovr, ⟨#[]⟩⟩
theorem ic_last (xs : List Inp) : (ic (xs ++ [iA])).set (xs.length * 4 + 2) (.string ovr) = ic (xs ++ [iB]) := by
  rw [ic_app, ic_app, List.set_append_right _ _ (by rw [ic_len]; omega), ic_len]
  have : xs.length * 4 + 2 - xs.length * 4 = 2 := by omega
  rw [this]
  rfl
theorem own_cap {w : World} {base : Nat} {e : TypeId} {size : Nat} {oa : Option Addr} {n cap : Nat} {xs : List Value} (h : w.ownsRow base e size (.slice oa n cap) n xs) : n ≤ cap := by
  rcases h.2 with ⟨h, h0⟩ | ⟨g, cap', cur, h, _, _, h1, _⟩
  · omega
  · cases h; exact h1
theorem fits_snocB {xs : List Inp} (h : FitsI xs) : FitsI (xs ++ [iB]) := by
  intro x hx
  rcases List.mem_append.1 hx with h1 | h1
  · exact h x h1
  · obtain rfl : x = iB := by simpa using h1
    exact ⟨by decide, by decide, by decide, by decide⟩
theorem own_pos {w : World} {base : Nat} {e : TypeId} {size : Nat} {v : Value} {n : Nat} {xs : List Value} (h : w.ownsRow base e size v n xs) (hn : 0 < n) : ∃ g cap, v = .slice (some ⟨g, 0, none⟩) n cap := by
  rcases h.2 with ⟨h, h0⟩ | ⟨g, cap, cur, h, _⟩
  · omega
  · exact ⟨g, cap, h⟩
theorem fits_rep (n : Nat) (p : PB) (h1 : p.1.size ≤ maxLen) (h2 : p.2.size ≤ maxLen) : Fits (List.replicate n p) := by
  intro k
  rw [List.getD_eq_getElem?_getD, List.getElem?_replicate]
  split
  · exact ⟨h1, h2⟩
  · exact ⟨by decide, by decide⟩
theorem own_set {w : World} {base : Nat} {e : TypeId} {size : Nat} {v : Value} {n : Nat} {xs : List Value} (h : w.ownsRow base e size v n xs) (a : Addr) (u : Value) (ha : a.block < base) : (w.setCell a u).ownsRow base e size v n xs := by
  refine h.kept (grown_cell w a u) ?_
  cases hv : v.ownBlock with
  | none => exact Or.inl rfl
  | some g =>
    refine Or.inr fun e => ?_
    have := (h.lt g hv).1
    cases e
    omega

set_option maxRecDepth 100000 in
set_option maxHeartbeats 3200000 in
theorem lawMem (vI : Value) (ot : Option Addr) (cT : Nat) (act but : ByteArray) (l : List PB) (xs : List Inp) (w : World) (hi : LiesI w vI xs) (hl : Lies w (.slice ot l.length cT) l) (hf : Fits l) (hx : FitsI xs) (hs : (l.length + 4) * 32 ≤ 140737488355328) (hsx : (xs.length + 4) * 56 ≤ 140737488355328) :
    Calls Try.prog 3 #[.agg #[.string act, vI, .string but, .slice ot l.length cT]] w fun e w' => e = .returned (.bool true) ∧ Below w.heap.size w w' := by
  have Q3 : xs.length + 1 ≤ maxLen := by clear hx hf hi hl; unfold maxLen; omega
  have Q4 : (xs.length + 1) * 56 ≤ 140737488355328 := Nat.le_trans (Nat.mul_le_mul_right 56 (by omega)) hsx
  have Q5 : xs.length * 56 ≤ 140737488355328 := Nat.le_trans (Nat.mul_le_mul_right 56 (by omega)) hsx
  have R3 : l.length ≤ maxLen := by clear hx hf hi hl Q3 Q4; unfold maxLen; omega
  have R4 : l.length * 32 ≤ 140737488355328 := Nat.le_trans (Nat.mul_le_mul_right 32 (by omega)) hs
  obtain ⟨i0, hin, hz0, hz1, hz2⟩ := info_parts infoI
  obtain ⟨j0, hjn, hy0, hy1, hy2⟩ := info_parts infoP
  have B0 : Below w.heap.size w ((w.alloc (.cells #[.string act, vI, .string but, .slice ot l.length cT] 27)).alloc (.cells #[.string act, .slice none 0 0, .string but] 24)) := ((Below.refl _ _).alloc (Nat.le_refl _) _).alloc (by simp) _
  have HI := hide (hi.below B0)
  have HL := hide (hl.below B0)
  obtain ⟨h2x, h2f, h2s⟩ := heap_two w (.cells #[.string act, vI, .string but, .slice ot l.length cT] 27) (.cells #[.string act, .slice none 0 0, .string but] 24)
  have HX := hide h2x
  have HF := hide h2f
  clear h2x h2f
  have HLw := hide hl
  have HIw := hide hi
  obtain ⟨oi, ci, rfl, _⟩ := hi
  clear hl
  go_enter Try.func3, Try.ntmps3
  go_wp2_with (at_builtin; refine append_inputs _ rfl _ _ rfl (w.heap.size + 2) rfl _ xs rfl HI.out ?c3 Q5 ?c5 ?_)
  case c3 => exact Nat.le_of_succ_le Q3
  case c5 => rw [h2s]; exact Nat.le_refl _
  intro v1 w1 own1 hg1
  obtain ⟨ov, cv, hv1, _⟩ := liesI_of_own own1
  subst hv1
  have B1 : Below w.heap.size w w1 := B0.grown hg1 (by rw [h2s]; omega) (fun k hk => by cases hk)
  have HX1 := hide (grown_at hg1 HX.out (fun k hk => by cases hk))
  have F1 := grown_at hg1 HF.out (fun k hk => by cases hk)
  have hsz1 := hg1.size
  rw [h2s] at hsz1
  have f1 : w1.cell? ⟨w.heap.size + 1, 1, none⟩ = some (.slice none 0 0) := by simp [World.cell?, F1]
  have z1 : w1.frozen? ⟨w.heap.size + 1, 1, none⟩ = false := by simp [World.frozen?, F1]
  have HF1 := hide (form_set F1 (.slice ov xs.length cv))
  have HO1 := hide (own_set own1 ⟨w.heap.size + 1, 1, none⟩ (.slice ov xs.length cv) (by show w.heap.size + 1 < _; omega))
  have HB1 := hide (B1.setCell (p := ⟨w.heap.size + 1, 1, none⟩) (Nat.le_succ _) (.slice ov xs.length cv))
  have HG1 := hide hg1
  have HX2 : Hid ((w1.setCell ⟨w.heap.size + 1, 1, none⟩ (.slice ov xs.length cv)).heap[w.heap.size]? = _) := hide ((Below.heap_setCell w1 ⟨w.heap.size + 1, 1, none⟩ (.slice ov xs.length cv) w.heap.size (by show w.heap.size ≠ w.heap.size + 1; omega)).trans HX1.out)
  have hsz2 : w.heap.size + 2 ≤ (w1.setCell ⟨w.heap.size + 1, 1, none⟩ (.slice ov xs.length cv)).heap.size := by simpa [World.setCell] using hsz1
  clear own1 hg1 HX HF F1 HX1 h2s B1 hsz1
  have eS : (w1.setCell ⟨w.heap.size + 1, 1, none⟩ (.slice ov xs.length cv)).heap.size = w1.heap.size := by simp [World.setCell]
  have HC2 := hide (cells_new (w1.setCell ⟨w.heap.size + 1, 1, none⟩ (.slice ov xs.length cv)) (ic [iA]) 29)
  rw [eS] at HC2 hsz2
  go_wp2_with (at_builtin; refine wpList_append_own _ rfl _ _ 22 rfl (w.heap.size + 2) 29 i0 (.agg #[.int .i64 0, .string ⟨#[]⟩, .string ⟨#[]⟩, .string ⟨#[]⟩]) 4 56 Try.underlying22 hin hz0 hz1 hz2 rfl (by decide) _ _ _ rfl (HO1.out.alloc _) ⟨w1.heap.size, 0, none⟩ 1 1 (ic [iA]) rfl rfl HC2.out (ic_one [iA]) ?c3 ?c4 ?c5 ?_)
  case c3 => exact Q3
  case c4 => exact Q4
  case c5 => simpa [World.alloc, eS] using Nat.le_succ_of_le hsz2
  intro v2 w2 own2 hg2 _
  have own2' : w2.ownsRow (w.heap.size + 2) 29 4 v2 (xs.length + 1) (ic (xs ++ [iA])) := by
    rw [ic_app]; exact own2
  obtain ⟨ow, cw, hv2⟩ := own_form own2'
  have hrow : ∀ k, (Value.slice ov xs.length cv).ownBlock = some k → w.heap.size + 2 ≤ k := own_ge HO1.out
  have B2 : Below w.heap.size w w2 := (HB1.out.alloc HB1.out.size _).grown hg2 (by simpa [World.alloc, eS] using (by omega : w.heap.size ≤ w1.heap.size + 1)) (fun k hk => by have := hrow k hk; omega)
  have X2 := grown_at hg2 (heap_old HX2.out) (fun k hk => by have := hrow k hk; omega)
  have F2 := grown_at hg2 (heap_old HF1.out) (fun k hk => by have := hrow k hk; omega)
  have hsz3 : w.heap.size + 2 ≤ w2.heap.size := by
    have := hg2.size
    simp only [World.alloc, Array.size_push, eS] at this
    omega
  subst hv2
  have f1 : w2.cell? ⟨w.heap.size + 1, 1, none⟩ = some (.slice ov xs.length cv) := by simp [World.cell?, F2]
  have z1 : w2.frozen? ⟨w.heap.size + 1, 1, none⟩ = false := by simp [World.frozen?, F2]
  have HF2 := hide (form_set F2 (.slice ow (xs.length + 1) cw))
  have HO2 := hide (own_set own2' ⟨w.heap.size + 1, 1, none⟩ (.slice ow (xs.length + 1) cw) (by show w.heap.size + 1 < _; omega))
  have HB2 := hide (B2.setCell (p := ⟨w.heap.size + 1, 1, none⟩) (Nat.le_succ _) (.slice ow (xs.length + 1) cw))
  have HX3 : Hid ((w2.setCell ⟨w.heap.size + 1, 1, none⟩ (.slice ow (xs.length + 1) cw)).heap[w.heap.size]? = _) := hide ((Below.heap_setCell w2 ⟨w.heap.size + 1, 1, none⟩ (.slice ow (xs.length + 1) cw) w.heap.size (by show w.heap.size ≠ w.heap.size + 1; omega)).trans X2)
  have eS2 : (w2.setCell ⟨w.heap.size + 1, 1, none⟩ (.slice ow (xs.length + 1) cw)).heap.size = w2.heap.size := by simp [World.setCell]
  have f3 : (w2.setCell ⟨w.heap.size + 1, 1, none⟩ (.slice ow (xs.length + 1) cw)).cell? ⟨w.heap.size, 3, none⟩ = some (.slice ot l.length cT) := by simp [World.cell?, HX3.out]
  have HL2 := hide (HLw.out.below HB2.out)
  clear own2 own2' hg2 X2 F2 HX2 HF1 HC2 eS hrow B2 HO1 HB1 HG1 HL HI hsz2
  go_wp2_with (at_builtin; refine append_pairs2 _ rfl _ _ rfl (w.heap.size + 2) rfl _ l rfl HL2.out R3 R4 ?c5 ?_)
  case c5 => simpa [eS2] using hsz3
  intro v3 w3 own3 hg3 hnil3
  have HNIL := hide hnil3
  clear hnil3
  have hsz4 : w.heap.size + 2 ≤ w3.heap.size := by have := hg3.size; rw [eS2] at this; omega
  have HBW : Hid (Below w.heap.size w w3) := HB2.out.grown hg3 (by rw [eS2]; omega) (fun k hk => by cases hk)
  have HXB := hide (grown_at hg3 HX3.out (fun k hk => by cases hk))
  have HFB := hide (grown_at hg3 HF2.out (fun k hk => by cases hk))
  have HOI : Hid (w3.ownsRow (w.heap.size + 2) 29 4 (.slice ow (xs.length + 1) cw) (xs.length + 1) (ic (xs ++ [iA]))) := HO2.out.kept hg3 (by cases (Value.slice ow (xs.length + 1) cw).ownBlock <;> simp)
  obtain ⟨o3, c3, rfl⟩ := own_form own3
  have HOT := hide own3
  have HLX := hide (HLw.out.below HBW.out)
  have HIX := hide (HIw.out.below HBW.out)
  have HlI : Hid (xs.length + 1 = (xs ++ [iA]).length) := by show _ = _; simp
  have HLI := hide (liesI_own HOI.out HlI.out)
  have HLT := hide (lies_own HOT.out rfl)
  have hfx := fits_snoc hx
  have hsx32 : (xs ++ [iA]).length * 32 ≤ 140737488355328 := by rw [← HlI.out]; exact Nat.le_trans (Nat.mul_le_mul_left _ (by decide : 32 ≤ 56)) Q4
  have HR := hide (range3F HFB.out)
  have hFl : w.heap.size + 1 < w3.heap.size := by omega
  have hS0 := sentL_len l xs
  have HSn := hide (sent_snoc l xs)
  have T4 : ∀ t, t ≤ 64 → ((sentL l xs).length + 1 + t) * 32 ≤ 140737488355328 := fun t ht => by
    clear hfx hx hf
    have : (sentL l xs).length + 1 + t ≤ xs.length + 65 := by omega
    refine Nat.le_trans (Nat.mul_le_mul_right 32 this) ?_
    omega
  clear own3 hg3 HO2 HB2 HX3 HF2 eS2 f1 f3 z1 HL2 hsz3 HLw HIw
  go_wp2_with (refine wpList_load_mid rfl 24 (.tmp 3) rfl (w.heap.size + 1) 0 rfl _ _ HR.out Try.underlying24 rfl sizeF ?_)
  refine (sent_any _ _ act but l (xs ++ [iA]) _ HLI.out HLT.out hf hfx R4 hsx32).mono ?_
  rintro e w4 ⟨va, rfl, own4, b4⟩
  rw [HSn.out] at own4
  have own4' : w4.ownsRow w3.heap.size 33 2 va ((sentL l xs).length + 1) (cl (sentL l xs ++ [pA])) := by
    rw [List.length_append] at own4; exact own4
  obtain ⟨ga, ca, rfl⟩ := own_some own4'
  have HA4 := hide own4'
  have HB4 := hide b4
  have HlS : Hid ((sentL l xs).length + 1 = (sentL l xs ++ [pA]).length) := by show _ = _; simp
  have HLA4 := hide (lies_own own4' HlS.out)
  have T3 : ∀ t, t ≤ 64 → (sentL l xs).length + 1 + t ≤ maxLen := fun t ht => by
    have := T4 t ht
    clear hfx hx hf own4 own4' b4 T4
    unfold maxLen; omega
  have hga := own4'.lt ga rfl
  clear own4 own4' b4 HR
  have q3 : (sentL l xs ++ [pA]).length ≤ maxLen := by rw [← HlS.out]; exact T3 0 (by omega)
  have q4 : (sentL l xs ++ [pA]).length * 32 ≤ 140737488355328 := by rw [← HlS.out]; exact T4 0 (by omega)
  go_wp2_with (at_builtin; refine append_pairs _ rfl _ _ rfl w4.heap.size rfl _ (sentL l xs ++ [pA]) rfl HLA4.out q3 q4 (Nat.le_refl _) ?_)
  intro vf w5 own5 hg5
  have own5 : w5.ownsRow w4.heap.size 33 2 vf ((sentL l xs).length + 1) (cl (sentL l xs ++ [pA])) := by first | exact own5 | (rw [HlS.out]; exact own5) | simpa using own5
  obtain ⟨gf, cf, rfl⟩ := own_some own5
  have hgf := own5.lt gf rfl
  have b5 : Below w4.heap.size w4 w5 := ⟨hg5.os, hg5.tape, hg5.output, hg5.size, fun k hk => hg5.block k hk (by simp)⟩
  have HF5 := hide own5
  have HA5 := hide (own_below HA4.out b5)
  have HB5 := hide (HB4.out.trans (b5.mono HB4.out.size))
  clear own5 hg5 b5 HA4 HB4 HLA4
  have HR := hide (range3F ((HB5.out.block _ hFl).trans HFB.out))
  go_wp2_with (refine wpList_load_mid rfl 24 (.tmp 3) rfl (w.heap.size + 1) 0 rfl _ _ HR.out Try.underlying24 rfl sizeF ?_)
  refine (sent_any _ _ act but l (xs ++ [iA]) _ (HLI.out.below HB5.out) (HLT.out.below HB5.out) hf hfx R4 hsx32).mono ?_
  rintro e w6 ⟨vb, rfl, own6, b6⟩
  rw [HSn.out] at own6
  have own6' : w6.ownsRow w5.heap.size 33 2 vb ((sentL l xs).length + 1) (cl (sentL l xs ++ [pA])) := by
    rw [List.length_append] at own6; exact own6
  obtain ⟨gb, cb, rfl⟩ := own_some own6'
  have hgb := own6'.lt gb rfl
  have HB6 := hide own6'
  have HA6 := hide (own_below HA5.out b6)
  have HF6 := hide (own_below HF5.out b6)
  have HW6 := hide (HB5.out.trans (b6.mono HB5.out.size))
  have q5 : (sentL l xs ++ [pA]).length ≤ 4611686018427387904 := by
    have := q4
    clear hfx hx hf own6 own6' b6 T4 T3 q4
    omega
  have hz5 := b6.size
  have HW6s := HB5.out.size
  clear own6 own6' b6 HA5 HF5 HB5 HR
  go_wp2_with fail
  refine (same_any _ _ (sentL l xs ++ [pA]) _ (lies_own HA6.out HlS.out) (lies_own HB6.out HlS.out) q5).mono ?_
  rintro e w7 ⟨rfl, b7⟩
  have HA7 := hide (own_below HA6.out b7)
  have HF7 := hide (own_below HF6.out b7)
  have HB7 := hide (own_below HB6.out b7)
  have HW7 := hide (HW6.out.trans (b7.mono HW6.out.size))
  have hz7 := b7.size
  clear b7 HA6 HF6 HB6 HW6
  have hpA : (sentL l xs ++ [pA])[(sentL l xs).length]'(by rw [← HlS.out]; exact Nat.lt_succ_self _) = pA := by simp
  have c0 : w7.cell? ⟨ga, (sentL l xs).length * 2, none⟩ = some (.string ⟨#[97, 108, 119, 97, 121, 115]⟩) := by
    rw [HA7.out.cellAt _ (by omega), cl_get0 _ (sentL l xs).length (by rw [← HlS.out]; exact Nat.lt_succ_self _), hpA]; rfl
  have c1 : w7.cell? ⟨ga, (sentL l xs).length * 2 + 1, none⟩ = some (.string ⟨#[118]⟩) := by
    rw [HA7.out.cellAt _ (by omega), cl_get1 _ (sentL l xs).length (by rw [← HlS.out]; exact Nat.lt_succ_self _), hpA]; rfl
  clear hpA
  generalize hS : sentL l xs = S at *
  go_wp2_with fail
  have hn63 : S.length + 1 ≤ 4611686018427387904 := by
    have := T4 0 (by omega)
    clear T4 T3 hfx hx hf c0 c1 q3 q4 q5 hsx32
    omega
  refine (markAll_n _ ga ca (S.length + 1) mA _ w7 HA7.out HlS.out hn63).mono ?_
  rintro e w8 ⟨rfl, own8, hg8⟩
  have HA8 := hide own8
  have HF8 : Hid (w8.ownsRow _ _ _ _ _ _) := HF7.out.kept hg8 (Or.inr (by simp [Value.ownBlock]; omega))
  have HB8 : Hid (w8.ownsRow _ _ _ _ _ _) := HB7.out.kept hg8 (Or.inr (by simp [Value.ownBlock]; omega))
  have HW8 : Hid (Below w3.heap.size w3 w8) := HW7.out.grown hg8 HW7.out.size (fun k hk => by cases hk; exact hga.1)
  have hz8 := hg8.size
  clear own8 hg8 HA7 HF7 HB7 HW7 c0 c1
  go_wp2_with fail
  refine (markAll_n _ gb cb (S.length + 1) mB _ w8 HB8.out HlS.out hn63).mono ?_
  rintro e w9 ⟨rfl, own9, hg9⟩
  have HB9 := hide own9
  have HA9 : Hid (w9.ownsRow _ _ _ _ _ _) := HA8.out.kept hg9 (Or.inr (by simp [Value.ownBlock]; omega))
  have HF9 : Hid (w9.ownsRow _ _ _ _ _ _) := HF8.out.kept hg9 (Or.inr (by simp [Value.ownBlock]; omega))
  have HW9 : Hid (Below w3.heap.size w3 w9) := HW8.out.grown hg9 HW8.out.size (fun k hk => by cases hk; omega)
  have hz9 := hg9.size
  clear own9 hg9 HA8 HF8 HB8 HW8
  have hz39 : w3.heap.size ≤ w9.heap.size := HW9.out.size
  have hz59 : w5.heap.size ≤ w9.heap.size := by omega
  have HN9 := hide (cells_new w9 (cl [(mA, mA)]) 33)
  go_wp2_with (at_builtin; refine wpList_append_own_at _ rfl _ _ 25 rfl w3.heap.size 33 j0 (.agg #[.string ⟨#[]⟩, .string ⟨#[]⟩]) 2 32 Try.underlying25 hjn hy0 hy1 hy2 rfl (by decide) _ _ _ rfl (HA9.out.alloc _) ⟨w9.heap.size, 0, none⟩ 1 1 (cl [(mA, mA)]) rfl rfl HN9.out (cl_one [(mA, mA)]) ?c3 ?c4 ?c5 ?_)
  case c3 => exact T3 1 (by decide)
  case c4 => exact T4 1 (by decide)
  case c5 => simpa using Nat.le_succ_of_le hz39
  intro vm w10 own10 hg10 _ hat10
  rw [rep_cl] at own10
  have hat10' : vm.ownBlock = (Value.slice (some ⟨ga, 0, none⟩) (S.length + 1) ca).ownBlock ∨ vm.ownBlock = some (w9.alloc (.cells #[.string mA, .string mA] 33)).heap.size := by simpa using hat10
  have hz10 : w9.heap.size ≤ w10.heap.size := Nat.le_trans (by simp) hg10.size
  have HM10 := hide own10
  have HB10 : Hid (w10.ownsRow _ _ _ _ _ _) := (HB9.out.alloc (.cells #[.string mA, .string mA] 33)).kept hg10 (Or.inr (by simp [Value.ownBlock]; omega))
  have HF10 : Hid (w10.ownsRow _ _ _ _ _ _) := (HF9.out.alloc (.cells #[.string mA, .string mA] 33)).kept hg10 (Or.inr (by simp [Value.ownBlock]; omega))
  have P1 : Hid (Ap vm (.slice (some ⟨gb, 0, none⟩) (S.length + 1) cb)) := (ap_num (by omega)).grow hat10' (own_lt (HB9.out.alloc _))
  have P2 : Hid (Ap vm (.slice (some ⟨gf, 0, none⟩) (S.length + 1) cf)) := (ap_num (by omega)).grow hat10' (own_lt (HF9.out.alloc _))
  have HW10 : Hid (Below w3.heap.size w3 w10) := (HW9.out.alloc hz39 _).grown hg10 (by simpa using Nat.le_succ_of_le hz39) (own_ge HA9.out)
  obtain ⟨om, cm, rfl⟩ := own_form own10
  have hz310 : w3.heap.size ≤ w10.heap.size := by omega
  have hz510 : w5.heap.size ≤ w10.heap.size := by omega
  clear own10 hg10 hat10 hat10' HA9 HB9 HF9 HW9 HN9
  have HN10 := hide (cells_new w10 (cl [(mB, mB)]) 33)
  go_wp2_with (at_builtin; refine wpList_append_own_at _ rfl _ _ 25 rfl w5.heap.size 33 j0 (.agg #[.string ⟨#[]⟩, .string ⟨#[]⟩]) 2 32 Try.underlying25 hjn hy0 hy1 hy2 rfl (by decide) _ _ _ rfl (HB10.out.alloc _) ⟨w10.heap.size, 0, none⟩ 1 1 (cl [(mB, mB)]) rfl rfl HN10.out (cl_one [(mB, mB)]) ?c3 ?c4 ?c5 ?_)
  case c3 => exact T3 1 (by decide)
  case c4 => exact T4 1 (by decide)
  case c5 => simpa using Nat.le_succ_of_le hz510
  intro vn w11 own11 hg11 _ hat11
  rw [rep_cl] at own11
  have hat11' : vn.ownBlock = (Value.slice (some ⟨gb, 0, none⟩) (S.length + 1) cb).ownBlock ∨ vn.ownBlock = some (w10.alloc (.cells #[.string mB, .string mB] 33)).heap.size := by simpa using hat11
  have hz11 : w10.heap.size ≤ w11.heap.size := Nat.le_trans (by simp) hg11.size
  have HN11 := hide own11
  have HM11 : Hid (w11.ownsRow _ _ _ _ _ _) := (HM10.out.alloc (.cells #[.string mB, .string mB] 33)).kept hg11 P1.out.row
  have HF11 : Hid (w11.ownsRow _ _ _ _ _ _) := (HF10.out.alloc (.cells #[.string mB, .string mB] 33)).kept hg11 (Or.inr (by simp [Value.ownBlock]; omega))
  have P3 : Hid (Ap vn (.slice om (S.length + 1 + 1) cm)) := P1.out.symm.grow hat11' (own_lt (HM10.out.alloc _))
  have P4 : Hid (Ap vn (.slice (some ⟨gf, 0, none⟩) (S.length + 1) cf)) := (ap_num (by omega)).grow hat11' (own_lt (HF10.out.alloc _))
  have HW11 : Hid (Below w3.heap.size w3 w11) := (HW10.out.alloc hz310 _).grown hg11 (by simpa using Nat.le_succ_of_le hz310) (fun k hk => by have := own_ge HB10.out k hk; have := HW6s; omega)
  obtain ⟨on, cn, rfl⟩ := own_form own11
  have hz511 : w5.heap.size ≤ w11.heap.size := by omega
  clear own11 hg11 hat11 hat11' HM10 HB10 HF10 HW10 HN10 P1
  go_wp2_with fail
  go_loopw [9, 10, 11] (fun vm vn i wr => ∃ t : Nat, 1 ≤ t ∧ t ≤ 64 ∧ i = .int .i64 t ∧ wr.ownsRow w3.heap.size 33 2 vm (S.length + 1 + t) (cl (List.replicate (S.length + 1 + t) (mA, mA))) ∧ wr.ownsRow w5.heap.size 33 2 vn (S.length + 1 + t) (cl (List.replicate (S.length + 1 + t) (mB, mB))) ∧ wr.ownsRow w4.heap.size 33 2 (.slice (some ⟨gf, 0, none⟩) (S.length + 1) cf) (S.length + 1) (cl (S ++ [pA])) ∧ Ap vn vm ∧ Ap vm (.slice (some ⟨gf, 0, none⟩) (S.length + 1) cf) ∧ Ap vn (.slice (some ⟨gf, 0, none⟩) (S.length + 1) cf) ∧ Below w3.heap.size w3 wr ∧ w5.heap.size ≤ wr.heap.size) (fun _ _ i _ => 64 - (intOf i).toNat)
  case atStart => exact ⟨1, by omega, by omega, rfl, HM11.out, HN11.out, HF11.out, P3.out, P2.out, P4.out, HW11.out, hz511⟩
  case round =>
    obtain ⟨t, ht0, ht, rfl, hm, hn, hfi, p3, p2, p4, hw, hz5r⟩ := hrel
    obtain ⟨om, cm, rfl⟩ := own_form hm
    obtain ⟨on, cn, rfl⟩ := own_form hn
    have HM := hide hm
    have HN := hide hn
    have HF := hide hfi
    have P3 := hide p3
    have P2 := hide p2
    have P4 := hide p4
    have HW := hide hw
    have hz3r := hw.size
    clear hm hn hfi p3 p2 p4 hw HM11 HN11 HF11 HW11
    by_cases hlt : t < 64
    · have hti : (t : Int) < 64 := by omega
      have HC1 := hide (cells_new wr (cl [(mA, mA)]) 33)
      have t3 := T3 (t + 1) (by omega)
      have t4 := T4 (t + 1) (by omega)
      go_wp2_with (at_builtin; refine wpList_append_own_at _ rfl _ _ 25 rfl w3.heap.size 33 j0 (.agg #[.string ⟨#[]⟩, .string ⟨#[]⟩]) 2 32 Try.underlying25 hjn hy0 hy1 hy2 rfl (by decide) _ _ _ rfl (HM.out.alloc _) ⟨wr.heap.size, 0, none⟩ 1 1 (cl [(mA, mA)]) rfl rfl HC1.out (cl_one [(mA, mA)]) ?c3 ?c4 ?c5 ?_)
      case c3 => exact t3
      case c4 => exact t4
      case c5 => simpa using Nat.le_succ_of_le hz3r
      intro vm w10 own10 hg10 _ hat10
      rw [rep_cl] at own10
      have hat10' : vm.ownBlock = (Value.slice om (S.length + 1 + t) cm).ownBlock ∨ vm.ownBlock = some (wr.alloc (.cells #[.string mA, .string mA] 33)).heap.size := by simpa using hat10
      have hz10 : wr.heap.size ≤ w10.heap.size := Nat.le_trans (by simp) hg10.size
      have HM10 := hide own10
      have HB10 : Hid (w10.ownsRow _ _ _ _ _ _) := (HN.out.alloc (.cells #[.string mA, .string mA] 33)).kept hg10 P3.out.row
      have HF10 : Hid (w10.ownsRow _ _ _ _ _ _) := (HF.out.alloc (.cells #[.string mA, .string mA] 33)).kept hg10 P2.out.symm.row
      have P1 : Hid (Ap vm (.slice on (S.length + 1 + t) cn)) := P3.out.symm.grow hat10' (own_lt (HN.out.alloc _))
      have P2' : Hid (Ap vm (.slice (some ⟨gf, 0, none⟩) (S.length + 1) cf)) := P2.out.grow hat10' (own_lt (HF.out.alloc _))
      have HW10 : Hid (Below w3.heap.size w3 w10) := (HW.out.alloc hz3r _).grown hg10 (by simpa using Nat.le_succ_of_le hz3r) (own_ge HM.out)
      obtain ⟨om', cm', rfl⟩ := own_form own10
      have hz310 : w3.heap.size ≤ w10.heap.size := by omega
      have hz510 : w5.heap.size ≤ w10.heap.size := by omega
      clear own10 hg10 hat10 hat10' HM HN HF HW HC1 P2 P3
      have HN10 := hide (cells_new w10 (cl [(mB, mB)]) 33)
      go_wp2_with (at_builtin; refine wpList_append_own_at _ rfl _ _ 25 rfl w5.heap.size 33 j0 (.agg #[.string ⟨#[]⟩, .string ⟨#[]⟩]) 2 32 Try.underlying25 hjn hy0 hy1 hy2 rfl (by decide) _ _ _ rfl (HB10.out.alloc _) ⟨w10.heap.size, 0, none⟩ 1 1 (cl [(mB, mB)]) rfl rfl HN10.out (cl_one [(mB, mB)]) ?c3 ?c4 ?c5 ?_)
      case c3 => exact t3
      case c4 => exact t4
      case c5 => simpa using Nat.le_succ_of_le hz510
      intro vn w11 own11 hg11 _ hat11
      rw [rep_cl] at own11
      have hat11' : vn.ownBlock = (Value.slice on (S.length + 1 + t) cn).ownBlock ∨ vn.ownBlock = some (w10.alloc (.cells #[.string mB, .string mB] 33)).heap.size := by simpa using hat11
      have hz11 : w10.heap.size ≤ w11.heap.size := Nat.le_trans (by simp) hg11.size
      have HN11 := hide own11
      have HM11 : Hid (w11.ownsRow _ _ _ _ _ _) := (HM10.out.alloc (.cells #[.string mB, .string mB] 33)).kept hg11 P1.out.row
      have HF11 : Hid (w11.ownsRow _ _ _ _ _ _) := (HF10.out.alloc (.cells #[.string mB, .string mB] 33)).kept hg11 P4.out.symm.row
      have P3 : Hid (Ap vn (.slice om' (S.length + 1 + t + 1) cm')) := P1.out.symm.grow hat11' (own_lt (HM10.out.alloc _))
      have P4' : Hid (Ap vn (.slice (some ⟨gf, 0, none⟩) (S.length + 1) cf)) := P4.out.grow hat11' (own_lt (HF10.out.alloc _))
      have HW11 : Hid (Below w3.heap.size w3 w11) := (HW10.out.alloc hz310 _).grown hg11 (by simpa using Nat.le_succ_of_le hz310) (fun k hk => by have := own_ge HB10.out k hk; have := HW6s; omega)
      obtain ⟨on', cn', rfl⟩ := own_form own11
      have hz511' : w5.heap.size ≤ w11.heap.size := by omega
      clear own11 hg11 hat11 hat11' HM10 HB10 HF10 HW10 HN10 P1 P4
      go_wp2_with fail
      go_roundw
      case rel => exact ⟨t + 1, by omega, by omega, by go_num, HM11.out, HN11.out, HF11.out, P3.out, P2'.out, P4'.out, HW11.out, hz511'⟩
      case measure => simp [intOf]; omega
    · obtain rfl : t = 64 := by omega
      clear P2 P3 P4
      have HR := hide (range3F ((HW.out.block _ hFl).trans HFB.out))
      go_wp2_with (refine wpList_load_mid rfl 24 (.tmp 3) rfl (w.heap.size + 1) 0 rfl _ _ HR.out Try.underlying24 rfl sizeF ?_)
      refine (sent_any _ _ act but l (xs ++ [iA]) _ (HLI.out.below HW.out) (HLT.out.below HW.out) hf hfx R4 hsx32).mono ?_
      rintro e w6 ⟨vc, rfl, own6, b6⟩
      rw [HSn.out] at own6
      have HC6 : Hid (w6.ownsRow wr.heap.size 33 2 vc (S.length + 1) (cl (S ++ [pA]))) := by
        rw [List.length_append] at own6; exact own6
      obtain ⟨gc, cc, rfl⟩ := own_some HC6.out
      have HF6 := hide (own_below HF.out b6)
      have HM6 := hide (own_below HM.out b6)
      have HN6 := hide (own_below HN.out b6)
      have HW6 := hide (HW.out.trans (b6.mono HW.out.size))
      have hn65 : S.length + 1 + 64 ≤ 4611686018427387904 := by
        have := T4 64 (by omega)
        clear T4 T3 hfx hx hf q3 q4 q5 hsx32
        omega
      clear own6 b6 HR HF HM HN HW
      go_wp2_with fail
      refine (marked_any _ mA (S.length + 1 + 64) _ (lies_own HM6.out (by simp)) hn65).mono ?_
      rintro e w7' ⟨rfl, b7⟩
      have HF7 := hide (own_below HF6.out b7)
      have HN7 := hide (own_below HN6.out b7)
      have HC7 := hide (own_below HC6.out b7)
      have HW7 := hide (HW6.out.trans (b7.mono HW6.out.size))
      clear b7 HF6 HM6 HN6 HC6 HW6
      go_wp2_with fail
      refine (marked_any _ mB (S.length + 1 + 64) _ (lies_own HN7.out (by simp)) hn65).mono ?_
      rintro e w8' ⟨rfl, b8⟩
      have HF8 := hide (own_below HF7.out b8)
      have HC8 := hide (own_below HC7.out b8)
      have HW8 := hide (HW7.out.trans (b8.mono HW7.out.size))
      clear b8 HF7 HN7 HC7 HW7
      have x3 : w8'.cell? ⟨w.heap.size, 3, none⟩ = some (.slice ot l.length cT) := by
        have := (HW8.out.block _ (by omega : w.heap.size < w3.heap.size)).trans HXB.out
        simp [World.cell?, this]
      go_wp2_with fail
      refine (same_any _ _ l _ (HLT.out.below HW8.out) (HLX.out.below HW8.out) (by omega)).mono ?_
      rintro e w9' ⟨rfl, b9⟩
      have HF9 := hide (own_below HF8.out b9)
      have HC9 := hide (own_below HC8.out b9)
      have hbW : Below w3.heap.size w3 w9' := HW8.out.trans (b9.mono HW8.out.size)
      have hlen9 := hbW.size
      clear b9 HF8 HC8 HW8 x3
      obtain ⟨gi, cj, he⟩ := own_some HOI.out
      cases he
      have hcw := own_cap HOI.out
      have HLI0 : Hid (LiesI w3 (.slice (some ⟨gi, 0, none⟩) xs.length cw) xs) := by
        have h1 : w3.ownsRow (w.heap.size + 2) 29 4 (.slice (some ⟨gi, 0, none⟩) (xs ++ [iA]).length cw) (xs ++ [iA]).length (ic (xs ++ [iA])) := by
          rw [← HlI.out]; exact HOI.out
        rcases rowI_of_own h1 with ⟨_, h0⟩ | ⟨g, ca', hv, _, hg, hri, _⟩
        · exact absurd (congrArg List.length h0) (by simp)
        · cases hv
          have := hri.lies hg xs.length cw (by rw [← HlI.out]; omega)
          rwa [List.take_left] at this
      have y1 : ∀ Y, Below w3.heap.size w3 Y → Y.cell? ⟨w.heap.size + 1, 1, none⟩ = some (.slice (some ⟨gi, 0, none⟩) (xs.length + 1) cw) := fun Y hY => by have := (hY.block _ hFl).trans HFB.out; simp [World.cell?, this]
      have y2 : ∀ Y, Below w3.heap.size w3 Y → Y.cell? ⟨w.heap.size, 0 + 1, none⟩ = some (.slice oi xs.length ci) := fun Y hY => by have := (hY.block _ (by omega : w.heap.size < w3.heap.size)).trans HXB.out; simp [World.cell?, this]
      have y3 : ∀ Y, Below w3.heap.size w3 Y → Y.cell? ⟨w.heap.size, 1, none⟩ = some (.slice oi xs.length ci) := fun Y hY => by have := (hY.block _ (by omega : w.heap.size < w3.heap.size)).trans HXB.out; simp [World.cell?, this]
      have k1 : (xs.length : Int) ≤ (cw : Int) := by omega
      have k3 : xs.length ≤ cw := by omega
      have k5 : (0 : Int) ≤ (xs.length : Int) := Int.natCast_nonneg _
      have hll : xs.length ≤ 4611686018427387904 := by omega
      go_wp2_with fail
      go_region_held3 (fun Y => Below w3.heap.size w3 Y)
        (first
          | assumption
          | exact Below.drew (by assumption)
          | exact hbW.drew.trans ((by assumption : Below w9'.drew.heap.size w9'.drew _).mono hbW.size))
        ((go_at_call 8; refine (sameI_any _ _ xs _ (HLI0.out.below hbW.drew) (HIX.out.below hbW.drew) hll).mono ?_; rintro e w10 ⟨rfl, b10⟩))
      have HW10 : Hid (Below w3.heap.size w3 w10) := by assumption
      have HF10 := hide (own_below (w := w9'.drew) HF9.out b10)
      have HC10 := hide (own_below (w := w9'.drew) HC9.out b10)
      clear b10 hbW HF9 HC9 y1 y2 y3 hlen9 HLI0 HLI HLT HLX HIX
      go_wp2_with fail
      refine (same_any _ _ (S ++ [pA]) _ (lies_own HC10.out HlS.out) (lies_own HF10.out HlS.out) q5).mono ?_
      rintro e w11 ⟨rfl, b11⟩
      have hb11 := HW10.out.trans (b11.mono HW10.out.size)
      have HOI11 := hide (own_below HOI.out hb11)
      have HOT11 := hide (own_below HOT.out hb11)
      have F11 := (hb11.block _ hFl).trans HFB.out
      have HX11 := hide (HBW.out.trans (hb11.mono HBW.out.size))
      have hgi : w.heap.size + 2 ≤ gi := (HOI11.out.lt gi rfl).1
      have f1 : w11.cell? ⟨w.heap.size + 1, 1, none⟩ = some (.slice (some ⟨gi, 0, none⟩) (xs.length + 1) cw) := by simp [World.cell?, F11]
      have c2 : w11.cell? ⟨gi, xs.length * 4 + 2, none⟩ = some (.string ⟨#[118]⟩) := by
        rw [HOI11.out.cellAt _ (by omega), (ic_get (xs ++ [iA]) xs.length (by rw [← HlI.out]; omega)).2.2.1]
        simp [iA]
      have z2 : w11.frozen? ⟨gi, xs.length * 4 + 2, none⟩ = false := HOI11.out.frozenAt _
      have HOI12 : Hid ((w11.setCell ⟨gi, xs.length * 4 + 2, none⟩ (.string ovr)).ownsRow (w.heap.size + 2) 29 4 (.slice (some ⟨gi, 0, none⟩) (xs.length + 1) cw) (xs.length + 1) (ic (xs ++ [iB]))) := by
        have := (HOI11.out.stored (xs.length * 4 + 2) (.string ovr)).1
        rw [ic_last] at this
        exact this
      have HOT12 : Hid ((w11.setCell ⟨gi, xs.length * 4 + 2, none⟩ (.string ovr)).ownsRow _ _ _ _ _ _) := HOT11.out.kept (grown_cell w11 ⟨gi, xs.length * 4 + 2, none⟩ (.string ovr)) (rows_ne (by decide) HOT11.out HOI11.out)
      have HF12 : Hid ((w11.setCell ⟨gi, xs.length * 4 + 2, none⟩ (.string ovr)).heap[w.heap.size + 1]? = _) := hide ((Below.heap_setCell w11 ⟨gi, xs.length * 4 + 2, none⟩ (.string ovr) (w.heap.size + 1) (by show w.heap.size + 1 ≠ gi; omega)).trans F11)
      have HB12 := hide (HX11.out.setCell (p := ⟨gi, xs.length * 4 + 2, none⟩) (by show w.heap.size ≤ gi; omega) (.string ovr))
      clear b11 hb11 HC10 HF10 HW10 HOI HOT HFB HBW HOI11 HOT11 F11 HX11 HXB hsx32 q3 q4 q5 T3 T4
      go_wp2_with fail
      have hnm : ∃ nm, ∀ Y : World, Y.ownsRow (w.heap.size + 2) 29 4 (.slice (some ⟨gi, 0, none⟩) (xs.length + 1) cw) (xs.length + 1) (ic (xs ++ [iB])) → Y.cell? ⟨gi, 1, none⟩ = some (.string nm) := by
        have hl0 : 0 < (xs ++ [iB]).length := by simp
        refine ⟨((xs ++ [iB])[0]).name, fun Y hY => ?_⟩
        rw [hY.cellAt 1 (by omega)]
        exact (ic_get (xs ++ [iB]) 0 hl0).2.1
      have hnz : ∃ nm : ByteArray, nm.size ≤ maxLen ∧ ∀ Y : World, Y.ownsRow (w.heap.size + 2) 29 4 (.slice (some ⟨gi, 0, none⟩) (xs.length + 1) cw) (xs.length + 1) (ic (xs ++ [iB])) → Y.cell? ⟨gi, 1, none⟩ = some (.string nm) := by
        have hl0 : 0 < (xs ++ [iB]).length := by simp
        refine ⟨((xs ++ [iB])[0]).name, (fits_snocB hx _ (List.getElem_mem hl0)).2.2.1, fun Y hY => ?_⟩
        rw [hY.cellAt 1 (by omega)]
        exact (ic_get (xs ++ [iB]) 0 hl0).2.1
      clear hnm
      obtain ⟨nm, hnmz, hnmc⟩ := hnz
      have HNM := hide hnmc
      clear hnmc
      go_loopw [19] (fun i wr => ∃ k : Nat, k ≤ l.length ∧ i = .int .i64 k ∧ wr.ownsRow (w.heap.size + 2) 29 4 (.slice (some ⟨gi, 0, none⟩) (xs.length + 1) cw) (xs.length + 1) (ic (xs ++ [iB])) ∧ wr.ownsRow (w.heap.size + 2) 33 2 (.slice o3 l.length c3) l.length (cl (List.replicate k (nm, ovr) ++ l.drop k)) ∧ wr.heap[w.heap.size + 1]? = some (.cells #[.string act, .slice (some ⟨gi, 0, none⟩) (xs.length + 1) cw, .string but] 24) ∧ Below w.heap.size w wr) (fun i _ => l.length - (intOf i).toNat)
      case atStart => exact ⟨0, Nat.zero_le _, rfl, HOI12.out, HOT12.out, HF12.out, HB12.out⟩
      case round =>
        obtain ⟨k, hk, rfl, hoi, hot, hff, hbb⟩ := hrel
        clear HOI12 HOT12 HF12 HB12
        by_cases hlt : k < l.length
        · have hki : (k : Int) < (l.length : Int) := by omega
          have k0 : (0 : Int) ≤ (k : Int) := Int.natCast_nonneg _
          obtain ⟨g3, c4, he⟩ := own_pos hot (by omega)
          cases he
          have hg3 := (hot.lt g3 rfl).1
          have hL : (List.replicate k (nm, ovr) ++ l.drop k).length = l.length := by simp; omega
          have f1 : wr.cell? ⟨w.heap.size + 1, 1, none⟩ = some (.slice (some ⟨gi, 0, none⟩) (xs.length + 1) cw) := by simp [World.cell?, hff]
          have m1 := HNM.out wr hoi
          have c0 : wr.cell? ⟨g3, k * 2, none⟩ = some (.string ((List.replicate k (nm, ovr) ++ l.drop k)[k]'(by omega)).1) := by rw [hot.cellAt (k * 2) (by omega)]; exact cl_get0 _ k (by omega)
          have c1 : wr.cell? ⟨g3, k * 2 + 1, none⟩ = some (.string ((List.replicate k (nm, ovr) ++ l.drop k)[k]'(by omega)).2) := by rw [hot.cellAt (k * 2 + 1) (by omega)]; exact cl_get1 _ k (by omega)
          have z0 : wr.frozen? ⟨g3, k * 2, none⟩ = false := hot.frozenAt _
          have z1 : wr.frozen? ⟨g3, k * 2 + 1, none⟩ = false := hot.frozenAt _
          have HT : Hid (((wr.setCell ⟨g3, k * 2, none⟩ (.string nm)).setCell ⟨g3, k * 2 + 1, none⟩ (.string ovr)).ownsRow (w.heap.size + 2) 33 2 (.slice (some ⟨g3, 0, none⟩) l.length c3) l.length (cl (List.replicate (k + 1) (nm, ovr) ++ l.drop (k + 1)))) := by
            have := ((hot.stored (k * 2) (.string nm)).1.stored (k * 2 + 1) (.string ovr)).1
            show World.ownsRow _ _ _ _ _ _ _
            rw [← rep_set l (nm, ovr) k hlt, ← cl_set _ k (by omega) (nm, ovr)]
            exact this
          have hro := rows_ne (by decide) hoi hot
          have HO : Hid (((wr.setCell ⟨g3, k * 2, none⟩ (.string nm)).setCell ⟨g3, k * 2 + 1, none⟩ (.string ovr)).ownsRow _ _ _ _ _ _) := (hoi.kept (grown_cell wr ⟨g3, k * 2, none⟩ (.string nm)) hro).kept (grown_cell _ ⟨g3, k * 2 + 1, none⟩ (.string ovr)) hro
          have HF : Hid (((wr.setCell ⟨g3, k * 2, none⟩ (.string nm)).setCell ⟨g3, k * 2 + 1, none⟩ (.string ovr)).heap[w.heap.size + 1]? = some (.cells #[.string act, .slice (some ⟨gi, 0, none⟩) (xs.length + 1) cw, .string but] 24)) := hide (by
            rw [Below.heap_setCell _ _ _ _ (by show w.heap.size + 1 ≠ g3; omega), Below.heap_setCell _ _ _ _ (by show w.heap.size + 1 ≠ g3; omega)]
            exact hff)
          have HB := hide ((hbb.setCell (p := ⟨g3, k * 2, none⟩) (by show w.heap.size ≤ g3; omega) (.string nm)).setCell (p := ⟨g3, k * 2 + 1, none⟩) (by show w.heap.size ≤ g3; omega) (.string ovr))
          generalize (List.replicate k (nm, ovr) ++ l.drop k)[k]'(by omega) = pk at c0 c1
          clear hot hoi hff hbb hro hL
          go_wp2_with fail
          go_roundw
          case rel => exact ⟨k + 1, by omega, by go_num, HO.out, HT.out, HF.out, HB.out⟩
          case measure => simp [intOf]; omega
        · obtain rfl : k = l.length := by omega
          have HOI := hide hoi
          have HOT : Hid (wr.ownsRow (w.heap.size + 2) 33 2 (.slice o3 l.length c3) l.length (cl (List.replicate l.length (nm, ovr)))) := by
            have := hot
            rw [List.drop_length, List.append_nil] at this
            exact this
          have HF := hide hff
          have HB := hide hbb
          have HR := hide (range3F hff)
          have hzr := hbb.size
          have hFr := (Array.getElem?_eq_some_iff.1 hff).1
          have hgr := (hoi.lt gi rfl).2
          clear hoi hot hff hbb
          obtain ⟨h2a, h2b, h2s⟩ := heap_two wr (.cells #[.string act, .slice (some ⟨gi, 0, none⟩) (xs.length + 1) cw, .string but] 24) (.cells #[] 29)
          have B2 : Below wr.heap.size wr ((wr.alloc (.cells #[.string act, .slice (some ⟨gi, 0, none⟩) (xs.length + 1) cw, .string but] 24)).alloc (.cells #[] 29)) := ((Below.refl _ _).alloc (Nat.le_refl _) _).alloc (by simp) _
          have F2 := (B2.block _ hFr).trans HF.out
          have f2 : ((wr.alloc (.cells #[.string act, .slice (some ⟨gi, 0, none⟩) (xs.length + 1) cw, .string but] 24)).alloc (.cells #[] 29)).cell? ⟨w.heap.size + 1, 1, none⟩ = some (.slice (some ⟨gi, 0, none⟩) (xs.length + 1) cw) := by simp [World.cell?, F2]
          have HE : Hid (((wr.alloc (.cells #[.string act, .slice (some ⟨gi, 0, none⟩) (xs.length + 1) cw, .string but] 24)).alloc (.cells #[] 29)).ownsRow (wr.heap.size + 1) 29 4 (.slice (some ⟨wr.heap.size + 1, 0, none⟩) 0 0) 0 []) :=
            ⟨rfl, Or.inr ⟨wr.heap.size + 1, 0, #[], rfl, Nat.le_refl _, h2b, Nat.le_refl _, Nat.zero_le _, rfl, rfl⟩⟩
          have HOI2 := hide (own_below HOI.out B2)
          have HB2 := hide B2
          have H2A := hide h2a
          have lB : (xs ++ [iB]).length = xs.length + 1 := by simp
          have HlB := hide lB
          clear F2 B2 h2a h2b lB
          go_wp2_with (first
            | (refine wpList_load_mid rfl 24 (.tmp 3) rfl (w.heap.size + 1) 0 rfl _ _ HR.out Try.underlying24 rfl sizeF ?_)
            | (at_builtin; refine wpList_append_own _ rfl _ _ 22 rfl (wr.heap.size + 1) 29 i0 (.agg #[.int .i64 0, .string ⟨#[]⟩, .string ⟨#[]⟩, .string ⟨#[]⟩]) 4 56 Try.underlying22 hin hz0 hz1 hz2 rfl (by decide) _ _ _ rfl HE.out ⟨gi, 0, none⟩ (xs.length + 1) cw (ic (xs ++ [iB])) rfl (by rw [ic_len, HlB.out]) (HOI2.out.cells rfl) (ic_one _) ?c3 ?c4 ?c5 ?_))
          case c3 => rw [Nat.zero_add]; exact Q3
          case c4 => rw [Nat.zero_add]; exact Q4
          case c5 => rw [h2s]; exact Nat.le_succ _
          intro vo w12 own12 hg12 _
          have own12' : w12.ownsRow (wr.heap.size + 1) 29 4 vo (xs.length + 1) (ic (xs ++ [iB])) := by
            first | exact own12 | (rw [Nat.zero_add, List.nil_append] at own12; exact own12) | simpa using own12
          obtain ⟨oo, co, rfl⟩ := own_form own12'
          have A12 := grown_at hg12 H2A.out (fun k hk => by simp [Value.ownBlock] at hk; omega)
          have B12 : Below wr.heap.size wr w12 := HB2.out.grown hg12 (by rw [h2s]; omega) (fun k hk => by simp [Value.ownBlock] at hk; omega)
          have f3 : w12.cell? ⟨wr.heap.size, 1, none⟩ = some (.slice (some ⟨gi, 0, none⟩) (xs.length + 1) cw) := by simp [World.cell?, A12]
          have z3 : w12.frozen? ⟨wr.heap.size, 1, none⟩ = false := by simp [World.frozen?, A12]
          have HA13 := hide (form_set A12 (.slice oo (xs.length + 1) co))
          have HO13 := hide (own_set own12' ⟨wr.heap.size, 1, none⟩ (.slice oo (xs.length + 1) co) (Nat.lt_succ_self _))
          have B13 := B12.setCell (p := ⟨wr.heap.size, 1, none⟩) (Nat.le_refl _) (.slice oo (xs.length + 1) co)
          have HB13 := hide B13
          have HOI13 := hide (own_below HOI.out B13)
          have HOT13 := hide (own_below HOT.out B13)
          have HF13 := hide ((B13.block _ hFr).trans HF.out)
          have hO13 : wr.heap.size < (w12.setCell ⟨wr.heap.size, 1, none⟩ (.slice oo (xs.length + 1) co)).heap.size := (Array.getElem?_eq_some_iff.1 HA13.out).1
          have hF13 : w.heap.size + 1 < (w12.setCell ⟨wr.heap.size, 1, none⟩ (.slice oo (xs.length + 1) co)).heap.size := (Array.getElem?_eq_some_iff.1 HF13.out).1
          have hr1 : List.replicate l.length (nm, ovr) = [] → Value.slice o3 l.length c3 = .slice none 0 0 := fun e => HNIL.out (List.eq_nil_of_length_eq_zero (by have := congrArg List.length e; simpa using this))
          have hr2 : Fits (List.replicate l.length (nm, ovr)) := fits_rep _ _ hnmz (by show ovr.size ≤ maxLen; decide)
          have hr3 : (List.replicate l.length (nm, ovr)).length ≤ maxLen := by rw [List.length_replicate]; exact R3
          have hr4 : (List.replicate l.length (nm, ovr)).length * 32 ≤ 140737488355328 := by rw [List.length_replicate]; exact R4
          have hr5 : (xs ++ [iB]).length * 32 ≤ 140737488355328 := by rw [HlB.out]; exact Nat.le_trans (Nat.mul_le_mul_left _ (by decide : 32 ≤ 56)) Q4
          have hr6 : (sentL (List.replicate l.length (nm, ovr)) (xs ++ [iB])).length ≤ 4611686018427387904 := Nat.le_trans (sentL_len _ _) (by rw [HlB.out]; omega)
          have hr7 : l.length = (List.replicate l.length (nm, ovr)).length := by rw [List.length_replicate]
          have HR1 := hide hr1
          have HR7 := hide hr7
          clear own12 own12' hg12 A12 B12 B13 HE HOI2 HB2 H2A HR f2 hr1 hr7 HOI HOT HF h2s
          go_wp2_with fail
          refine region36 _ _ _ _ _ _ _ _ _ _ _ _ _ _ _ _ _ _ _ _ _ _ _ _ _ _ _ _ _ _ _ _ _ _ _ _ _ _ _ _ _ _ _ _ _ _ _ _ _ _ _ _ _ _ _ _ _ _ _ _ _ _ _ _ _ _ _ _ _ _ _ _ _ _ _ _ _ _ _ _ _ _ _ _ _ _ _ _ _ _ _ _ _ _ _ _ _ _ _ _ _ _ _ _ _ _ _ _ _ _ _ _ _ _ _ _ _ _ _ _ _ _ _ _ _ _ _ _ _ _ _ _ _ _ _ _ _ _ _ _ _ _ _ _ _ _ _ _ _ _ _ _ _ _ _ _ _ _ _ _ _ _ _ _ _ _ _ _ _ _ _ _ _ _ _ _ _ _ _ _ _ _ _ _ _ _ _ _ _ _ _ _ _ _ act but (w.heap.size + 1) wr.heap.size _ _ _ (List.replicate l.length (nm, ovr)) (xs ++ [iB]) _ (range3F HF13.out) (range3F HA13.out) hF13 hO13 (liesI_own HOI13.out HlB.out.symm) (liesI_own HO13.out HlB.out.symm) (lies_own HOT13.out HR7.out) HR1.out hr2 (fits_snocB hx) hr3 hr4 hr5 hr6 rfl rfl rfl rfl rfl rfl rfl rfl rfl rfl rfl (by kernel_rfl) (by kernel_rfl) (by kernel_rfl) ?_
          intro v175 v176 v177 v178 v179 v180 v181 v182 v183 w14 hb14
          have HE14 : Hid (Below w.heap.size w w14) := HB.out.trans ((HB13.out.trans (hb14.mono HB13.out.size)).mono hzr)
          clear hb14 HOI13 HO13 HOT13 HF13 HA13 HB13 HR1 HR7 hr2 hr3 hr4 hr5 hr6
          dsimp only
          go_wp2_with fail
          go_ret
          exact ⟨rfl, HE14.out⟩
end Go.Proofs.Ytaeleccngpfngaa.sent
