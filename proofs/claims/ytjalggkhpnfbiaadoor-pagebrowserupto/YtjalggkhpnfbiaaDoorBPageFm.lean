import Derived.Test.YtjalggkhpnfbiaaDoorBPageKd
namespace Go.Proofs.YtjalggkhpnfbiaaDoor.pg
open Go.ChangeShapes Go.WideShapes Go.ChangeAt Go.RowKit Go.Proofs.YtjalggkhpnfbiaaDoor.common Go.Maps
attribute [local go_sem ↓] Go.wp_at_zero Go.wp_at_succ

/-- parts that are written out where they are handed in -/
theorem parts_lit (b g1 : Nat) (w : World) (xs : List Value) (l : List UInt8) (ps : List ByteArray) (hg : w.heap.size = g1) (h : Bd w b 56 xs l) (ht : Esc w) (hB : 4 < b) (hne : ∀ i (h : i < ps.length), i % 2 = 0 → 0 < ps[i].size) (hl : l.length + 6 * wt ps + 6 ≤ 140737488355328) (hps : ps.length ≤ 4611686018427387904) :
    Calls Tryd.prog 31 #[ptr b, .slice (some ⟨g1, 0, none⟩) ps.length ps.length] (w.alloc (.cells (ps.map Value.string).toArray 9)) fun e w' => e = .returned (.tuple #[]) ∧ Bd w' b 56 xs (l ++ partsA true ps) ∧ Fr b w w' := by
  have B2 : Below w.heap.size w (w.alloc (.cells (ps.map Value.string).toArray 9)) := (Below.refl _ _).alloc (Nat.le_refl _) _
  refine (parts_any b _ xs l _ ps (h.next B2) (ht.next B2) hB (lit_stays w b g1 ps hg h.lt) hne hl hps).mono ?_
  rintro e w' ⟨he, hbd, hfr⟩
  exact ⟨he, hbd, (fr_of_below B2 b (Nat.le_of_lt h.lt)).trans hfr⟩
theorem ne3 (A s C : ByteArray) (hA : 0 < A.size) (hC : 0 < C.size) : ∀ i (h : i < [A, s, C].length), i % 2 = 0 → 0 < [A, s, C][i].size := by
  intro i hi hp
  match i, hi, hp with
  | 0, _, _ => exact hA
  | 1, _, hp => exact absurd hp (by decide)
  | 2, _, _ => exact hC
  | k + 3, hi, _ => exact absurd hi (by show ¬ k + 3 < 3; omega)
theorem ne5 (A s C t E : ByteArray) (hA : 0 < A.size) (hC : 0 < C.size) (hE : 0 < E.size) : ∀ i (h : i < [A, s, C, t, E].length), i % 2 = 0 → 0 < [A, s, C, t, E][i].size := by
  intro i hi hp
  match i, hi, hp with
  | 0, _, _ => exact hA
  | 1, _, hp => exact absurd hp (by decide)
  | 2, _, _ => exact hC
  | 3, _, hp => exact absurd hp (by decide)
  | 4, _, _ => exact hE
  | k + 5, hi, _ => exact absurd hi (by show ¬ k + 5 < 5; omega)

def insW : List Inp → Nat
  | [] => 0
  | x :: r => inW x + 100 + insW r
def insL (xs : List Inp) : List UInt8 := xs.flatMap lineL
theorem line_len (x : Inp) : (lineL x).length ≤ 6 * (inW x + 100) := by
  have h1 := partsA_len (kindP x) true
  have h2 := kindP_wt x
  unfold lineL
  omega
theorem insL_len : ∀ xs : List Inp, (insL xs).length ≤ 6 * insW xs
  | [] => Nat.le_refl _
  | x :: r => by
    have h1 := line_len x
    have h2 := insL_len r
    show (List.flatMap lineL (x :: r)).length ≤ 6 * (inW x + 100 + insW r)
    rw [List.flatMap_cons, List.length_append]
    unfold insL at h2
    omega
theorem insW_take : ∀ (l : List Inp) (k : Nat) (h : k < l.length), insW (l.take k) + inW l[k] + 100 ≤ insW l
  | x :: r, 0, _ => by show 0 + inW x + 100 ≤ inW x + 100 + insW r; omega
  | x :: r, k + 1, h => by
    have := insW_take r k (by simpa using h)
    have e : (x :: r)[k + 1] = r[k]'(by simpa using h) := rfl
    rw [e, List.take_succ_cons]
    show inW x + 100 + insW (r.take k) + _ + 100 ≤ inW x + 100 + insW r
    omega
theorem insL_snoc (l : List Inp) (k : Nat) (h : k < l.length) : insL (l.take (k + 1)) = insL (l.take k) ++ lineL l[k] := by
  unfold insL
  rw [List.take_succ_eq_append_getElem h, List.flatMap_append]
  simp
/-- a form as it is written -/
def formL (act : ByteArray) (xs : List Inp) (but : ByteArray) : List UInt8 := (partsA true [mFormHead, act, mFormInputs] ++ insL xs) ++ partsA true [mFormButton, but, mFormEnd]
def formW (act : ByteArray) (xs : List Inp) (but : ByteArray) : Nat := act.size + insW xs + but.size + 100
theorem formL_len (act : ByteArray) (xs : List Inp) (but : ByteArray) : (formL act xs but).length ≤ 6 * formW act xs but := by
  have h1 := partsA_len [mFormHead, act, mFormInputs] true
  have h2 := insL_len xs
  have h3 := partsA_len [mFormButton, but, mFormEnd] true
  have e1 : wt [mFormHead, act, mFormInputs] = 28 + (act.size + (3 + 0)) := rfl
  have e3 : wt [mFormButton, but, mFormEnd] = 25 + (but.size + (22 + 0)) := rfl
  unfold formL formW
  rw [List.length_append, List.length_append]
  omega
/-- the function that writes an input of a kind -/
def kF (k : Int) : Nat := if k = 1 then 30 else if k = 2 then 32 else if k = 3 then 34 else 35
theorem kF_cases (k : Int) : kF k = 30 ∨ kF k = 32 ∨ kF k = 34 ∨ kF k = 35 := by
  unfold kF
  split
  · exact Or.inl rfl
  split
  · exact Or.inr (Or.inl rfl)
  split
  · exact Or.inr (Or.inr (Or.inl rfl))
  · exact Or.inr (Or.inr (Or.inr rfl))
theorem kF_at (n : Nat) (h : 1 ≤ n ∧ n ≤ 4) : kindsA[n * 2 + 1]? = some (.func (.func (kF n)) #[] #[]) := by
  have : n = 1 ∨ n = 2 ∨ n = 3 ∨ n = 4 := by omega
  rcases this with rfl | rfl | rfl | rfl <;> rfl
/-- the line of an input by the function of its kind -/
theorem kind_any (b : Nat) (w : World) (xs : List Value) (l : List UInt8) (x : Inp) (h : Bd w b 56 xs l) (ht : Esc w) (hB : 4 < b) (hk : 1 ≤ x.kind ∧ x.kind ≤ 4) (hl : l.length + 6 * (inW x + 100) + 6 ≤ 140737488355328) :
    Calls Tryd.prog (kF x.kind) #[ptr b, inV x] w fun e w' => e = .returned (.tuple #[]) ∧ Bd w' b 56 xs (l ++ lineL x) ∧ Fr b w w' := by
  have hw := kindP_wt x
  have hk4 : x.kind = 1 ∨ x.kind = 2 ∨ x.kind = 3 ∨ x.kind = 4 := by omega
  unfold lineL kF
  rcases hk4 with e | e | e | e
  · have hp : kindP x = hiddenP x := by unfold kindP; rw [if_pos e]
    rw [hp] at hw ⊢
    rw [if_pos e]
    exact wHidden_any b w xs l x h ht hB (by omega)
  · have hp : kindP x = textP x := by unfold kindP; rw [if_neg (by omega), if_pos e]
    rw [hp] at hw ⊢
    rw [if_neg (by omega), if_pos e]
    exact wText_any b w xs l x h ht hB (by omega)
  · have hp : kindP x = secretP x := by unfold kindP; rw [if_neg (by omega), if_neg (by omega), if_pos e]
    rw [hp] at hw ⊢
    rw [if_neg (by omega), if_neg (by omega), if_pos e]
    exact wSecret_any b w xs l x h ht hB (by omega)
  · have hp : kindP x = boxP x := by unfold kindP; rw [if_neg (by omega), if_neg (by omega), if_neg (by omega)]
    rw [hp] at hw ⊢
    rw [if_neg (by omega), if_neg (by omega), if_neg (by omega)]
    exact wBox_any b w xs l x h ht hB (by omega)

set_option maxRecDepth 100000 in
set_option maxHeartbeats 3200000 in
theorem wForm_any (b g : Nat) (w : World) (l : List UInt8) (act but : ByteArray) (vI : Value) (xs : List Inp) (h : Bd w b 56 [.slice (some ⟨g, 0, none⟩) 5 5] l) (ht : Esc w) (hB : 4 < b) (hg : g < b) (hgk : w.heap[g]? = some (.cells kindsA 79)) (hI : ∀ w', Fr b w w' → LiesI w' vI xs) (hx : ∀ x ∈ xs, 1 ≤ x.kind ∧ x.kind ≤ 4) (hl : l.length + 6 * formW act xs but + 6 ≤ 140737488355328) (hs : xs.length ≤ 4611686018427387904) :
    Calls Tryd.prog 36 #[ptr b, .agg #[.string act, vI, .string but]] w fun e w' => e = .returned (.tuple #[]) ∧ Bd w' b 56 [.slice (some ⟨g, 0, none⟩) 5 5] (l ++ formL act xs but) ∧ Fr b w w' := by
  obtain ⟨oi, ci, rfl, _⟩ := hI w (Fr.refl _ _)
  have hblt := h.lt
  have B1 : Below w.heap.size w (w.alloc (.cells #[.string act, .slice oi xs.length ci, .string but] 31)) := (Below.refl _ _).alloc (Nat.le_refl _) _
  have HF1 := hide (fr_of_below B1 b (Nat.le_of_lt hblt))
  have e1 : wt [mFormHead, act, mFormInputs] = 28 + (act.size + (3 + 0)) := rfl
  have e3 : wt [mFormButton, but, mFormEnd] = 25 + (but.size + (22 + 0)) := rfl
  have hfl : l.length + 6 * (act.size + insW xs + but.size + 100) + 6 ≤ 140737488355328 := hl
  have HP1 := hide (parts_lit b (w.heap.size + 1) _ _ l [mFormHead, act, mFormInputs] (by simp) (h.next B1) (ht.next B1) hB (ne3 _ _ _ (by decide) (by decide)) (by rw [e1]; omega) (by show 3 ≤ 4611686018427387904; omega))
  have HFB : Hid ((w.alloc (.cells #[.string act, .slice oi xs.length ci, .string but] 31)).heap[w.heap.size]? = some (.cells #[.string act, .slice oi xs.length ci, .string but] 31)) := by show (w.heap.push _)[w.heap.size]? = _; simp
  have HI := hide hI
  have HX := hide hx
  have HT := hide ht
  have HB := hide hB
  have HGK := hide hgk
  clear h ht hI hx hgk B1 hB
  go_enter Tryd.func36, Tryd.ntmps36
  go_wp2_with fail
  refine HP1.out.mono ?_
  rintro e w1 ⟨rfl, hbd1, hfr1⟩
  have HD1 := hide hbd1
  have HR1 := hide (HF1.out.trans hfr1)
  have hF1 := hfr1.others _ _ HFB.out (by intro e; cases e; omega) (by intro c fz e; cases e)
  have f1 : w1.cell? ⟨w.heap.size, 1, none⟩ = some (.slice oi xs.length ci) := by simp [World.cell?, hF1]
  have HF2 := hide hF1
  have HRO := hide hfr1
  clear hbd1 hfr1 hF1 HP1
  go_wp2_with fail
  go_loopw [14] (fun i wr => ∃ k : Nat, k ≤ xs.length ∧ i = .int .i64 k ∧ Hid (Bd wr b 56 [.slice (some ⟨g, 0, none⟩) 5 5] ((l ++ partsA true [mFormHead, act, mFormInputs]) ++ insL (xs.take k))) ∧ Hid (Fr b (w.alloc (.cells #[.string act, .slice oi xs.length ci, .string but] 31)) wr)) (fun i _ => xs.length - (intOf i).toNat)
  case atStart => exact ⟨0, by omega, rfl, by show Bd _ _ _ _ _; rw [List.take_zero]; show Bd _ _ _ _ (_ ++ []); rw [List.append_nil]; exact HD1.out, HRO⟩
  case round =>
    obtain ⟨k, hk, rfl, hbd, hfr0⟩ := hrel
    have hfr : Hid (Fr b w wr) := HF1.out.trans hfr0.out
    by_cases hlt : k < xs.length
    · have hki : (k : Int) < (xs.length : Int) := by omega
      have HS := hide (insL_snoc xs k hlt)
      have HKX := hide (HX.out xs[k] (List.getElem_mem hlt))
      have HLX : Hid (((l ++ partsA true [mFormHead, act, mFormInputs]) ++ insL (xs.take k)).length + 6 * (inW xs[k] + 100) + 6 ≤ 140737488355328) := by
        have h1 := insL_len (xs.take k)
        have h2 := insW_take xs k hlt
        have h3 := partsA_len [mFormHead, act, mFormInputs] true
        rw [e1] at h3
        show _ ≤ _
        rw [List.length_append, List.length_append]
        omega
      obtain ⟨_, _, hoi, HCI⟩ := HI.out wr hfr.out
      obtain ⟨bl, o, ho, hbl, d0, d1, d2, d3⟩ := HCI k hlt
      cases hoi
      cases ho
      clear HCI
      obtain ⟨X, hXe⟩ : ∃ X, xs[k] = X := ⟨_, rfl⟩
      rw [hXe] at d0 d1 d2 d3 HS HKX HLX
      clear hXe
      obtain ⟨kd, nm, vl, lb⟩ := X
      obtain ⟨n, rfl⟩ : ∃ n : Nat, kd = (n : Int) := ⟨kd.toNat, by have := HKX.out.1; simp only at this; omega⟩
      have hn1 : 1 ≤ n ∧ n ≤ 4 := by have := HKX.out; simp only at this; omega
      have hn5 : (n : Int) < 5 := by omega
      have hn0 : (0 : Int) ≤ (n : Int) := by omega
      have BA : Below wr.heap.size wr (wr.alloc (.cells #[.int .i64 n, .string nm, .string vl, .string lb] 28)) := (Below.refl _ _).alloc (Nat.le_refl _) _
      have hblw := hbd.out.lt
      have HFA := hide (fr_of_below BA b (Nat.le_of_lt hblw))
      have HBA := hide (hbd.out.next BA)
      have HTA := hide (HT.out.fr (hfr.out.trans HFA.out) HB.out)
      have hIA : (wr.alloc (.cells #[.int .i64 n, .string nm, .string vl, .string lb] 28)).heap[wr.heap.size]? = some (.cells #[.int .i64 n, .string nm, .string vl, .string lb] 28) := by show (wr.heap.push _)[wr.heap.size]? = _; simp
      have cKW : (wr.alloc (.cells #[.int .i64 n, .string nm, .string vl, .string lb] 28)).cell? ⟨b, 2, none⟩ = some (.slice (some ⟨g, 0, none⟩) 5 5) := bd_kinds HBA.out
      have hGA : (wr.alloc (.cells #[.int .i64 n, .string nm, .string vl, .string lb] 28)).heap[g]? = some (.cells kindsA 79) := ((hfr.out.trans HFA.out).below.block g hg).trans HGK.out
      have HIA := hide hIA
      have HGA := hide hGA
      clear hIA hGA BA
      have HC : Hid (∀ f, kF n = f → Calls Tryd.prog f #[ptr b, .agg #[.int .i64 n, .string nm, .string vl, .string lb]] (wr.alloc (.cells #[.int .i64 n, .string nm, .string vl, .string lb] 28)).drew fun e w' => e = .returned (.tuple #[]) ∧ Bd w' b 56 [.slice (some ⟨g, 0, none⟩) 5 5] (((l ++ partsA true [mFormHead, act, mFormInputs]) ++ insL (xs.take k)) ++ lineL ⟨n, nm, vl, lb⟩) ∧ Fr b (wr.alloc (.cells #[.int .i64 n, .string nm, .string vl, .string lb] 28)).drew w') := fun f hf => by
        subst hf
        exact kind_any b _ _ _ ⟨n, nm, vl, lb⟩ HBA.out.drew HTA.out HB.out HKX.out HLX.out
      have y0 : ∀ Y, Fr b (wr.alloc (.cells #[.int .i64 n, .string nm, .string vl, .string lb] 28)) Y ∧ Y.cell? ⟨b, 2, none⟩ = some (.slice (some ⟨g, 0, none⟩) 5 5) → Y.cell? ⟨wr.heap.size, 0, none⟩ = some (.int .i64 n) := fun Y hY => by have := hY.1.others _ _ HIA.out (by intro e; cases e; omega) (by intro c fz e; cases e); simp [World.cell?, this]
      have y1 : ∀ Y, Fr b (wr.alloc (.cells #[.int .i64 n, .string nm, .string vl, .string lb] 28)) Y ∧ Y.cell? ⟨b, 2, none⟩ = some (.slice (some ⟨g, 0, none⟩) 5 5) → Y.cell? ⟨wr.heap.size, 0 + 1, none⟩ = some (.string nm) := fun Y hY => by have := hY.1.others _ _ HIA.out (by intro e; cases e; omega) (by intro c fz e; cases e); simp [World.cell?, this]
      have y2 : ∀ Y, Fr b (wr.alloc (.cells #[.int .i64 n, .string nm, .string vl, .string lb] 28)) Y ∧ Y.cell? ⟨b, 2, none⟩ = some (.slice (some ⟨g, 0, none⟩) 5 5) → Y.cell? ⟨wr.heap.size, 0 + 2, none⟩ = some (.string vl) := fun Y hY => by have := hY.1.others _ _ HIA.out (by intro e; cases e; omega) (by intro c fz e; cases e); simp [World.cell?, this]
      have y3 : ∀ Y, Fr b (wr.alloc (.cells #[.int .i64 n, .string nm, .string vl, .string lb] 28)) Y ∧ Y.cell? ⟨b, 2, none⟩ = some (.slice (some ⟨g, 0, none⟩) 5 5) → Y.cell? ⟨wr.heap.size, 0 + 3, none⟩ = some (.string lb) := fun Y hY => by have := hY.1.others _ _ HIA.out (by intro e; cases e; omega) (by intro c fz e; cases e); simp [World.cell?, this]
      have y4 : ∀ Y, Fr b (wr.alloc (.cells #[.int .i64 n, .string nm, .string vl, .string lb] 28)) Y ∧ Y.cell? ⟨b, 2, none⟩ = some (.slice (some ⟨g, 0, none⟩) 5 5) → Y.cell? ⟨b, 2, none⟩ = some (.slice (some ⟨g, 0, none⟩) 5 5) := fun Y hY => hY.2
      have y5 : ∀ Y, Fr b (wr.alloc (.cells #[.int .i64 n, .string nm, .string vl, .string lb] 28)) Y ∧ Y.cell? ⟨b, 2, none⟩ = some (.slice (some ⟨g, 0, none⟩) 5 5) → Y.cell? ⟨g, n * 2 + 1, none⟩ = some (.func (.func (kF n)) #[] #[]) := fun Y hY => kt_cell ((hY.1.below.block g hg).trans HGA.out) _ _ (kF_at n hn1)
      have hkc := kF_cases n
      generalize kF (n : Int) = f at *
      rcases hkc with rfl | rfl | rfl | rfl
      · go_wp2_with fail
        go_region_held3 (fun Y => Fr b (wr.alloc (.cells #[.int .i64 n, .string nm, .string vl, .string lb] 28)) Y ∧ Y.cell? ⟨b, 2, none⟩ = some (.slice (some ⟨g, 0, none⟩) 5 5))
          (first
            | assumption
            | exact ⟨(Fr.refl _ _).drew, cKW⟩
            | exact ⟨(Fr.refl _ _).drew.trans (by assumption), bd_kinds (by assumption)⟩)
          ((go_at_call 30; refine (HC.out _ rfl).mono ?_; rintro e w5 ⟨rfl, hbd5, hfr5⟩))
        have H1 := hide hbd5
        have H2 := hide ((hfr0.out.trans HFA.out).trans ((Fr.refl _ _).drew.trans hfr5))
        clear hbd5 hfr5
        go_wp2
        go_roundw
        case rel => exact ⟨k + 1, by omega, by go_num, by show Bd _ _ _ _ _; rw [HS.out, ← List.append_assoc]; exact H1.out, H2⟩
        case measure => simp [intOf] <;> omega
      · go_wp2_with fail
        go_region_held3 (fun Y => Fr b (wr.alloc (.cells #[.int .i64 n, .string nm, .string vl, .string lb] 28)) Y ∧ Y.cell? ⟨b, 2, none⟩ = some (.slice (some ⟨g, 0, none⟩) 5 5))
          (first
            | assumption
            | exact ⟨(Fr.refl _ _).drew, cKW⟩
            | exact ⟨(Fr.refl _ _).drew.trans (by assumption), bd_kinds (by assumption)⟩)
          ((go_at_call 32; refine (HC.out _ rfl).mono ?_; rintro e w5 ⟨rfl, hbd5, hfr5⟩))
        have H1 := hide hbd5
        have H2 := hide ((hfr0.out.trans HFA.out).trans ((Fr.refl _ _).drew.trans hfr5))
        clear hbd5 hfr5
        go_wp2
        go_roundw
        case rel => exact ⟨k + 1, by omega, by go_num, by show Bd _ _ _ _ _; rw [HS.out, ← List.append_assoc]; exact H1.out, H2⟩
        case measure => simp [intOf] <;> omega
      · go_wp2_with fail
        go_region_held3 (fun Y => Fr b (wr.alloc (.cells #[.int .i64 n, .string nm, .string vl, .string lb] 28)) Y ∧ Y.cell? ⟨b, 2, none⟩ = some (.slice (some ⟨g, 0, none⟩) 5 5))
          (first
            | assumption
            | exact ⟨(Fr.refl _ _).drew, cKW⟩
            | exact ⟨(Fr.refl _ _).drew.trans (by assumption), bd_kinds (by assumption)⟩)
          ((go_at_call 34; refine (HC.out _ rfl).mono ?_; rintro e w5 ⟨rfl, hbd5, hfr5⟩))
        have H1 := hide hbd5
        have H2 := hide ((hfr0.out.trans HFA.out).trans ((Fr.refl _ _).drew.trans hfr5))
        clear hbd5 hfr5
        go_wp2
        go_roundw
        case rel => exact ⟨k + 1, by omega, by go_num, by show Bd _ _ _ _ _; rw [HS.out, ← List.append_assoc]; exact H1.out, H2⟩
        case measure => simp [intOf] <;> omega
      · go_wp2_with fail
        go_region_held3 (fun Y => Fr b (wr.alloc (.cells #[.int .i64 n, .string nm, .string vl, .string lb] 28)) Y ∧ Y.cell? ⟨b, 2, none⟩ = some (.slice (some ⟨g, 0, none⟩) 5 5))
          (first
            | assumption
            | exact ⟨(Fr.refl _ _).drew, cKW⟩
            | exact ⟨(Fr.refl _ _).drew.trans (by assumption), bd_kinds (by assumption)⟩)
          ((go_at_call 35; refine (HC.out _ rfl).mono ?_; rintro e w5 ⟨rfl, hbd5, hfr5⟩))
        have H1 := hide hbd5
        have H2 := hide ((hfr0.out.trans HFA.out).trans ((Fr.refl _ _).drew.trans hfr5))
        clear hbd5 hfr5
        go_wp2
        go_roundw
        case rel => exact ⟨k + 1, by omega, by go_num, by show Bd _ _ _ _ _; rw [HS.out, ← List.append_assoc]; exact H1.out, H2⟩
        case measure => simp [intOf] <;> omega
    · have hk8 : ¬ (k : Int) < (xs.length : Int) := by omega
      obtain rfl : k = xs.length := by omega
      rw [List.take_length] at hbd
      have hF2 := hfr0.out.others _ _ HFB.out (by intro e; cases e; omega) (by intro c fz e; cases e)
      have f2 : wr.cell? ⟨w.heap.size, 2, none⟩ = some (.string but) := by simp [World.cell?, hF2]
      have HP2 := hide (parts_lit b wr.heap.size wr _ _ [mFormButton, but, mFormEnd] rfl hbd.out (HT.out.fr hfr.out HB.out) HB.out (ne3 _ _ _ (by decide) (by decide)) (by
        have h2 := insL_len xs
        have h3 := partsA_len [mFormHead, act, mFormInputs] true
        rw [e1] at h3
        rw [e3, List.length_append, List.length_append]
        omega) (by show 3 ≤ 4611686018427387904; omega))
      clear hF2
      go_wp2_with fail
      refine HP2.out.mono ?_
      rintro e w5 ⟨rfl, hbd5, hfr5⟩
      have H1 := hide hbd5
      have H2 := hide (hfr.out.trans hfr5)
      clear hbd5 hfr5
      go_wp2
      go_end0
      refine ⟨rfl, ?_, H2.out⟩
      have := H1.out
      unfold formL
      rw [List.append_assoc, List.append_assoc] at this
      rw [List.append_assoc]
      exact this
end Go.Proofs.YtjalggkhpnfbiaaDoor.pg
