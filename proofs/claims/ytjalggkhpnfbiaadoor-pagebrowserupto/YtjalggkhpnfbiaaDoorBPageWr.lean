import Derived.Test.YtjalggkhpnfbiaaDoorBPageText
namespace Go.Proofs.YtjalggkhpnfbiaaDoor.pg
open Go.ChangeShapes Go.WideShapes Go.ChangeAt Go.RowKit Go.Proofs.YtjalggkhpnfbiaaDoor.common
attribute [local go_sem ↓] Go.wp_at_zero Go.wp_at_succ

/-! ### the markup -/
abbrev mHiddenName : ByteArray := ⟨#[60, 105, 110, 112, 117, 116, 32, 116, 121, 112, 101, 61, 34, 104, 105, 100, 100, 101, 110, 34, 32, 110, 97, 109, 101, 61, 34]⟩
abbrev mHiddenEnd : ByteArray := ⟨#[34, 62, 10]⟩
abbrev mLabelHead : ByteArray := ⟨#[60, 112, 62, 60, 108, 97, 98, 101, 108, 62]⟩
abbrev mLabelEnd : ByteArray := ⟨#[60, 47, 108, 97, 98, 101, 108, 62, 60, 47, 112, 62, 10]⟩
abbrev mTextName : ByteArray := ⟨#[32, 60, 105, 110, 112, 117, 116, 32, 116, 121, 112, 101, 61, 34, 116, 101, 120, 116, 34, 32, 110, 97, 109, 101, 61, 34]⟩
abbrev mSecretName : ByteArray := ⟨#[32, 60, 105, 110, 112, 117, 116, 32, 116, 121, 112, 101, 61, 34, 112, 97, 115, 115, 119, 111, 114, 100, 34, 32, 110, 97, 109, 101, 61, 34]⟩
abbrev mBoxName : ByteArray := ⟨#[60, 105, 110, 112, 117, 116, 32, 116, 121, 112, 101, 61, 34, 99, 104, 101, 99, 107, 98, 111, 120, 34, 32, 110, 97, 109, 101, 61, 34]⟩
abbrev mBoxLabel : ByteArray := ⟨#[34, 32, 99, 104, 101, 99, 107, 101, 100, 62, 32]⟩
abbrev mInputValue : ByteArray := ⟨#[34, 32, 118, 97, 108, 117, 101, 61, 34]⟩
abbrev mPageHead : ByteArray := ⟨#[60, 33, 68, 79, 67, 84, 89, 80, 69, 32, 104, 116, 109, 108, 62, 10, 60, 104, 116, 109, 108, 32, 108, 97, 110, 103, 61, 34, 101, 110, 34, 62, 10, 60, 104, 101, 97, 100, 62, 10, 60, 109, 101, 116, 97, 32, 99, 104, 97, 114, 115, 101, 116, 61, 34, 117, 116, 102, 45, 56, 34, 62, 10, 60, 116, 105, 116, 108, 101, 62]⟩
abbrev mPageTitle : ByteArray := ⟨#[60, 47, 116, 105, 116, 108, 101, 62, 10, 60, 47, 104, 101, 97, 100, 62, 10, 60, 98, 111, 100, 121, 62, 10, 60, 104, 49, 62]⟩
abbrev mPageBody : ByteArray := ⟨#[60, 47, 104, 49, 62, 10]⟩
abbrev mPageEnd : ByteArray := ⟨#[60, 47, 98, 111, 100, 121, 62, 10, 60, 47, 104, 116, 109, 108, 62, 10]⟩
abbrev mLineHead : ByteArray := ⟨#[60, 112, 62]⟩
abbrev mLineEnd : ByteArray := ⟨#[60, 47, 112, 62, 10]⟩
abbrev mFormHead : ByteArray := ⟨#[60, 102, 111, 114, 109, 32, 109, 101, 116, 104, 111, 100, 61, 34, 112, 111, 115, 116, 34, 32, 97, 99, 116, 105, 111, 110, 61, 34]⟩
abbrev mFormInputs : ByteArray := ⟨#[34, 62, 10]⟩
abbrev mFormButton : ByteArray := ⟨#[60, 112, 62, 60, 98, 117, 116, 116, 111, 110, 32, 116, 121, 112, 101, 61, 34, 115, 117, 98, 109, 105, 116, 34, 62]⟩
abbrev mFormEnd : ByteArray := ⟨#[60, 47, 98, 117, 116, 116, 111, 110, 62, 60, 47, 112, 62, 10, 60, 47, 102, 111, 114, 109, 62, 10]⟩
abbrev mBoxHead : ByteArray := ⟨#[60, 112, 62, 60, 108, 97, 98, 101, 108, 62, 60, 105, 110, 112, 117, 116, 32, 116, 121, 112, 101, 61, 34, 99, 104, 101, 99, 107, 98, 111, 120, 34, 32, 110, 97, 109, 101, 61, 34]⟩
abbrev mTypedEnd : ByteArray := ⟨#[34, 62, 60, 47, 108, 97, 98, 101, 108, 62, 60, 47, 112, 62, 10]⟩

/-- markup and text in turn -/
def partsA : Bool → List ByteArray → List UInt8
  | _, [] => []
  | true, s :: r => s.data.toList ++ partsA false r
  | false, s :: r => Pg.esc s.data.toList ++ partsA true r
def wt : List ByteArray → Nat
  | [] => 0
  | s :: r => s.size + wt r
def partOf (b : Bool) (s : ByteArray) : List UInt8 := if b then s.data.toList else Pg.esc s.data.toList
theorem partOf_len (b : Bool) (s : ByteArray) : (partOf b s).length ≤ 6 * s.size := by
  have h := (Pg.esc_len s.data.toList).2
  have hs := len_list s
  unfold partOf
  split <;> omega
theorem partsA_cons (b : Bool) (s : ByteArray) (r : List ByteArray) : partsA b (s :: r) = partOf b s ++ partsA (!b) r := by
  cases b <;> rfl
theorem partsA_snoc (s : ByteArray) : ∀ (l : List ByteArray) (b : Bool), partsA b (l ++ [s]) = partsA b l ++ partOf (if l.length % 2 = 0 then b else !b) s
  | [], b => by rw [List.nil_append, partsA_cons]; show partOf b s ++ partsA (!b) [] = _; cases b <;> simp [partsA]
  | x :: r, b => by
    rw [List.cons_append, partsA_cons, partsA_cons, partsA_snoc s r (!b), List.append_assoc, List.length_cons]
    congr 2
    rcases Nat.mod_two_eq_zero_or_one r.length with h | h
    · rw [if_pos h, if_neg (by omega)]
    · rw [if_neg (by omega), if_pos (by omega), Bool.not_not]
theorem partsA_len : ∀ (l : List ByteArray) (b : Bool), (partsA b l).length ≤ 6 * wt l
  | [], b => by cases b <;> simp [partsA, wt]
  | x :: r, b => by
    rw [partsA_cons, List.length_append]
    have h1 := partOf_len b x
    have h2 := partsA_len r (!b)
    show _ ≤ 6 * (x.size + wt r)
    omega
theorem wt_take : ∀ (l : List ByteArray) (k : Nat) (h : k < l.length), wt (l.take k) + l[k].size ≤ wt l
  | x :: r, 0, _ => by show 0 + x.size ≤ x.size + wt r; omega
  | x :: r, k + 1, h => by
    have := wt_take r k (by simpa using h)
    have e : (x :: r)[k + 1] = r[k]'(by simpa using h) := rfl
    rw [e, List.take_succ_cons]
    show x.size + wt (r.take k) + _ ≤ x.size + wt r
    omega

/-- a slice of texts that reads as l -/
def LiesS (w : World) (v : Value) (l : List ByteArray) : Prop :=
  ∃ oa cap, v = .slice oa l.length cap ∧ ∀ i (h : i < l.length), ∃ b o, oa = some ⟨b, o, none⟩ ∧ b < w.heap.size ∧ w.cell? ⟨b, o + i, none⟩ = some (.string l[i])
theorem LiesS.below {w w' : World} {v : Value} {l : List ByteArray} (h : LiesS w v l) (hb : Below w.heap.size w w') : LiesS w' v l := by
  obtain ⟨oa, cap, hv, hc⟩ := h
  refine ⟨oa, cap, hv, fun i hi => ?_⟩
  obtain ⟨b, o, ho, hlt, c0⟩ := hc i hi
  exact ⟨b, o, ho, Nat.lt_of_lt_of_le hlt hb.size, (hb.cell hlt).trans c0⟩

set_option maxRecDepth 100000 in
set_option maxHeartbeats 1600000 in
theorem parts_any (b : Nat) (w : World) (xs : List Value) (l : List UInt8) (v : Value) (ps : List ByteArray) (h : Bd w b 56 xs l) (ht : Esc w) (hB : 4 < b) (hv : ∀ w', Fr b w w' → LiesS w' v ps) (hne : ∀ i (h : i < ps.length), i % 2 = 0 → 0 < ps[i].size) (hl : l.length + 6 * wt ps + 6 ≤ 140737488355328) (hps : ps.length ≤ 4611686018427387904) :
    Calls Tryd.prog 31 #[ptr b, v] w fun e w' => e = .returned (.tuple #[]) ∧ Bd w' b 56 xs (l ++ partsA true ps) ∧ Fr b w w' := by
  obtain ⟨oa, cap, rfl, _⟩ := hv w (Fr.refl _ _)
  have HH := hide h
  have HT := hide ht
  have HB := hide hB
  have HV := hide hv
  have HN := hide hne
  clear h ht hB hv hne
  go_enter Tryd.func31, Tryd.ntmps31
  go_wp2_with fail
  go_loopw [8] (fun i wr => ∃ k : Nat, k ≤ ps.length ∧ i = .int .i64 k ∧ Hid (Bd wr b 56 xs (l ++ partsA true (ps.take k))) ∧ Hid (Fr b w wr)) (fun i _ => ps.length - (intOf i).toNat)
  case atStart => exact ⟨0, by omega, rfl, by show Bd _ _ _ _ _; rw [List.take_zero]; show Bd _ _ _ _ (l ++ []); rw [List.append_nil]; exact HH.out, Fr.refl _ _⟩
  case round =>
    obtain ⟨k, hk, rfl, hbd, hfr⟩ := hrel
    by_cases hlt : k < ps.length
    · have hki : (k : Int) < (ps.length : Int) := by omega
      have z0 : (0 : Int) ≤ (k : Int) := by omega
      have HS : Hid (partsA true (ps.take (k + 1)) = partsA true (ps.take k) ++ partOf (decide (k % 2 = 0)) ps[k]) := by
        show _ = _
        rw [List.take_succ_eq_append_getElem hlt, partsA_snoc, List.length_take, Nat.min_eq_left (by omega)]
        by_cases hp : k % 2 = 0
        · rw [if_pos hp, decide_eq_true hp]
        · rw [if_neg hp, decide_eq_false hp]; rfl
      have HL : Hid ((l ++ partsA true (ps.take k)).length + 6 * ps[k].size + 6 ≤ 140737488355328) := by
        have h1 := partsA_len (ps.take k) true
        have h2 := wt_take ps k hlt
        show _ ≤ _
        rw [List.length_append]
        omega
      have HE := hide (HT.out.fr hfr.out HB.out)
      obtain ⟨oa', cap', he, hc⟩ := HV.out wr hfr.out
      cases he
      obtain ⟨bl, o, rfl, hbl, c0⟩ := hc k hlt
      have HNE := hide (HN.out k hlt)
      clear hc
      generalize ps[k] = s at *
      by_cases hp : k % 2 = 0
      · have hpi : ((k : Int) % 2 == 0) = true := by rw [show (k : Int) % 2 = ((k % 2 : Nat) : Int) from rfl, hp]; rfl
        have HP : Hid (partOf (decide (k % 2 = 0)) s = s.data.toList) := by show _ = _; rw [decide_eq_true hp]; rfl
        have hpos := HNE.out hp
        clear hp
        go_wp2_with fail
        refine (writeString_any b _ _ xs _ s hbd.out hpos (by have := HL.out; omega)).mono ?_
        rintro x w2 ⟨rfl, hbd2, hfr2⟩
        have H1 := hide hbd2
        have H2 := hide (hfr.out.trans hfr2)
        clear hbd2 hfr2
        go_wp2
        go_roundw
        case rel => exact ⟨k + 1, by omega, by go_num, by show Bd _ _ _ _ _; rw [HS.out, HP.out, ← List.append_assoc]; exact H1.out, H2⟩
        case measure => simp [intOf] <;> omega
      · have hpi : ((k : Int) % 2 == 0) = false := by
          rw [show (k : Int) % 2 = ((k % 2 : Nat) : Int) from rfl]
          apply beq_false_of_ne
          omega
        have HP : Hid (partOf (decide (k % 2 = 0)) s = Pg.esc s.data.toList) := by show _ = _; rw [decide_eq_false hp]; rfl
        clear hp
        go_wp2_with fail
        refine (text_any b _ xs _ s hbd.out HE.out HB.out HL.out).mono ?_
        rintro x w2 ⟨rfl, hbd2, hfr2⟩
        have H1 := hide hbd2
        have H2 := hide (hfr.out.trans hfr2)
        clear hbd2 hfr2
        go_wp2
        go_roundw
        case rel => exact ⟨k + 1, by omega, by go_num, by show Bd _ _ _ _ _; rw [HS.out, HP.out, ← List.append_assoc]; exact H1.out, H2⟩
        case measure => simp [intOf] <;> omega
    · have hk8 : ¬ (k : Int) < (ps.length : Int) := by omega
      have hkk : Hid (ps.take k = ps) := List.take_of_length_le (by omega)
      go_wp2
      go_end0
      refine ⟨rfl, ?_, hfr.out⟩
      have := hbd.out
      rw [hkk.out] at this
      exact this

/-- a list of texts that the call makes stays -/
theorem lit_stays (w : World) (b g : Nat) (ps : List ByteArray) (hg : w.heap.size = g) (hb : b < w.heap.size) : ∀ w', Fr b (w.alloc (.cells (ps.map Value.string).toArray 9)) w' → LiesS w' (.slice (some ⟨g, 0, none⟩) ps.length ps.length) ps := by
  subst hg
  intro w' hf
  have h0 : (w.alloc (.cells (ps.map Value.string).toArray 9)).heap[w.heap.size]? = some (.cells (ps.map Value.string).toArray 9) := by show (w.heap.push _)[w.heap.size]? = _; simp
  have h1 : w'.heap[w.heap.size]? = some (.cells (ps.map Value.string).toArray 9) := hf.others _ _ h0 (by intro e; cases e; omega) (by intro c fz e; cases e)
  refine ⟨_, _, rfl, fun i hi => ⟨w.heap.size, 0, rfl, (Array.getElem?_eq_some_iff.1 h1).1, ?_⟩⟩
  rw [Nat.zero_add]
  simp [World.cell?, h1, hi]

end Go.Proofs.YtjalggkhpnfbiaaDoor.pg
