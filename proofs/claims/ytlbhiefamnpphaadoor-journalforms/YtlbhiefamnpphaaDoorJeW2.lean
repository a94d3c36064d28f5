import Derived.Test.YtlbhiefamnpphaaDoorJeW1
namespace Go.Proofs.YtlbhiefamnpphaaDoor.je
open Go.ChangeShapes Go.WideShapes Go.ChangeAt Go.RowKit Go.Proofs.YtlbhiefamnpphaaDoor.common Go.Proofs.YtlbhiefamnpphaaDoor.Jc Go.Proofs.YtlbhiefamnpphaaDoor.jc
attribute [local go_sem ↓] Go.wp_at_zero Go.wp_at_succ

/-- at b lies a cursor -/
def Cu (t : TypeId) (tl : List Value) (w : World) (b : Nat) (c : Cs) : Prop := w.heap[b]? = some (.cells (.string (tx c.1) :: .bool c.2 :: tl).toArray t)
/-- all but the block b is as it was -/
structure Fk (b : Nat) (w w' : World) : Prop where
  os : w'.os = w.os
  tape : w'.tape = w.tape
  output : w'.output = w.output
  size : w.heap.size ≤ w'.heap.size
  block : ∀ k, k < w.heap.size → k ≠ b → w'.heap[k]? = w.heap[k]?
theorem Fk.refl (b : Nat) (w : World) : Fk b w w := ⟨rfl, rfl, rfl, Nat.le_refl _, fun _ _ _ => rfl⟩
theorem Fk.trans {b : Nat} {w w1 w2 : World} (h : Fk b w w1) (k : Fk b w1 w2) : Fk b w w2 := ⟨k.os.trans h.os, k.tape.trans h.tape, k.output.trans h.output, Nat.le_trans h.size k.size, fun i hi hn => (k.block i (Nat.lt_of_lt_of_le hi h.size) hn).trans (h.block i hi hn)⟩
theorem Fk.below {b base : Nat} {w w' : World} (h : Fk b w w') (hb : base ≤ b) (hs : base ≤ w.heap.size) : Below base w w' := ⟨h.os, h.tape, h.output, h.size, fun k hk => h.block k (by omega) (by omega)⟩
theorem Fk.set {b : Nat} {w w' : World} (h : Fk b w w') (j : Nat) (v : Value) : Fk b w (w'.setCell ⟨b, j, none⟩ v) := ⟨h.os, h.tape, h.output, by simpa [World.setCell] using h.size, fun k hk hn => by rw [set_else hn]; exact h.block k hk hn⟩
theorem Fk.of {b : Nat} {w w' : World} (h : Below w.heap.size w w') : Fk b w w' := ⟨h.os, h.tape, h.output, h.size, fun k hk _ => h.block k hk⟩
theorem Cu.cells {t : TypeId} {tl : List Value} {w : World} {b : Nat} {c : Cs} (h : Cu t tl w b c) : w.cell? ⟨b, 0, none⟩ = some (.string (tx c.1)) ∧ w.cell? ⟨b, 1, none⟩ = some (.bool c.2) ∧ w.frozen? ⟨b, 0, none⟩ = false ∧ w.frozen? ⟨b, 1, none⟩ = false := by
  unfold Cu at h
  refine ⟨?_, ?_, ?_, ?_⟩
  · simp [World.cell?, h]
  · simp [World.cell?, h]
  · simp [World.frozen?, h]
  · simp [World.frozen?, h]
theorem Cu.rest {t : TypeId} {tl : List Value} {w : World} {b : Nat} {c : Cs} (h : Cu t tl w b c) (r : List UInt8) : Cu t tl (w.setCell ⟨b, 0, none⟩ (.string (tx r))) b (r, c.2) := by
  unfold Cu at h ⊢
  rw [set_box h]; simp
theorem Cu.fail {t : TypeId} {tl : List Value} {w : World} {b : Nat} {c : Cs} (h : Cu t tl w b c) (f : Bool) : Cu t tl (w.setCell ⟨b, 1, none⟩ (.bool f)) b (c.1, f) := by
  unfold Cu at h ⊢
  rw [set_box h]; simp
theorem Cu.lt {t : TypeId} {tl : List Value} {w : World} {b : Nat} {c : Cs} (h : Cu t tl w b c) : b < w.heap.size := (Array.getElem?_eq_some_iff.1 h).1
theorem cut_tx (s p : List UInt8) : cutB (tx s) (tx p) = (tx (if p.isPrefixOf s then s.drop p.length else s), p.isPrefixOf s) := by
  unfold cutB
  have e : ∀ l : List UInt8, (tx l).data.toList = l := fun l => by simp [tx]
  rw [e, e]
  cases h : p.isPrefixOf s with
  | true =>
    simp only [if_true]
    congr 1
    apply ByteArray.ext
    apply Array.toList_inj.1
    rw [ext_list, e, e, tx_size, tx_size]
    exact List.take_of_length_le (by rw [List.length_drop]; exact Nat.le_refl _)
  | false => rfl
abbrev ptr (b : Nat) : Value := .pointer (some ⟨b, 0, none⟩)

set_option maxRecDepth 100000 in
set_option maxHeartbeats 1600000 in
theorem takes_any (t : TypeId) (tl : List Value) (w : World) (b : Nat) (c : Cs) (p : List UInt8) (h : Cu t tl w b c) :
    Calls Tryd.prog 55 #[ptr b, .string (tx p)] w fun e w' => e = .returned (.bool (p.isPrefixOf c.1)) ∧ Cu t tl w' b (if p.isPrefixOf c.1 then c.1.drop p.length else c.1, c.2) ∧ Fk b w w' := by
  have HC := hide (cutPrefix_any (tx c.1) (tx p) w)
  rw [cut_tx] at HC
  obtain ⟨c0, c1, f0, f1⟩ := h.cells
  have HU := hide (h.rest (if p.isPrefixOf c.1 then c.1.drop p.length else c.1))
  have HF : Hid (Fk b w (w.setCell ⟨b, 0, none⟩ (.string (tx (if p.isPrefixOf c.1 then c.1.drop p.length else c.1))))) := (Fk.refl b w).set _ _
  generalize (if p.isPrefixOf c.1 then c.1.drop p.length else c.1) = r at *
  generalize p.isPrefixOf c.1 = B at *
  simp only at HC
  clear h c1 f1
  generalize tx r = R at *
  go_enter Tryd.func55, Tryd.ntmps55
  go_wp2_with fail
  refine HC.out.mono ?_
  rintro e w1 ⟨rfl, rfl⟩
  go_wp2_with fail
  go_ret
  exact ⟨rfl, HU.out, HF.out⟩

set_option maxRecDepth 100000 in
set_option maxHeartbeats 1600000 in
theorem must_any (t : TypeId) (tl : List Value) (w : World) (b : Nat) (c : Cs) (p : List UInt8) (h : Cu t tl w b c) :
    Calls Tryd.prog 37 #[ptr b, .string (tx p)] w fun e w' => e = .returned (.tuple #[]) ∧ Cu t tl w' b (mustS p c) ∧ Fk b w w' := by
  have HT := hide (takes_any t tl w b c p h)
  have HM : Hid (mustS p c = if p.isPrefixOf c.1 then (c.1.drop p.length, c.2) else (c.1, true)) := rfl
  generalize mustS p c = c' at *
  cases hp : p.isPrefixOf c.1 with
  | true =>
    rw [hp] at HT HM
    clear h hp
    go_enter Tryd.func37, Tryd.ntmps37
    go_wp2_with fail
    refine HT.out.mono ?_
    rintro e w1 ⟨rfl, hc, hf⟩
    have HC := hide hc
    have HF := hide hf
    clear hc hf
    go_wp2_with fail
    first | go_end0 | refine bodyPost_end (results_none rfl _ _ _) rfl ?_
    exact ⟨rfl, by have h1 := HC.out; have h2 := HM.out; simp only [if_true] at h1 h2; rw [h2]; exact h1, HF.out⟩
  | false =>
    rw [hp] at HT HM
    clear h hp
    go_enter Tryd.func37, Tryd.ntmps37
    go_wp2_with fail
    refine HT.out.mono ?_
    rintro e w1 ⟨rfl, hc, hf⟩
    have HC : Hid (Cu t tl w1 b c) := hc
    obtain ⟨_, c1, _, f1⟩ := HC.out.cells
    have HC2 := hide (HC.out.fail true)
    have HF := hide (hf.set 1 (.bool true))
    clear hc hf
    go_wp2_with fail
    first | go_end0 | refine bodyPost_end (results_none rfl _ _ _) rfl ?_
    exact ⟨rfl, by have h2 := HM.out; simp only [if_false, Bool.false_eq_true] at h2; rw [h2]; exact HC2.out, HF.out⟩

/-- the digits, as a text -/
abbrev decB : ByteArray := ⟨#[48, 49, 50, 51, 52, 53, 54, 55, 56, 57]⟩
theorem idx_dec (a : UInt8) : Lib.indexByte decB.data.toList a = if 48 ≤ a.toNat ∧ a.toNat ≤ 57 then ((a.toNat - 48 : Nat) : Int) else -1 := by
  have key : ∀ n : Fin 256, Lib.indexByte decB.data.toList (UInt8.ofNat n.val) = if 48 ≤ n.val ∧ n.val ≤ 57 then ((n.val - 48 : Nat) : Int) else -1 := by decide +kernel
  have h := key ⟨a.toNat, a.toNat_lt⟩
  simp only [UInt8.ofNat_toNat] at h
  exact h

set_option maxRecDepth 100000 in
set_option maxHeartbeats 3200000 in
theorem digit_any (t : TypeId) (tl : List Value) (w : World) (b : Nat) (c : Cs) (h : Cu t tl w b c) :
    Calls Tryd.prog 56 #[ptr b, .string decB] w fun e w' => e = .returned (.int .i64 ((digS c).1 : Int)) ∧ Cu t tl w' b (digS c).2 ∧ Fk b w w' := by
  obtain ⟨l, f⟩ := c
  obtain ⟨c0, c1, f0, f1⟩ := h.cells
  simp only at c0 c1
  cases l with
  | nil =>
    have HD : Hid (digS ([], f) = (0, ([], true))) := rfl
    have HC := hide (h.fail true)
    have HF := hide ((Fk.refl b w).set 1 (.bool true))
    have e0 : tx [] = (⟨#[]⟩ : ByteArray) := rfl
    rw [e0] at c0
    generalize digS ([], f) = q at *
    clear h e0
    go_enter Tryd.func56, Tryd.ntmps56
    go_wp2_with fail
    go_ret
    exact ⟨by rw [HD.out]; rfl, by rw [HD.out]; exact HC.out, HF.out⟩
  | cons a r =>
    have hs : (tx (a :: r)).size = r.length + 1 := by rw [tx_size]; rfl
    have hx : ∀ hh, (tx (a :: r))[0]'hh = a := fun hh => rfl
    have hne : ((tx (a :: r)).toList == []) = false := by
      apply beq_false_of_ne
      rw [ByteArray.toList_eq]; simp [tx]
    have hsl : (tx (a :: r)).extract 1 (tx (a :: r)).size = tx r := by
      apply ByteArray.ext; apply Array.toList_inj.1
      rw [ext_list, tx_size]
      simp [tx]
    have HI := hide (sIndexB_any decB a w)
    rw [idx_dec] at HI
    by_cases hd : 48 ≤ a.toNat ∧ a.toNat ≤ 57
    · rw [if_pos hd] at HI
      have HD : Hid (digS (a :: r, f) = (a.toNat - 48, (r, f))) := by show _ = _; unfold digS; simp only; rw [if_pos hd]
      have HC := hide (h.rest r)
      have HF := hide ((Fk.refl b w).set 0 (.string (tx r)))
      have h0 : 0 < (tx (a :: r)).size := by omega
      generalize digS (a :: r, f) = q at *
      generalize a.toNat - 48 = k at *
      generalize tx (a :: r) = X at *
      clear h hd hs
      go_enter Tryd.func56, Tryd.ntmps56
      go_wp2_with fail
      refine HI.out.mono ?_
      rintro e w1 ⟨rfl, rfl⟩
      go_wp2_with fail
      go_ret
      exact ⟨by rw [HD.out]; rfl, by rw [HD.out]; exact HC.out, HF.out⟩
    · rw [if_neg hd] at HI
      have HD : Hid (digS (a :: r, f) = (0, (a :: r, true))) := by show _ = _; unfold digS; simp only; rw [if_neg hd]
      have HC := hide (h.fail true)
      have HF := hide ((Fk.refl b w).set 1 (.bool true))
      have h0 : 0 < (tx (a :: r)).size := by omega
      generalize digS (a :: r, f) = q at *
      generalize hX : tx (a :: r) = X at *
      clear h hd hs hX
      go_enter Tryd.func56, Tryd.ntmps56
      go_wp2_with fail
      refine HI.out.mono ?_
      rintro e w1 ⟨rfl, rfl⟩
      go_wp2_with fail
      go_ret
      exact ⟨by rw [HD.out]; rfl, by rw [HD.out]; exact HC.out, HF.out⟩

theorem dig_lt (c : Cs) : (digS c).1 < 10 := by
  unfold digS
  split
  · simp
  · split
    · simp only; omega
    · simp
theorem digs_step (k acc : Nat) (c : Cs) : digsS (k + 1) acc c = digsS k (10 * acc + (digS c).1) (digS c).2 := rfl

/-- what a reader of numbers comes to -/
def NumP (R : Cs → Nat → Cs → Prop) (t : TypeId) (tl : List Value) (b : Nat) (c : Cs) (w : World) (e : Ending) (w' : World) : Prop := ∃ (n : Nat) (c' : Cs), e = .returned (.int .i64 (n : Int)) ∧ n ≤ 10000 ∧ R c n c' ∧ Cu t tl w' b c' ∧ Fk b w w'
theorem numP {R : Cs → Nat → Cs → Prop} {t : TypeId} {tl : List Value} {b : Nat} {c c' : Cs} {w w' : World} {e : Ending} {n : Nat} (h1 : e = .returned (.int .i64 (n : Int))) (hn : n ≤ 10000) (h2 : R c n c') (h3 : Cu t tl w' b c') (h4 : Fk b w w') : NumP R t tl b c w e w' := ⟨n, c', h1, hn, h2, h3, h4⟩
set_option maxRecDepth 100000 in
set_option maxHeartbeats 3200000 in
theorem digits_any (t : TypeId) (tl : List Value) (w : World) (b : Nat) (c : Cs) (k : Nat) (hk : k ≤ 4) (h : Cu t tl w b c) :
    Calls Tryd.prog 38 #[ptr b, .int .i64 (k : Int)] w fun e w' => NumP (RdD k) t tl b c w e w' := by
  have HG := hide (digs0 k c)
  obtain ⟨N, hN⟩ : ∃ N, N = digsS k 0 c := ⟨_, rfl⟩
  rw [← hN] at HG
  have HN := hide hN
  clear hN
  go_enter Tryd.func38, Tryd.ntmps38
  go_wp2_with fail
  go_loopw [5, 7] (fun u v wr => ∃ (acc i : Nat) (d : Cs), u = .int .i64 (acc : Int) ∧ v = .int .i64 (i : Int) ∧ i ≤ k ∧ Hid (acc < 10 ^ i) ∧ Hid (N = digsS (k - i) acc d) ∧ Hid (Cu t tl wr b d) ∧ Hid (Fk b w wr)) (fun _ v _ => 5 - (intOf v).toNat)
  case atStart => exact ⟨0, 0, c, rfl, rfl, by omega, by show _ < _; simp, HN, h, Fk.refl _ _⟩
  case round =>
    obtain ⟨acc, i, d, rfl, rfl, ik, HA, HS, HC, HF⟩ := hrel
    have hacc : acc < 10000 := Nat.lt_of_lt_of_le HA.out (Nat.pow_le_pow_right (n := 10) (by decide) (show i ≤ 4 by omega))
    by_cases hik : i < k
    · have hii : (i : Int) < (k : Int) := by omega
      have HD := hide (digit_any t tl wr b d HC.out)
      have hlt := dig_lt d
      have HS2 : Hid (N = digsS (k - (i + 1)) (10 * acc + (digS d).1) (digS d).2) := by
        show _ = _
        rw [HS.out, show k - i = k - (i + 1) + 1 by omega, digs_step]
      have HA2 : Hid (10 * acc + (digS d).1 < 10 ^ (i + 1)) := by show _ < _; have := HA.out; rw [Nat.pow_succ]; omega
      have Hv : Hid (Value.int .i64 (wrap64 ((i : Int) + 1)) = .int .i64 ((i + 1 : Nat) : Int)) := by show _ = _; rw [wrpN i (by omega)]; rfl
      clear HS HA h HN HG HC
      generalize (digS d).1 = q at *
      generalize (digS d).2 = d2 at *
      go_wp2_with fail
      refine HD.out.mono ?_
      rintro e w1 ⟨rfl, hc1, hf1⟩
      have HC2 := hide hc1
      have HF2 := hide (HF.out.trans hf1)
      clear hc1 hf1
      go_wp2_with fail
      go_roundw
      case rel => exact ⟨10 * acc + q, i + 1, d2, by first | rfl | go_num, by first | exact Hv.out | go_num, by omega, HA2, HS2, HC2, HF2⟩
      case measure => simp [intOf]; omega
    · have ek : i = k := by omega
      subst ek
      have hii : ¬ ((i : Int) < (i : Int)) := by omega
      have e1 : N = (acc, d) := by rw [HS.out, Nat.sub_self]; rfl
      have HE := hide e1
      clear hik e1
      go_wp2_with fail
      go_ret
      exact numP rfl (Nat.le_of_lt hacc) (by have := HG.out; rw [HE.out] at this; exact this) HC.out HF.out

set_option maxRecDepth 100000 in
set_option maxHeartbeats 1600000 in
theorem isDone_any (t : TypeId) (tl : List Value) (w : World) (b : Nat) (c : Cs) (h : Cu t tl w b c) :
    Calls Tryd.prog 28 #[ptr b] w fun e w' => e = .returned (.bool (decide (c = ([], false)))) ∧ w' = w := by
  obtain ⟨l, f⟩ := c
  obtain ⟨c0, c1, f0, f1⟩ := h.cells
  simp only at c0 c1
  clear h
  cases f with
  | true =>
    go_enter Tryd.func28, Tryd.ntmps28
    go_wp2_with fail
    go_ret
    exact ⟨by simp, rfl⟩
  | false =>
    cases l with
    | nil =>
      have e0 : tx [] = (⟨#[]⟩ : ByteArray) := rfl
      rw [e0] at c0
      clear e0
      go_enter Tryd.func28, Tryd.ntmps28
      go_wp2_with fail
      go_ret
      exact ⟨by simp, rfl⟩
    | cons a r =>
      have hne : ((tx (a :: r)).toList == []) = false := by
        apply beq_false_of_ne
        rw [ByteArray.toList_eq]; simp [tx]
      generalize tx (a :: r) = X at *
      go_enter Tryd.func28, Tryd.ntmps28
      go_wp2_with fail
      go_ret
      exact ⟨by simp, rfl⟩
end Go.Proofs.YtlbhiefamnpphaaDoor.je
