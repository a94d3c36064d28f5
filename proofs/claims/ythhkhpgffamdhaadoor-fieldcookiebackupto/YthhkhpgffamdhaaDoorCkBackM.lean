import Derived.Test.YthhkhpgffamdhaaDoorCkAll
import Derived.Test.YthhkhpgffamdhaaDoorCkText
namespace Go.Proofs.YthhkhpgffamdhaaDoor.fd
open Go.Proofs.YthhkhpgffamdhaaDoor.common
open Go.Proofs.YthhkhpgffamdhaaDoor.lst (PB)

theorem not_white_of {c : UInt8} (h : 33 ≤ c.toNat) : Fd.white c = false := by
  cases e : Fd.white c with
  | false => rfl
  | true => have := (Fd.white_iff c).1 e; omega
theorem tok_ge {c : UInt8} (h : Fd.tok c = true) : 33 ≤ c.toNat ∧ c ≠ 59 ∧ c ≠ 61 := by
  have := of_decide_eq_true h
  refine ⟨by omega, ?_, ?_⟩
  · rintro rfl; revert this; decide
  · rintro rfl; revert this; decide
theorem ck_ge {c : UInt8} (h : Fd.ck c = true) : 33 ≤ c.toNat ∧ c ≠ 59 ∧ c ≠ 34 := by
  have := of_decide_eq_true h
  refine ⟨by omega, ?_, ?_⟩
  · rintro rfl; revert this; decide
  · rintro rfl; revert this; decide
theorem isCk_iff {p : PB} (h : isCk p.1 p.2 = true) : p.1.data.toList ≠ [] ∧ (∀ c ∈ p.1.data.toList, Fd.tok c = true) ∧ (∀ c ∈ p.2.data.toList, Fd.ck c = true) := by
  unfold isCk Fd.token at h
  rw [Bool.and_eq_true, Bool.and_eq_true] at h
  obtain ⟨⟨h1, h2⟩, h3⟩ := h
  refine ⟨?_, fun c hc => List.all_eq_true.1 h2 c hc, fun c hc => List.all_eq_true.1 h3 c hc⟩
  intro e
  rw [e] at h1
  cases h1
def oneL (p : PB) : List UInt8 := p.1.data.toList ++ 61 :: p.2.data.toList
theorem one_list (p : PB) : (one p).data.toList = oneL p := by
  unfold one ckB oneL
  simp
theorem oneL_all {p : PB} (h : isCk p.1 p.2 = true) : ∀ c ∈ oneL p, 33 ≤ c.toNat ∧ c ≠ 59 := by
  obtain ⟨_, h2, h3⟩ := isCk_iff h
  intro c hc
  rcases List.mem_append.1 hc with hc | hc
  · have := tok_ge (h2 c hc); exact ⟨this.1, this.2.1⟩
  · rcases List.mem_cons.1 hc with rfl | hc
    · exact ⟨by decide, by decide⟩
    · have := ck_ge (h3 c hc); exact ⟨this.1, this.2.1⟩
theorem dropWhile_none {q : UInt8 → Bool} {l : List UInt8} (h : ∀ x ∈ l, q x = false) : l.dropWhile q = l := by
  cases l with
  | nil => rfl
  | cons a r => rw [List.dropWhile_cons_of_neg (by rw [h a (by simp)]; decide)]
theorem trim_pre {pre l : List UInt8} (hp : pre = [] ∨ pre = [32]) (hl : ∀ c ∈ l, Fd.white c = false) (hne : l ≠ []) : Fd.trim (pre ++ l) = l := by
  have hr : Lib.trimRightS (pre ++ l) [32, 9] = pre ++ l := by
    unfold Lib.trimRightS
    have : (pre ++ l).reverse.dropWhile (fun c => [32, 9].contains c) = (pre ++ l).reverse := by
      rw [List.reverse_append]
      cases hh : l.reverse with
      | nil => exact absurd (List.reverse_eq_nil_iff.1 hh) hne
      | cons a r =>
        have ha : Fd.white a = false := hl a (List.mem_reverse.1 (by rw [hh]; simp))
        rw [List.cons_append, List.dropWhile_cons_of_neg]
        intro e
        rw [show Fd.white a = [32, 9].contains a from rfl, e] at ha
        cases ha
    rw [this, List.reverse_reverse]
  unfold Fd.trim Lib.trimS
  rw [hr]
  unfold Lib.trimLeftS
  rcases hp with rfl | rfl
  · exact dropWhile_none fun x hx => hl x hx
  · rw [show ([32] : List UInt8) ++ l = 32 :: l from rfl, List.dropWhile_cons_of_pos (by decide)]
    exact dropWhile_none fun x hx => hl x hx
/-- the bytes up to a semicolon -/
theorem tw_pc {l r : List UInt8} (hl : ∀ c ∈ l, c ≠ 59) : (l ++ r).takeWhile isPc = l ++ r.takeWhile isPc ∧ (l ++ r).dropWhile isPc = r.dropWhile isPc := by
  induction l with
  | nil => exact ⟨rfl, rfl⟩
  | cons a t ih =>
    have ha : isPc a = true := decide_eq_true (hl a (by simp))
    obtain ⟨h1, h2⟩ := ih fun c hc => hl c (by simp [hc])
    rw [List.cons_append, List.takeWhile_cons_of_pos ha, List.dropWhile_cons_of_pos ha, h1, h2]
    exact ⟨rfl, rfl⟩
theorem pcs_step {pre l r : List UInt8} (acc : List (List UInt8)) (hp : pre = [] ∨ pre = [32]) (hl : ∀ c ∈ l, 33 ≤ c.toNat ∧ c ≠ 59) (hne : l ≠ []) (ha : acc.length ≤ 16) (hr : r = [] ∨ ∃ t, r = 59 :: t) :
    pcsL (pre ++ l ++ r) acc = pcsL r.tail (acc ++ [l]) := by
  have hpl : ∀ c ∈ pre ++ l, c ≠ 59 := by
    intro c hc
    rcases List.mem_append.1 hc with hc | hc
    · rcases hp with rfl | rfl
      · cases hc
      · rw [List.mem_singleton] at hc; subst hc; decide
    · exact (hl c hc).2
  obtain ⟨h1, h2⟩ := tw_pc (r := r) hpl
  have h3 : r.takeWhile isPc = [] ∧ (tk 59 (r.dropWhile isPc)).2 = r.tail := by
    rcases hr with rfl | ⟨t, rfl⟩
    · exact ⟨rfl, rfl⟩
    · exact ⟨rfl, rfl⟩
  rw [h3.1, List.append_nil] at h1
  have ht : Fd.trim (pre ++ l) = l := trim_pre hp (fun c hc => not_white_of (hl c hc).1) hne
  have hadd : pcAdd acc (pre ++ l ++ r) = acc ++ [l] := by
    unfold pcAdd
    rw [h1, ht, if_neg hne]
  have hrest : pcRest (pre ++ l ++ r) = r.tail := by
    unfold pcRest
    rw [h2, h3.2]
  cases hh : pre ++ l ++ r with
  | nil =>
    have := congrArg List.length hh
    rw [List.length_append, List.length_append] at this
    cases l with
    | nil => exact absurd rfl hne
    | cons _ _ => simp at this
  | cons x t =>
    rw [pcsL_next x t acc ha, ← hh, hadd, hrest]
theorem joinL_cons (p q : PB) (r : List PB) : joinL (p :: q :: r) = oneL p ++ (59 :: 32 :: joinL (q :: r)) := by
  unfold joinL
  rw [List.map_cons, List.map_cons, Lib.join_cons, Lib.join_cons, one_list]
  rfl
theorem joinL_one (p : PB) : joinL [p] = oneL p := by
  unfold joinL
  rw [List.map_cons, List.map_nil, Lib.join_one, one_list]
theorem oneL_ne (p : PB) : oneL p ≠ [] := by unfold oneL; simp
theorem pcs_join : ∀ (l : List PB) (pre : List UInt8) (acc : List (List UInt8)), (pre = [] ∨ pre = [32]) → l ≠ [] → (∀ p ∈ l, isCk p.1 p.2 = true) → acc.length + l.length ≤ 17 → pcsL (pre ++ joinL l) acc = acc ++ l.map oneL := by
  intro l
  induction l with
  | nil => intro _ _ _ h; exact absurd rfl h
  | cons p r ih =>
    intro pre acc hp _ hk hn
    rw [List.length_cons] at hn
    cases r with
    | nil =>
      rw [joinL_one]
      have := pcs_step (r := []) acc hp (oneL_all (hk p (by simp))) (oneL_ne p) (by omega) (Or.inl rfl)
      rw [List.append_nil] at this
      rw [this]
      rfl
    | cons q t =>
      rw [joinL_cons, ← List.append_assoc]
      rw [pcs_step (r := 59 :: 32 :: joinL (q :: t)) acc hp (oneL_all (hk p (by simp))) (oneL_ne p) (by omega) (Or.inr ⟨_, rfl⟩)]
      have := ih [32] (acc ++ [oneL p]) (Or.inr rfl) (by simp) (fun x hx => hk x (by simp [hx])) (by simp only [List.length_append, List.length_cons, List.length_nil] at hn ⊢; omega)
      show pcsL ([32] ++ joinL (q :: t)) _ = _
      rw [this]
      simp
theorem pcs_of_join (l : List PB) (hk : allCk l = true) (hn : l.length ≤ 16) : pcsL (joinL l) [] = l.map oneL := by
  cases l with
  | nil => rfl
  | cons p r =>
    have := pcs_join (p :: r) [] [] (Or.inl rfl) (by simp) (fun x hx => List.all_eq_true.1 hk x hx) (by rw [List.length_nil]; omega)
    simpa using this
theorem one_back {p : PB} (h : isCk p.1 p.2 = true) : pcOk (oneL p) = true ∧ mkP (oneL p) = p := by
  obtain ⟨h1, h2, h3⟩ := isCk_iff h
  have hn : ∀ c ∈ p.1.data.toList, (decide (c ≠ 61)) = true := fun c hc => decide_eq_true (tok_ge (h2 c hc)).2.2
  have e1 : pcName (oneL p) = p.1.data.toList := by
    unfold pcName before oneL
    rw [List.takeWhile_append_of_pos hn, List.takeWhile_cons_of_neg (by decide), List.append_nil]
  have e2 : behind 61 (oneL p) = p.2.data.toList := by
    unfold behind oneL
    rw [List.dropWhile_append_of_pos hn, List.dropWhile_cons_of_neg (by decide)]
    rfl
  have e3 : pcVal (oneL p) = p.2.data.toList := by
    unfold pcVal
    rw [e2]
    unfold unq
    rw [if_neg]
    rintro ⟨g1, g2, _⟩
    cases hh : p.2.data.toList with
    | nil => rw [hh] at g1; simp at g1
    | cons a t =>
      rw [hh] at g2
      have : a = 34 := by simpa using g2
      exact (ck_ge (h3 a (by rw [hh]; simp))).2.2 this
  have e4 : (⟨(pcName (oneL p)).toArray⟩ : ByteArray) = p.1 := by rw [e1]
  have e5 : (⟨(pcVal (oneL p)).toArray⟩ : ByteArray) = p.2 := by rw [e3]
  refine ⟨?_, ?_⟩
  · unfold pcOk
    rw [e4, e5, h, Bool.and_true]
    simp [oneL]
  · unfold mkP
    rw [e4, e5]
theorem ck_back (l : List PB) (hk : allCk l = true) (hn : l.length ≤ 16) :
    (pcsL (joinL l) []).length = l.length ∧ (pcsL (joinL l) []).all pcOk = true ∧ (pcsL (joinL l) []).map mkP = l := by
  rw [pcs_of_join l hk hn]
  have ha : ∀ p ∈ l, isCk p.1 p.2 = true := fun p hp => List.all_eq_true.1 hk p hp
  refine ⟨List.length_map .., ?_, ?_⟩
  · rw [List.all_eq_true]
    intro x hx
    obtain ⟨p, hp, rfl⟩ := List.mem_map.1 hx
    exact (one_back (ha p hp)).1
  · rw [List.map_map]
    conv => rhs; rw [← List.map_id l]
    exact List.map_congr_left fun p hp => (one_back (ha p hp)).2

end Go.Proofs.YthhkhpgffamdhaaDoor.fd
