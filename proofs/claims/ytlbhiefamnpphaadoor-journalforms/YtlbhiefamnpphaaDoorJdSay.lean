import Derived.Test.YtlbhiefamnpphaaDoorJdFm
namespace Go.Proofs.YtlbhiefamnpphaaDoor.Jc
set_option maxRecDepth 100000
/-- s says x, where two digits mean a year up to L -/
def Says (s : List UInt8) (L : Nat) (x : Dt) : Prop := Fm x ∧ (s = imfL x ∨ (s = rfcL x ∧ x.y ≤ L ∧ L < x.y + 100) ∨ s = ascL true x ∨ s = ascL false x)
theorem imf_3 {x : Dt} (hw : x.w < 7) : (imfL x)[3]? = some 44 := by
  obtain ⟨R, h⟩ : ∃ R, imfL x = wdN.getD x.w [] ++ 44 :: R := ⟨_, by unfold imfL; simp only [List.append_assoc, List.cons_append]; rfl⟩
  rw [h, List.getElem?_append_right (by rw [wdN_len _ hw]; omega), wdN_len _ hw]; rfl
theorem asc_3 {bl : Bool} {x : Dt} (hw : x.w < 7) : (ascL bl x)[3]? = some 32 := by
  obtain ⟨R, h⟩ : ∃ R, ascL bl x = wdN.getD x.w [] ++ 32 :: R := ⟨_, by unfold ascL; simp only [List.append_assoc, List.cons_append]; rfl⟩
  rw [h, List.getElem?_append_right (by rw [wdN_len _ hw]; omega), wdN_len _ hw]; rfl
theorem rfc_3 {x : Dt} (hw : x.w < 7) : (rfcL x)[3]? ≠ some 44 ∧ (rfcL x)[3]? ≠ some 32 := by
  obtain ⟨R, h⟩ : ∃ R, rfcL x = wdF.getD x.w [] ++ R := ⟨_, by unfold rfcL; simp only [List.append_assoc]; rfl⟩
  rw [h]
  generalize x.w = k at *
  match k, hw with
  | 0, _ | 1, _ | 2, _ | 3, _ | 4, _ | 5, _ | 6, _ => exact ⟨by simp [wdF], by simp [wdF]⟩
/-- what was read is what is said -/
def RdO (s : List UInt8) (L : Nat) : Option Dt → Prop
  | some x => Says s L x ∧ ∀ z, Says s L z → z = x
  | none => ∀ z, ¬ Says s L z
theorem done_fix {s : List UInt8} {L : Nat} {x : Dt} {c : Cs} (h : Rd imfL Fm (s, false) x c) (hc : c = ([], false)) : RdO s L (some x) := by
  obtain ⟨_, hx, e⟩ := h.back (by rw [hc])
  rw [hc, List.append_nil] at e
  have e' : s = imfL x := e
  refine ⟨⟨hx, Or.inl e'⟩, fun z hz => ?_⟩
  have h3 := imf_3 hx.w
  obtain ⟨hf, hz | ⟨hz, _⟩ | hz | hz⟩ := hz
  · exact ((h.on z [] hf (by rw [hz]; simp)).1).symm
  · rw [← e', hz] at h3; exact absurd h3 (rfc_3 hf.w).1
  · rw [← e', hz, asc_3 hf.w] at h3; simp at h3
  · rw [← e', hz, asc_3 hf.w] at h3; simp at h3
theorem not_fix {s : List UInt8} {x : Dt} {c : Cs} (h : Rd imfL Fm (s, false) x c) (hc : c ≠ ([], false)) : ∀ z, Fm z → s ≠ imfL z := fun z hz e => hc (h.on z [] hz (by rw [e]; simp)).2
theorem done_rfc {s : List UInt8} {L : Nat} {x : Dt} {c : Cs} (h : Rd rfcL (fun x => Fm x ∧ x.y ≤ L ∧ L < x.y + 100) (s, false) x c) (hc : c = ([], false)) : RdO s L (some x) := by
  obtain ⟨_, hx, e⟩ := h.back (by rw [hc])
  rw [hc, List.append_nil] at e
  have e' : s = rfcL x := e
  refine ⟨⟨hx.1, Or.inr (Or.inl ⟨e', hx.2⟩)⟩, fun z hz => ?_⟩
  have h3 := rfc_3 hx.1.w
  obtain ⟨hf, hz | ⟨hz, hy⟩ | hz | hz⟩ := hz
  · rw [← e', hz, imf_3 hf.w] at h3; exact absurd rfl h3.1
  · exact ((h.on z [] ⟨hf, hy⟩ (by rw [hz]; simp)).1).symm
  · rw [← e', hz, asc_3 hf.w] at h3; exact absurd rfl h3.2
  · rw [← e', hz, asc_3 hf.w] at h3; exact absurd rfl h3.2
theorem not_rfc {s : List UInt8} {L : Nat} {x : Dt} {c : Cs} (h : Rd rfcL (fun x => Fm x ∧ x.y ≤ L ∧ L < x.y + 100) (s, false) x c) (hc : c ≠ ([], false)) : ∀ z, Fm z → z.y ≤ L → L < z.y + 100 → s ≠ rfcL z := fun z hz h1 h2 e => hc (h.on z [] ⟨hz, h1, h2⟩ (by rw [e]; simp)).2
theorem asc_small {x : Dt} (h : ¬ x.d < 10) : ascL true x = ascL false x := by
  unfold ascL dyL; rw [decide_eq_false h]; rfl
theorem asc_on {s : List UInt8} {x : Dt} {bl : Bool} {c : Cs} (h : Rd (fun p : Bool × Dt => ascL p.1 p.2) (fun p => Fm p.2 ∧ (p.1 = true → p.2.d < 10)) (s, false) (bl, x) c) (z : Dt) (hz : Fm z) (e : s = ascL true z ∨ s = ascL false z) : x = z ∧ c = ([], false) := by
  have k : ∀ b, (b = true → z.d < 10) → s = ascL b z → x = z ∧ c = ([], false) := fun b hb e => by
    have := h.on (b, z) [] ⟨hz, hb⟩ (by rw [e]; simp)
    exact ⟨congrArg Prod.snd this.1, this.2⟩
  by_cases hd : z.d < 10
  · rcases e with e | e
    · exact k true (fun _ => hd) e
    · exact k false (fun _ => hd) e
  · rw [asc_small hd] at e
    exact k false (fun h => by cases h) (by rcases e with e | e <;> exact e)
theorem done_asc {s : List UInt8} {L : Nat} {x : Dt} {bl : Bool} {c : Cs} (h : Rd (fun p : Bool × Dt => ascL p.1 p.2) (fun p => Fm p.2 ∧ (p.1 = true → p.2.d < 10)) (s, false) (bl, x) c) (hc : c = ([], false)) : RdO s L (some x) := by
  obtain ⟨_, hx, e⟩ := h.back (by rw [hc])
  rw [hc, List.append_nil] at e
  have e' : s = ascL bl x := e
  refine ⟨⟨hx.1, Or.inr (Or.inr (by cases bl; exact Or.inr e'; exact Or.inl e'))⟩, fun z hz => ?_⟩
  have h3 := asc_3 (bl := bl) hx.1.w
  obtain ⟨hf, hz | ⟨hz, hy⟩ | hz⟩ := hz
  · rw [← e', hz, imf_3 hf.w] at h3; simp at h3
  · rw [← e', hz] at h3; exact absurd h3 (rfc_3 hf.w).2
  · exact (asc_on h z hf hz).1.symm
theorem not_asc {s : List UInt8} {x : Dt} {bl : Bool} {c : Cs} (h : Rd (fun p : Bool × Dt => ascL p.1 p.2) (fun p => Fm p.2 ∧ (p.1 = true → p.2.d < 10)) (s, false) (bl, x) c) (hc : c ≠ ([], false)) : ∀ z, Fm z → ¬ (s = ascL true z ∨ s = ascL false z) := fun z hz e => hc (asc_on h z hz e).2
theorem none_of {s : List UInt8} {L : Nat} (h1 : ∀ z, Fm z → s ≠ imfL z) (h2 : ∀ z, Fm z → z.y ≤ L → L < z.y + 100 → s ≠ rfcL z) (h3 : ∀ z, Fm z → ¬ (s = ascL true z ∨ s = ascL false z)) : RdO s L none := fun z hz => by
  obtain ⟨hf, hz | ⟨hz, a, b⟩ | hz⟩ := hz
  · exact h1 z hf hz
  · exact h2 z hf a b hz
  · exact h3 z hf hz
end Go.Proofs.YtlbhiefamnpphaaDoor.Jc
