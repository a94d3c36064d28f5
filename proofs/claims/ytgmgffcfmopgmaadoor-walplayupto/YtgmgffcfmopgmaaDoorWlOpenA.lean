import Derived.Test.YtgmgffcfmopgmaaDoorWlOpenW
namespace Go.Proofs.YtgmgffcfmopgmaaDoor.wl
open Go.ChangeShapes Go.WideShapes Go.ChangeAt Go.RowKit Go.Proofs.YtgmgffcfmopgmaaDoor.common Go.Proofs.YtgmgffcfmopgmaaDoor.dk

/-- what an Open does to the disk, what it answers -/
def opS (x : St) : St × Nat := if x.reads.2 = 0 then kpS x.reads.1 (Wl.good x.reads.1.b) x.reads.1.b.length else x.reads

set_option maxRecDepth 100000 in
set_option maxHeartbeats 800000 in
/-- an Open whose ReadAll is refused -/
theorem openL_read (w : World) (K p : Nat) (F : List Nat) (x : St) (h : Dk w p F x) (e : Nat → Addr) (he : Ed w K e) (hF : ∀ k ∈ F, K ≤ k) (hx : Fine x) (y : St) (n : Nat) (hr : x.reads = (y, n)) (hn : n ≠ 0) :
    Calls Tryd.prog 11 #[ptr p] w fun r' w' => r' = .returned (.tuple #[.pointer none, .slice none 0 0, errV e n]) ∧ Mv w p F y w' := by
  have HR := hide (reads_any w K p F x h e he hF hx (fun y hy => by rw [hy]; exact gate_lenB x hx.ok))
  rw [hr] at HR
  simp only [if_neg hn] at HR
  have hev : errV e n = errw.E e (n - 1) := by unfold errV; rw [if_neg hn]
  rw [hev] at HR ⊢
  clear h he hr hx hev hn
  go_enter Tryd.func11, Tryd.ntmps11
  go_wp2_with fail
  refine HR.out.mono ?_
  rintro r' w1 ⟨v, F1, rfl, hA, hD1, hf1, hs1⟩
  obtain ⟨oa, c, rfl⟩ := hA.rd.len
  have HMV : Hid (Mv w p F y w1) := ⟨F1, hD1, hf1, hs1⟩
  clear hA hD1 hf1 hs1 HR
  go_wp2_with fail
  go_ret3
  exact ⟨rfl, HMV.out⟩

set_option maxRecDepth 100000 in
set_option maxHeartbeats 800000 in
/-- an Open whose keep is refused -/
theorem openL_keep (w : World) (K p : Nat) (F : List Nat) (x : St) (h : Dk w p F x) (e : Nat → Addr) (he : Ed w K e) (hF : ∀ k ∈ F, K ≤ k) (hx : Fine x) (ht : crcw.Tab w) (y : St) (hr : x.reads = (y, 0)) (hy : Fine y) (hy2 : Fine (y.trunc (Wl.good y.b : Int)).1) (hb : y.b.length ≤ 4398046511104) (z : St) (n : Nat) (hk : kpS y (Wl.good y.b) y.b.length = (z, n)) (hn : n ≠ 0) (hG : 13 < K) :
    Calls Tryd.prog 11 #[ptr p] w fun r' w' => r' = .returned (.tuple #[.pointer none, .slice none 0 0, errV e n]) ∧ Mv w p F z w' := by
  have HR := hide (reads_any w K p F x h e he hF hx (fun y hy => by rw [hy]; exact gate_lenB x hx.ok))
  rw [hr] at HR
  simp only [if_true, errV_zero] at HR
  have hev : errV e n = errw.E e (n - 1) := by unfold errV; rw [if_neg hn]
  have HE := hide he
  have HTB := hide ht
  have HEV := hide hev
  clear h he ht hr hx hev
  go_enter Tryd.func11, Tryd.ntmps11
  go_wp2_with fail
  refine HR.out.mono ?_
  rintro r' w1 ⟨v, F1, rfl, hA, hD1, hf1, hs1⟩
  have hE1 := HE.out.fr hf1 hF
  have hF1 : ∀ k ∈ F1, K ≤ k := fun k hk => by
    rcases hs1 k hk with h1 | h1
    · exact hF k h1
    · exact Nat.le_trans HE.out.size h1
  have hT1 : crcw.Tab w1 := fun i hi => by
    rw [← HTB.out i hi]
    refine World.cell?_of_block (hf1.block _ (Nat.lt_of_lt_of_le hG HE.out.size) (fun hm => ?_))
    have h1 : K ≤ 13 := hF _ hm
    omega
  have hRc := ans_rc hA
  have HSC := hide (scan_any w1 v y.b hRc hb hT1)
  obtain ⟨oa, ca, rfl⟩ := hRc.rd.len
  have HD1 := hide hD1
  have HF1 := hide hf1
  have HS1 := hide hs1
  have HE1 := hide hE1
  clear hA hRc hT1 HR hD1 hf1 hs1 hE1
  go_wp2_with fail
  refine HSC.out.mono ?_
  rintro r' w2 ⟨v', its, rfl, hps, hown, hits, b2⟩
  have HKP := hide (keep_any w2 K p F1 y (HD1.out.below b2) (Wl.good y.b) y.b.length e (HE1.out.below b2) hF1 hy hy2)
  rw [hk] at HKP
  simp only [HEV.out] at HKP
  obtain ⟨ov, cv, rfl⟩ : ∃ ov cv, v' = .slice ov its.length cv := by
    rcases hown.2 with ⟨rfl, h0⟩ | ⟨g, c, cur, rfl, _⟩
    · exact ⟨none, 0, by rw [h0]⟩
    · exact ⟨_, c, rfl⟩
  have HB2 := hide b2
  clear hown hits b2 HSC hps hn hk
  go_wp2_with fail
  refine HKP.out.mono ?_
  rintro r' w3 ⟨rfl, F3, hD3, hf3, hs3⟩
  have HMV : Hid (Mv w p F z w3) := by
    refine ⟨F3, hD3, (HF1.out.next HB2.out).trans hf3 (fun i hi => HS1.out i hi), fun k hk => ?_⟩
    rcases hs3 k hk with h1 | h1
    · exact HS1.out k h1
    · exact Or.inr (by have := HB2.out.size; have := HF1.out.size; omega)
  clear hD3 hf3 hs3 HKP
  go_wp2_with fail
  go_ret3
  exact ⟨by rw [HEV.out]; rfl, HMV.out⟩
end Go.Proofs.YtgmgffcfmopgmaaDoor.wl
