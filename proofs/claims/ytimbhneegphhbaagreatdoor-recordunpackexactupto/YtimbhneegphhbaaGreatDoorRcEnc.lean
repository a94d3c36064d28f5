import Derived.Test.YtimbhneegphhbaaGreatDoorRcRdM
import Derived.Test.YtimbhneegphhbaaGreatDoorRcWkA
import Derived.Test.YtimbhneegphhbaaGreatDoorRcWkC
import Derived.Test.YtimbhneegphhbaaGreatDoorRcLent
import Derived.Test.YtimbhneegphhbaaGreatDoorErrWalks
namespace Go.Proofs.YtimbhneegphhbaaGreatDoor.rc
open Go.ChangeShapes Go.WideShapes Go.ChangeAt Go.RowKit Go.Proofs.YtimbhneegphhbaaGreatDoor.common Go.Proofs.YtimbhneegphhbaaGreatDoor.dk

end Go.Proofs.YtimbhneegphhbaaGreatDoor.rc

namespace Go.Proofs.YtimbhneegphhbaaGreatDoor.rc
open Go.ChangeShapes Go.WideShapes Go.ChangeAt Go.RowKit Go.Proofs.YtimbhneegphhbaaGreatDoor.common Go.Proofs.YtimbhneegphhbaaGreatDoor.dk

theorem kindsI (k : Int) (h0 : 0 < k) (h1 : k < 12) : k = 1 ∨ k = 2 ∨ k = 3 ∨ k = 4 ∨ k = 5 ∨ k = 6 ∨ k = 7 ∨ k = 8 ∨ k = 9 ∨ k = 10 ∨ k = 11 := by omega
/-- no text is long -/
structure Rec.Low (r : Rec) : Prop where
  id : r.id.size ≤ 1048576
  us : r.us.size ≤ 1048576
  cl : r.cl.size ≤ 1048576
  rd : r.rd.size ≤ 1048576
  ch : r.ch.size ≤ 1048576
  cd : r.cd.size ≤ 1048576
  ss : ∀ s ∈ r.ss, s.size ≤ 1048576
theorem fine_of {r : Rec} (h : mayB r = true) (hl : r.Low) : 0 < r.k ∧ r.k < 12 ∧ r.Fine := by
  unfold mayB isK at h
  simp only [Bool.and_eq_true, decide_eq_true_eq] at h
  obtain ⟨⟨k0, k1⟩, _, _, _, _, _, _, hL, hT⟩ := h
  have hlen : r.ss.length ≤ 16 := by
    unfold fitL at hL
    split at hL
    · simp only [Bool.and_eq_true, decide_eq_true_eq] at hL
      exact hL.1.1.2
    · simp only [decide_eq_true_eq] at hL
      omega
  have hat : 0 ≤ r.at_ ∧ r.at_ ≤ 1099511627776 := by
    unfold fitT at hT
    split at hT
    · simpa only [Bool.and_eq_true, decide_eq_true_eq] using hT
    · simp only [decide_eq_true_eq] at hT
      omega
  have hid := hl.id
  have hus := hl.us
  have hcl := hl.cl
  have hrd := hl.rd
  have hch := hl.ch
  have hcd := hl.cd
  exact ⟨k0, k1, by omega, by omega, by omega, by omega, by omega, by omega, hlen, fun s hs => by have := hl.ss s hs; omega, hat.1, by omega⟩
theorem recL_len {r : Rec} (hl : r.Low) (hn : r.ss.length ≤ 16) : (recL r).length ≤ 30000000 := by
  have t1 := txL_len r.id
  have t2 := txL_len r.us
  have t3 := txL_len r.cl
  have t4 := txL_len r.rd
  have t5 := txL_len r.ch
  have t6 := txL_len r.cd
  have hid := hl.id
  have hus := hl.us
  have hcl := hl.cl
  have hrd := hl.rd
  have hch := hl.ch
  have hcd := hl.cd
  have n1 : (numL r.at_.toNat).length ≤ 10 := (numF_len 9 r.at_.toNat).2
  have s1 : (lsL r.ss).length ≤ 10 + 16 * (1048576 + 10) := by
    unfold lsL
    have h3 := flat_len r.ss 1048576 hl.ss
    have h4 : (numL r.ss.length).length ≤ 10 := (numF_len 9 r.ss.length).2
    have h5 := Nat.mul_le_mul_right (1048576 + 10) hn
    rw [List.length_append]
    omega
  have i1 : (idL r).length ≤ 1048586 := by unfold idL; split <;> (try simp) <;> omega
  have i2 : (midL r).length ≤ 2097172 := by unfold midL; split <;> (try split) <;> (try simp) <;> omega
  have i3 : (endL r).length ≤ 20000000 := by unfold endL; split <;> (try split) <;> (try split) <;> (try simp) <;> omega
  unfold recL
  simp only [List.length_append, List.length_cons, List.length_nil]
  omega

end Go.Proofs.YtimbhneegphhbaaGreatDoor.rc
