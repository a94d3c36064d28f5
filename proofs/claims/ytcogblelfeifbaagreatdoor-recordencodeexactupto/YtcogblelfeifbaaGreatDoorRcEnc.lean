import Derived.Test.YtcogblelfeifbaaGreatDoorRcWkA
import Derived.Test.YtcogblelfeifbaaGreatDoorRcWkB
import Derived.Test.YtcogblelfeifbaaGreatDoorRcWkC
import Derived.Test.YtcogblelfeifbaaGreatDoorRcWkD
import Derived.Test.YtcogblelfeifbaaGreatDoorRcLent
import Derived.Test.YtcogblelfeifbaaGreatDoorErrWalks
namespace Go.Proofs.YtcogblelfeifbaaGreatDoor.rc
open Go.ChangeShapes Go.WideShapes Go.ChangeAt Go.RowKit Go.Proofs.YtcogblelfeifbaaGreatDoor.common Go.Proofs.YtcogblelfeifbaaGreatDoor.dk

theorem kindsI (k : Int) (h0 : 0 < k) (h1 : k < 12) : k = 1 ∨ k = 2 ∨ k = 3 ∨ k = 4 ∨ k = 5 ∨ k = 6 ∨ k = 7 ∨ k = 8 ∨ k = 9 ∨ k = 10 ∨ k = 11 := by omega
theorem walkW_any (b p : Nat) (r : Rec) (v : Value) (w : World) (h0 : 0 < r.k) (h1 : r.k < 12) (hw : Wr p w []) (hS : Src b p r v w) (hF : r.Fine) :
    Calls Tryz.prog 37 #[.pointer (some ⟨b, 0, none⟩), .iface 65 (.pointer (some ⟨p, 0, none⟩))] w fun e w' => e = .returned (.tuple #[]) ∧ Wr p w' (recL r) ∧ Below p w w' := by
  rcases kindsI r.k h0 h1 with h | h | h | h | h | h | h | h | h | h | h
  · exact walkW_1 b p r v w h hw hS hF
  · exact walkW_2 b p r v w h hw hS hF
  · exact walkW_3 b p r v w h hw hS hF
  · exact walkW_4 b p r v w h hw hS hF
  · exact walkW_5 b p r v w h hw hS hF
  · exact walkW_6 b p r v w h hw hS hF
  · exact walkW_7 b p r v w h hw hS hF
  · exact walkW_8 b p r v w h hw hS hF
  · exact walkW_9 b p r v w h hw hS hF
  · exact walkW_10 b p r v w h hw hS hF
  · exact walkW_11 b p r v w h hw hS hF
/-- no text is long -/
structure Rec.Low (r : Rec) : Prop where
  id : r.id.size ≤ 1048576
  us : r.us.size ≤ 1048576
  cl : r.cl.size ≤ 1048576
  rd : r.rd.size ≤ 1048576
  ch : r.ch.size ≤ 1048576
  cd : r.cd.size ≤ 1048576
  ss : ∀ s ∈ r.ss, s.size ≤ 1048576
theorem fine_of {r : Rec} (h : mayB r = true) (hl : r.Low) : 0 < r.k ∧ r.k < 12 ∧ r.Fine := by
  unfold mayB isK at h
  simp only [Bool.and_eq_true, decide_eq_true_eq] at h
  obtain ⟨⟨k0, k1⟩, _, _, _, _, _, _, hL, hT⟩ := h
  have hlen : r.ss.length ≤ 16 := by
    unfold fitL at hL
    split at hL
    · simp only [Bool.and_eq_true, decide_eq_true_eq] at hL
      exact hL.1.1.2
    · simp only [decide_eq_true_eq] at hL
      omega
  have hat : 0 ≤ r.at_ ∧ r.at_ ≤ 1099511627776 := by
    unfold fitT at hT
    split at hT
    · simpa only [Bool.and_eq_true, decide_eq_true_eq] using hT
    · simp only [decide_eq_true_eq] at hT
      omega
  have hid := hl.id
  have hus := hl.us
  have hcl := hl.cl
  have hrd := hl.rd
  have hch := hl.ch
  have hcd := hl.cd
  exact ⟨k0, k1, by omega, by omega, by omega, by omega, by omega, by omega, hlen, fun s hs => by have := hl.ss s hs; omega, hat.1, by omega⟩
theorem recL_len {r : Rec} (hl : r.Low) (hn : r.ss.length ≤ 16) : (recL r).length ≤ 30000000 := by
  have t1 := txL_len r.id
  have t2 := txL_len r.us
  have t3 := txL_len r.cl
  have t4 := txL_len r.rd
  have t5 := txL_len r.ch
  have t6 := txL_len r.cd
  have hid := hl.id
  have hus := hl.us
  have hcl := hl.cl
  have hrd := hl.rd
  have hch := hl.ch
  have hcd := hl.cd
  have n1 : (numL r.at_.toNat).length ≤ 10 := (numF_len 9 r.at_.toNat).2
  have s1 : (lsL r.ss).length ≤ 10 + 16 * (1048576 + 10) := by
    unfold lsL
    have h3 := flat_len r.ss 1048576 hl.ss
    have h4 : (numL r.ss.length).length ≤ 10 := (numF_len 9 r.ss.length).2
    have h5 := Nat.mul_le_mul_right (1048576 + 10) hn
    rw [List.length_append]
    omega
  have i1 : (idL r).length ≤ 1048586 := by unfold idL; split <;> (try simp) <;> omega
  have i2 : (midL r).length ≤ 2097172 := by unfold midL; split <;> (try split) <;> (try simp) <;> omega
  have i3 : (endL r).length ≤ 20000000 := by unfold endL; split <;> (try split) <;> (try split) <;> (try simp) <;> omega
  unfold recL
  simp only [List.length_append, List.length_cons, List.length_nil]
  omega

/-- what is answered: a row of one's own, no error; or nothing, and the refusal -/
def EncOut (r : Rec) (eA : Value) (w : World) (x : Ending) (w' : World) : Prop :=
  ∃ v', x = .returned (.tuple #[v', if mayB r then .nilIface else eA]) ∧ (∃ n, w'.ownsRow n 5 1 v' (if mayB r then recL r else []).length ((if mayB r then recL r else []).map B)) ∧ Below w.heap.size w w'

set_option maxRecDepth 100000 in
set_option maxHeartbeats 3200000 in
theorem encode_any (r : Rec) (v : Value) (ea em : Addr) (e : Nat → Addr) (w : World) (hv : Go.Proofs.YtcogblelfeifbaaGreatDoor.ss.Lies w v r.ss) (hz : r.Small) (hl : r.Low) (he : Env ea em (errw.E e 0) w) :
    Calls Tryz.prog 15 #[.agg (rcs r v)] w (EncOut r (errw.E e 0) w) := by
  obtain ⟨W0, hW0⟩ : ∃ W0, W0 = w.alloc (.cells (rcs r v) 24) := ⟨_, rfl⟩
  have hb0 : Below w.heap.size w W0 := by rw [hW0]; exact (Below.refl _ _).alloc (Nat.le_refl _) _
  have hs0 : W0.heap.size = w.heap.size + 1 := by rw [hW0]; simp
  have HC : Hid (BoxR W0 w.heap.size r v) := by show BoxR _ _ _ _; rw [hW0]; exact boxR w r v _
  have HM := hide (check_any r v ea em (errw.E e 0) W0 (hv.below hb0) hz (he.below hb0))
  have HE : Hid (∀ X, Below w.heap.size w X → KTab X) := fun X hX => (he.below hX).kt
  have HV : Hid (∀ X, Below w.heap.size w X → Go.Proofs.YtcogblelfeifbaaGreatDoor.ss.Lies X v r.ss) := fun X hX => hv.below hX
  have HB0 := hide hb0
  have HR : Hid (W0.rangeAt w.heap.size 0 [.int .i64 r.k, .string r.id, .string r.us, .string r.cl, .string r.rd, .string r.ch, .string r.cd, v, .int .i64 r.at_]) := by
    show World.rangeAt _ _ _ _
    rw [hW0]
    exact range_of (heap_alloc_new w _)
  have HS0 := hide hs0
  have HW0 := hide hW0
  clear hv he hb0 hW0 hs0
  unfold EncOut
  cases hm : mayB r with
  | false =>
    rw [hm] at HM
    simp only [Bool.false_eq_true, if_false]
    clear hm
    go_enter Tryz.func15, Tryz.ntmps15
    rw [HW0.out] at HR
    go_wp2_with (refine wpList_load_mid rfl 24 (.tmp 1) rfl w.heap.size 0 rfl _ _ HR.out Tryz.underlying24 rfl sizeRec ?_)
    rw [← HW0.out]
    refine HM.out.mono ?_
    rintro x w2 ⟨rfl, b2⟩
    have HB := hide (keepW HB0.out b2)
    clear b2
    go_wp2_with fail
    go_ret2
    exact ⟨_, rfl, ⟨0, World.ownsRow_nil _ _ _ _⟩, HB.out⟩
  | true =>
    rw [hm] at HM
    obtain ⟨k0, k1, hF⟩ := fine_of hm hl
    have HK0 := hide k0
    have HK1 := hide k1
    have HF := hide hF
    simp only [if_true]
    clear hm k0 k1 hF
    go_enter Tryz.func15, Tryz.ntmps15
    rw [HW0.out] at HR
    go_wp2_with (refine wpList_load_mid rfl 24 (.tmp 1) rfl w.heap.size 0 rfl _ _ HR.out Tryz.underlying24 rfl sizeRec ?_)
    rw [← HW0.out]
    refine HM.out.mono ?_
    rintro x w2 ⟨rfl, b2⟩
    have hz2 : w.heap.size < w2.heap.size := by have := b2.size; have := HS0.out; omega
    obtain ⟨X, hX⟩ : ∃ X, X = w2.alloc (.cells #[.slice none 0 0] 62) := ⟨_, rfl⟩
    have bX : Below w2.heap.size w2 X := by rw [hX]; exact (Below.refl _ _).alloc (Nat.le_refl _) _
    have hwr : Wr w2.heap.size X [] := ⟨.slice none 0 0, by rw [hX]; exact heap_alloc_new w2 _, World.ownsRow_nil _ _ _ _⟩
    have bl : Below w.heap.size w w2 := keepW HB0.out b2
    have hsrc : Src w.heap.size w2.heap.size r v X := by
      have hbel : ∀ Y, Below w2.heap.size X Y → Below w2.heap.size w2 Y := fun Y hY => bX.trans hY
      exact ⟨hz2, fun Y hY => HC.out Y (keepW b2 (hbel Y hY)), fun Y hY => HV.out Y (keepW bl (hbel Y hY)), fun Y hY => HE.out Y (keepW bl (hbel Y hY))⟩
    have HWK := hide (walkW_any w.heap.size w2.heap.size r v X HK0.out HK1.out hwr hsrc HF.out)
    have HBX : Hid (∀ Y, Below w2.heap.size X Y → Below w.heap.size w Y) := fun Y hY => keepW bl (bX.trans hY)
    have HX := hide hX
    clear b2 hz2 hX bX hwr bl hsrc
    go_wp2_with fail
    rw [← HX.out]
    refine HWK.out.mono ?_
    rintro x w3 ⟨rfl, ⟨v3, hb3, hown3⟩, b3⟩
    have c3 := cell_of hb3 0
    obtain ⟨o3, cp3, hv3⟩ := own_slice hown3
    have HO3 := hide hown3
    have HB3 := hide (HBX.out _ b3)
    clear hb3 hown3 b3
    subst hv3
    go_wp2_with fail
    go_ret2
    exact ⟨_, rfl, ⟨_, HO3.out⟩, HB3.out⟩
end Go.Proofs.YtcogblelfeifbaaGreatDoor.rc
