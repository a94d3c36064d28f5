import Derived.Test.YtidccfflpcgkiaaGreatDoorMRcBackL
import Derived.Test.YtidccfflpcgkiaaGreatDoorMRcUn
import Derived.Test.YtidccfflpcgkiaaGreatDoorMRcOnlyK
namespace Go.Proofs.YtidccfflpcgkiaaGreatDoor.rc
open Go.ChangeShapes Go.WideShapes Go.ChangeAt Go.RowKit Go.Proofs.YtidccfflpcgkiaaGreatDoor.common Go.Proofs.YtidccfflpcgkiaaGreatDoor.dk
attribute [local go_sem ↓] Go.wp_at_zero Go.wp_at_succ

set_option maxRecDepth 100000 in
set_option maxHeartbeats 12800000 in
theorem lawOnly (l : List UInt8) (v : Value) (w : World) (e : Nat → Addr) (hv : Lo w.heap.size w v l) (hl : l.length ≤ 1048576) (he : Env (e 1) (e 2) (errw.E e 0) w) (hE : errw.Errs w e) (hp : pk.Env w) :
    Calls Tryz.prog 5 #[v] w fun x w' => x = .returned (.bool true) ∧ Below w.heap.size w w' := by
  have HENV : Hid (∀ X, Below w.heap.size w X → Env (e 1) (e 2) (errw.E e 0) X ∧ errw.Errs X e) := fun X hX => ⟨he.below hX, hE.below hX⟩
  have HV := hide hv
  have hcv := conv_rd hv.rd
  obtain ⟨S, hS⟩ : ∃ S : ByteArray, S = ⟨l.toArray⟩ := ⟨_, rfl⟩
  have hsz : S.size ≤ 1048576 := by rw [hS]; show Array.size _ ≤ _; rw [List.size_toArray]; exact hl
  rw [← hS] at hcv
  have HBK := hide (lawBack ⟨7, S, eB, eB, eB, eB, eB, [], 0⟩ (.slice none 0 0) w e (lies_none w) ⟨by simp only; omega, Nat.zero_le _, Nat.zero_le _, Nat.zero_le _, Nat.zero_le _, Nat.zero_le _, fun s hs => by cases hs⟩ he (hE.cell 1 (by decide)) hp)
  obtain ⟨ov, cv, hvv⟩ : ∃ ov cv, v = .slice ov l.length cv := by obtain ⟨a, b, h, _⟩ := hv; exact ⟨a, b, h⟩
  subst hvv
  clear hv he hE hp hS hsz
  go_enter Tryz.func5, Tryz.ntmps5
  go_wp2_with fail
  refine HBK.out.mono ?_
  rintro x w1 ⟨rfl, b1⟩
  have HB1 := hide b1
  have HDE := hide (decode_any l _ (e 1) (e 2) e w1 (HV.out.below b1) hl (HENV.out w1 b1).1 ((HENV.out w1 b1).2.cell 1 (by decide)))
  unfold DecOut at HDE
  clear b1 HBK hcv
  go_wp2_with fail
  refine HDE.out.mono ?_
  rintro x w2 ⟨o, v2, rfl, own2, b2, hd⟩
  obtain ⟨o2, c2, rfl⟩ := own_slice own2
  obtain ⟨R, hR⟩ : ∃ R, R = o.getD zR := ⟨_, rfl⟩
  rw [← hR] at own2
  rw [← hR]
  obtain ⟨X2, hX2⟩ : ∃ X2, X2 = w2.alloc (.cells (rcs R (.slice o2 R.ss.length c2)) 24) := ⟨_, rfl⟩
  have bX : Below w2.heap.size w2 X2 := by rw [hX2]; exact (Below.refl _ _).alloc (Nat.le_refl _) _
  have HQ2 : Hid (X2.heap[w2.heap.size]? = some (.cells (rcs R (.slice o2 R.ss.length c2)) 24 (0, 0))) := by show _ = _; rw [hX2]; exact heap_alloc_new w2 _
  have HRa : Hid (World.rangeAt (w2.alloc (.cells (rcs R (.slice o2 R.ss.length c2)) 24)) w2.heap.size 0 (rcs R (.slice o2 R.ss.length c2)).toList) := range_of (t := 24) (heap_alloc_new w2 _)
  have HB2 := hide (keepW (keepW HB1.out b2) bX)
  have HL2 := hide ((ss.lies_of_own own2).below bX)
  have HX2 := hide hX2
  have HDD := hide hd
  have HR := hide hR
  clear own2 b2 bX hX2 hd hR HDE HB1
  cases o with
  | none =>
    have hRz : R = zR := HR.out
    subst hRz
    have HSR := hide (sameRec_any zR _ (.slice none 0 0) X2 HL2.out (lies_none X2) (by decide))
    simp only [Option.isSome_none, Bool.false_eq_true, if_false]
    unfold zR at HRa HSR
    go_wp2_with (refine wpList_load_mid rfl 24 (.tmp 4) rfl w2.heap.size 0 rfl _ _ HRa.out Tryz.underlying24 rfl sizeRec ?_)
    rw [← HX2.out]
    refine HSR.out.mono ?_
    rintro x w3 ⟨rfl, b3⟩
    have HB3 := hide (keepW HB2.out b3)
    have HNU := hide (errw.num_1 w3 e (HENV.out w3 HB3.out).2)
    clear b3
    go_wp2_with (go_at_call 15; refine HNU.out.mono ?_; rintro x w9 ⟨rfl, h9⟩; obtain rfl := h9.symm)
    go_ret
    exact ⟨rfl, HB3.out⟩
  | some r =>
    have hRz : R = r := HR.out
    subst hRz
    obtain ⟨hm, hlow, hn16, hrl⟩ := HDD.out.is R rfl
    have HZ := hide (may_sz hm)
    have HCK := hide (check_any R _ (e 1) (e 2) (errw.E e 0) X2 HL2.out HZ.out.small (HENV.out X2 HB2.out).1)
    rw [hm] at HCK
    simp only [if_true] at HCK
    have HM := hide hm
    have HRL := hide hrl
    clear hm hlow hn16 hrl
    simp only [Option.isSome_some, if_true]
    go_wp2_with (refine wpList_load_mid rfl 24 (.tmp 4) rfl w2.heap.size 0 rfl _ _ HRa.out Tryz.underlying24 rfl sizeRec ?_)
    rw [← HX2.out]
    refine HCK.out.mono ?_
    rintro x w3 ⟨rfl, b3⟩
    have HQ3 := hide ((b3.block _ (Array.getElem?_eq_some_iff.1 HQ2.out).1).trans HQ2.out)
    have HRb : Hid (w3.rangeAt w2.heap.size 0 (rcs R (.slice o2 R.ss.length c2)).toList) := range_of (t := 24) HQ3.out
    have HB3 := hide (keepW HB2.out b3)
    have HEN := hide (encode_any R _ (e 1) (e 2) e w3 (HL2.out.below b3) HZ.out.small HZ.out.low (HENV.out w3 HB3.out).1)
    unfold EncOut at HEN
    rw [HM.out] at HEN
    simp only [if_true] at HEN
    rw [HRL.out] at HEN
    clear b3 HCK HRa HQ2
    go_wp2_with (refine wpList_load_mid rfl 24 (.tmp 4) rfl w2.heap.size 0 rfl _ _ HRb.out Tryz.underlying24 rfl sizeRec ?_)
    refine HEN.out.mono ?_
    rintro x w4 ⟨vp, rfl, ⟨n4, hn4, own4⟩, b4⟩
    have HB4 := hide (keepW HB3.out b4)
    have HSB := hide (sameBytes_eq w4 (.slice ov l.length cv) vp l (HV.out.rd.below HB4.out) (rd_own own4) (by omega))
    obtain ⟨op, cp, rfl⟩ := own_slice own4
    clear own4 b4 hn4 HEN HRb
    go_wp2_with fail
    refine HSB.out.mono ?_
    rintro x w5 ⟨rfl, b5⟩
    have HB5 := hide (keepW HB4.out b5)
    clear b5
    go_wp2_with fail
    go_ret
    exact ⟨rfl, HB5.out⟩
end Go.Proofs.YtidccfflpcgkiaaGreatDoor.rc
