import Derived.Test.YtidccfflpcgkiaaGreatDoorMRcPkBL
import Derived.Test.YtidccfflpcgkiaaGreatDoorMRcOnlyK
import Derived.Test.YtidccfflpcgkiaaGreatDoorMRcUn
namespace Go.Proofs.YtidccfflpcgkiaaGreatDoor.rc
open Go.ChangeShapes Go.WideShapes Go.ChangeAt Go.RowKit Go.Proofs.YtidccfflpcgkiaaGreatDoor.common Go.Proofs.YtidccfflpcgkiaaGreatDoor.dk
attribute [local go_sem ↓] Go.wp_at_zero Go.wp_at_succ

theorem liesR_one (w : World) (r : Rec) (oa : Option Addr) (c : Nat) (hl : Go.Proofs.YtidccfflpcgkiaaGreatDoor.ss.Lies (w.alloc (.cells (rcs r (.slice oa r.ss.length c)) 24)) (.slice oa r.ss.length c) r.ss) :
    LiesR (w.alloc (.cells (rcs r (.slice oa r.ss.length c)) 24)) (.slice (some ⟨w.heap.size, 0, none⟩) 1 1) [r] := by
  refine ⟨_, 1, rfl, fun i hi => ?_⟩
  have hi0 : i = 0 := by simp at hi; omega
  subst hi0
  refine ⟨w.heap.size, 0, .slice oa r.ss.length c, rfl, by simp, ?_, hl⟩
  have h1 := range_of (t := 24) (l := rcl9 r (.slice oa r.ss.length c)) (heap_alloc_new w (.cells (rcs r (.slice oa r.ss.length c)) 24))
  simpa using h1

set_option maxRecDepth 100000 in
set_option maxHeartbeats 12800000 in
theorem lawPackOnly (l : List UInt8) (v : Value) (w : World) (e : Nat → Addr) (hv : Lo w.heap.size w v l) (hl : l.length ≤ 1048576) (he : Env (e 1) (e 2) (errw.E e 0) w) (hE : errw.Errs w e) (hp : pk.Env w) :
    Calls Tryz.prog 7 #[v] w fun x w' => x = .returned (.bool true) ∧ Below w.heap.size w w' := by
  have HENV : Hid (∀ X, Below w.heap.size w X → Env (e 1) (e 2) (errw.E e 0) X ∧ errw.Errs X e) := fun X hX => ⟨he.below hX, hE.below hX⟩
  have HV := hide hv
  have hcv := conv_rd hv.rd
  obtain ⟨S, hS⟩ : ∃ S : ByteArray, S = ⟨l.toArray⟩ := ⟨_, rfl⟩
  have hsz : S.size ≤ 1048576 := by rw [hS]; show Array.size _ ≤ _; rw [List.size_toArray]; exact hl
  rw [← hS] at hcv
  obtain ⟨W0, hW0⟩ : ∃ W0, W0 = w.alloc (.cells (rcs ⟨1, S, S, eB, eB, eB, eB, [], (l.length : Int)⟩ (.slice none 0 0)) 24) := ⟨_, rfl⟩
  have b0 : Below w.heap.size w W0 := by rw [hW0]; exact (Below.refl _ _).alloc (Nat.le_refl _) _
  have hL0 : LiesR W0 (.slice (some ⟨w.heap.size, 0, none⟩) 1 1) [⟨1, S, S, eB, eB, eB, eB, [], (l.length : Int)⟩] := by
    rw [hW0]
    exact liesR_one w ⟨1, S, S, eB, eB, eB, eB, [], (l.length : Int)⟩ none 0 (lies_none _)
  have HBK := hide (lawPackBack _ _ W0 e hL0 (fun r hr => by
    rw [List.mem_singleton.1 hr]
    exact ⟨by simp only; omega, by simp only; omega, Nat.zero_le _, Nat.zero_le _, Nat.zero_le _, Nat.zero_le _, fun s hs => by cases hs⟩) (he.below b0) (hE.below b0) (hp.below b0))
  have HB0 := hide b0
  have HW0 := hide hW0
  obtain ⟨ov, cv, hvv⟩ : ∃ ov cv, v = .slice ov l.length cv := by obtain ⟨a, b, h, _⟩ := hv; exact ⟨a, b, h⟩
  subst hvv
  clear hv he hE hp hS hsz b0 hW0 hL0
  go_enter Tryz.func7, Tryz.ntmps7
  go_wp2_with fail
  rw [← HW0.out]
  refine HBK.out.mono ?_
  rintro x w1 ⟨rfl, b1⟩
  have HB1 := hide (keepW HB0.out b1)
  have HUN := hide (unpack_any l _ (e 1) (e 2) e w1 (HV.out.below HB1.out) hl (HENV.out w1 HB1.out).1 ((HENV.out w1 HB1.out).2.cell 1 (by decide)))
  unfold UnOut at HUN
  clear b1 HBK hcv HB0
  go_wp2_with fail
  refine HUN.out.mono ?_
  rintro x w2 ⟨o, v2, rfl, l2, b2, hu⟩
  have HB2 := hide (keepW HB1.out b2)
  have HL2 := hide l2
  have HUU := hide hu
  obtain ⟨o2, c2, hv2⟩ : ∃ o2 c2, v2 = .slice o2 (o.getD []).length c2 := by obtain ⟨a, b, h, _⟩ := l2; exact ⟨a, b, h⟩
  subst hv2
  clear l2 b2 hu HUN HB1
  cases o with
  | none =>
    have HNU := hide (errw.num_1 w2 e (HENV.out w2 HB2.out).2)
    simp only [Option.getD_none, List.length_nil, Option.isSome_none, Bool.false_eq_true, if_false]
    go_wp2_with fail
    refine HNU.out.mono ?_
    rintro x w9 ⟨rfl, h9⟩
    obtain rfl := h9.symm
    clear h9
    go_wp2_with fail
    go_ret
    exact ⟨rfl, HB2.out⟩
  | some y =>
    obtain ⟨y0, y4, yg, ye⟩ := HUU.out.is y rfl
    have hym : ∀ r ∈ y, mayB r = true := fun r hr => (yg r hr).1
    have hgood := pk_good y0 y4 hym
    have HPK := hide (pack_any y _ (e 1) (e 2) e w2 HL2.out (fun r hr => ⟨(may_sz (hym r hr)).small, (may_sz (hym r hr)).low⟩) (HENV.out w2 HB2.out).1 ((HENV.out w2 HB2.out).2.cell 2 (by decide)))
    unfold PackOut at HPK
    rw [hgood.1, hgood.2.1, ye] at HPK
    simp only [if_true] at HPK
    simp only [Option.getD_some, Option.isSome_some, if_true] at HPK ⊢
    obtain ⟨n, hn⟩ : ∃ n, n = y.length := ⟨_, rfl⟩
    rw [← hn] at HPK ⊢
    have n1 : (1 : Int) ≤ (n : Int) := by omega
    have n4 : (n : Int) ≤ 4 := by omega
    clear y0 y4 yg ye hym hgood hn HL2 HUU
    go_wp2_with fail
    refine HPK.out.mono ?_
    rintro x w3 ⟨vp, rfl, own3, b3⟩
    have HB3 := hide (keepW HB2.out b3)
    have HSB := hide (sameBytes_eq w3 (.slice ov l.length cv) vp l (HV.out.rd.below HB3.out) (rd_own own3) (by omega))
    obtain ⟨op, cp, rfl⟩ := own_slice own3
    clear own3 b3 HPK
    go_wp2_with fail
    refine HSB.out.mono ?_
    rintro x w4 ⟨rfl, b4⟩
    have HB4 := hide (keepW HB3.out b4)
    clear b4
    go_wp2_with fail
    go_ret
    exact ⟨rfl, HB4.out⟩
end Go.Proofs.YtidccfflpcgkiaaGreatDoor.rc
