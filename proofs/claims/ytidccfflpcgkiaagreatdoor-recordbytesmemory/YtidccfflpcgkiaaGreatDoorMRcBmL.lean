import Derived.Test.YtidccfflpcgkiaaGreatDoorMRcMemQ
import Derived.Test.YtidccfflpcgkiaaGreatDoorMRcTidAll
import Derived.Test.YtidccfflpcgkiaaGreatDoorMRdSameD
import Derived.Test.YtidccfflpcgkiaaGreatDoorMRcUn
import Derived.Test.YtidccfflpcgkiaaGreatDoorMRepeat
namespace Go.Proofs.YtidccfflpcgkiaaGreatDoor.rc
open Go.ChangeShapes Go.WideShapes Go.ChangeAt Go.RowKit Go.Proofs.YtidccfflpcgkiaaGreatDoor.common Go.Proofs.YtidccfflpcgkiaaGreatDoor.dk
attribute [local go_sem ↓] Go.wp_at_zero Go.wp_at_succ

set_option maxRecDepth 100000 in
set_option maxHeartbeats 25600000 in
theorem lawBytesMemory (l : List Rec) (v : Value) (w : World) (e : Nat → Addr) (hv : LiesR w v l) (hs : ∀ r ∈ l, TidIn r) (he : Env (e 1) (e 2) (errw.E e 0) w) (hE : w.cell? ⟨2, 0, none⟩ = some (errw.E e 2)) (hp : pk.Env w) :
    Calls Tryz.prog 8 #[v] w fun x w' => x = .returned (.bool true) ∧ Below w.heap.size w w' := by
  have HENV : Hid (∀ X, Below w.heap.size w X → Env (e 1) (e 2) (errw.E e 0) X ∧ X.cell? ⟨2, 0, none⟩ = some (errw.E e 2) ∧ pk.Env X) := fun X hX => ⟨he.below hX, (hX.cell (p := ⟨2, 0, none⟩) (World.block_lt_of_cell? w _ hE)).trans hE, hp.below hX⟩
  have HTA := hide (tidyAll_any l v w hv hs hp)
  unfold TaOut at HTA
  obtain ⟨ov, cv, hvv⟩ : ∃ ov cv, v = .slice ov l.length cv := by obtain ⟨a, b, h, _⟩ := hv; exact ⟨a, b, h⟩
  subst hvv
  clear hv hs he hE hp
  go_enter Tryz.func8, Tryz.ntmps8
  go_wp2_with fail
  refine HTA.out.mono ?_
  rintro x w1 ⟨vq, q, sq, rfl, hown, q0, q4, hqm, b1⟩
  obtain ⟨gq, cq, rfl, hgb, hgq, hcap, hr⟩ := hown.slot q0
  have HB1 := hide b1
  have HO1 := hide hown
  have hgood := pk_good q0 q4 hqm
  have HPE : Hid (pkE q = 0) := hgood.1
  have HPL : Hid (3 ≤ (pkL q).length ∧ (pkL q).length ≤ 5425) := hgood.2.2
  have HSL : Hid (∀ r ∈ q, r.Small ∧ r.Low) := fun r hr => ⟨(may_sz (hqm r hr)).small, (may_sz (hqm r hr)).low⟩
  have HQS : Hid (∀ r ∈ q, r.ss.length ≤ 16) := fun r hr => (may_sz (hqm r hr)).len
  have HQM := hide hqm
  have HQ4 := hide q4
  have HQ0 := hide q0
  have HGQ : Hid (w.heap.size ≤ gq ∧ gq < w1.heap.size) := ⟨hgb, hgq⟩
  -- the first one
  obtain ⟨r0, t, u0, st, hq, hsq⟩ : ∃ r0 t u0 st, q = r0 :: t ∧ sq = u0 :: st := by
    cases q with
    | nil => simp at q0
    | cons a b =>
      cases sq with
      | nil => have := hown.len; simp at this
      | cons c d => exact ⟨a, b, c, d, rfl, rfl⟩
  have HQE := hide hq
  have HSQ := hide hsq
  have HM0 : Hid (mayB r0 = true) := hqm r0 (by rw [hq]; exact List.mem_cons_self ..)
  have HEL : Hid (1 < (recL r0).length ∧ (recL r0).length ≤ 1354) := rec_len HM0.out
  have HU0 : Hid (w1.ownsRow w.heap.size 9 1 u0 r0.ss.length (r0.ss.map Value.string)) := by
    have h1 := hown.each 0 (by rw [hsq]; exact Nat.zero_lt_succ _)
    simp only [hq, hsq, List.getElem_cons_zero] at h1
    exact h1
  obtain ⟨ou, cu, hu0⟩ := own_slice HU0.out
  subst hu0
  have HRG : Hid (w1.rangeAt gq 0 (rcl9 r0 (.slice ou r0.ss.length cu))) := fun j x hx => by
    have h1 := hr j x (by rw [hq, hsq]; show (rcl9 r0 _ ++ _)[j]? = _; rw [List.getElem?_append_left (List.getElem?_eq_some_iff.1 hx).1]; exact hx)
    exact h1
  have HLQ : Hid (∀ X, Below w1.heap.size w1 X → LiesR X (.slice (some ⟨gq, 0, none⟩) q.length cq) q) := fun X hX => by
    have := ((hown.below hX).lies q.length (Nat.le_refl _))
    rwa [List.take_length] at this
  have HHE := hide (heldOf_any q _ w1 (HLQ.out w1 (Below.refl _ _)) HQS.out HQ4.out)
  clear hown hr hgb hgq hqm hgood b1 q0 q4 hq hsq hcap
  have n0 : (0 : Int) < (q.length : Int) := by have := HQ0.out; omega
  have n1 : (0 : Int) ≤ (0 : Int) := Int.le_refl _
  go_wp2_with fail
  refine HHE.out.mono ?_
  rintro x w2 ⟨vh, sh, rfl, hh, b2⟩
  have HH2 := hide hh
  have HB2 := hide (keepW HB1.out b2)
  have HW2 := hide b2
  have HZ1 : Hid (w1.heap.size ≤ w2.heap.size) := b2.size
  have HKH : Hid (∀ X, Below w2.heap.size w2 X → OwnR w1.heap.size X vh q sh) := fun X hX => hh.below hX
  have HKQ : Hid (∀ X, Below w2.heap.size w2 X → LiesR X (.slice (some ⟨gq, 0, none⟩) q.length cq) q) := fun X hX => HLQ.out X (keepW HW2.out hX)
  have HKO : Hid (∀ X, Below w2.heap.size w2 X → OwnR w.heap.size X (.slice (some ⟨gq, 0, none⟩) q.length cq) q sq) := fun X hX => HO1.out.below (keepW HW2.out hX)
  have HKR : Hid (∀ X, Below w2.heap.size w2 X → X.rangeAt gq 0 (rcl9 r0 (.slice ou r0.ss.length cu)) ∧ Go.Proofs.YtidccfflpcgkiaaGreatDoor.ss.Lies X (.slice ou r0.ss.length cu) r0.ss) := fun X hX => ⟨range_block HRG.out ((keepW HW2.out hX).block gq HGQ.out.2), ss.lies_of_own (own_below HU0.out (keepW HW2.out hX))⟩
  obtain ⟨oh, ch, hvh⟩ := own_slice hh.row
  subst hvh
  have HLH : Hid (∀ X, Below w2.heap.size w2 X → LiesR X (.slice oh q.length ch) q) := fun X hX => by
    have := ((HKH.out X hX).lies q.length (Nat.le_refl _))
    rwa [List.take_length] at this
  have HPKQ : Hid (∀ X, Below w.heap.size w X → Below w2.heap.size w2 X → Calls Tryz.prog 18 #[.slice (some ⟨gq, 0, none⟩) q.length cq] X fun x w' => ∃ v', x = .returned (.tuple #[v', .nilIface]) ∧ w'.ownsRow X.heap.size 5 1 v' (pkL q).length ((pkL q).map B) ∧ Below X.heap.size X w') := fun X hX hX2 => by
    have h1 := pack_any q _ (e 1) (e 2) e X (HKQ.out X hX2) HSL.out (HENV.out X hX).1 (HENV.out X hX).2.1
    unfold PackOut at h1
    rw [HPE.out] at h1
    exact h1
  have HENQ : Hid (∀ X, Below w.heap.size w X → Below w2.heap.size w2 X → Calls Tryz.prog 11 #[.agg (rcs r0 (.slice ou r0.ss.length cu))] X fun x w' => ∃ v', x = .returned (.tuple #[v', .nilIface]) ∧ (∃ n, X.heap.size ≤ n ∧ w'.ownsRow n 5 1 v' (recL r0).length ((recL r0).map B)) ∧ Below X.heap.size X w') := fun X hX hX2 => by
    have h1 := encode_any r0 _ (e 1) (e 2) e X (HKR.out X hX2).2 (may_sz HM0.out).small (may_sz HM0.out).low (HENV.out X hX).1
    unfold EncOut at h1
    rw [HM0.out] at h1
    simp only [if_true] at h1
    exact h1
  have HL2 : Hid (Below w2.heap.size w2 w2) := Below.refl _ _
  clear hh b2 HHE HLQ HH2 HRG
  generalize pkL q = PP at *
  generalize recL r0 = EE at *
  have p1 : ¬ (PP.length : Int) = 0 := by have := HPL.out; omega
  have p2 : ¬ (EE.length : Int) = 0 := by have := HEL.out; omega
  have p3 : ((PP.length : Int) == 0) = false := beq_false_of_ne p1
  have p4 : ((EE.length : Int) == 0) = false := beq_false_of_ne p2
  go_wp2_with fail
  refine (HPKQ.out _ HB2.out HL2.out).mono ?_
  rintro x w3 ⟨va, rfl, own3, b3⟩
  have HB3 := hide (keepW HB2.out b3)
  have HL3 : Hid (Below w2.heap.size w2 w3) := keepW HL2.out b3
  have HZ3 : Hid (w2.heap.size ≤ w3.heap.size) := b3.size
  have Ra3 := hide (rw_of own3)
  obtain ⟨ga, ca, hva, hAa, _⟩ := Ra3.out.slot (by have := HPL.out; omega)
  subst hva
  have HGa : Hid (w2.heap.size ≤ ga ∧ ga < w3.heap.size) := hAa
  clear own3 b3 hAa
  go_wp2_with fail
  refine (HPKQ.out _ HB3.out HL3.out).mono ?_
  rintro x w4 ⟨vb, rfl, own4, b4⟩
  have Ra4 := hide (Ra3.out.below b4)
  have HB4 := hide (keepW HB3.out b4)
  have HL4 : Hid (Below w2.heap.size w2 w4) := keepW HL3.out b4
  have HZ4 : Hid (w3.heap.size ≤ w4.heap.size) := b4.size
  have Rb4 := hide (rw_of own4)
  obtain ⟨gb, cb, hvb, hAb, _⟩ := Rb4.out.slot (by have := HPL.out; omega)
  subst hvb
  have HGb : Hid (w3.heap.size ≤ gb ∧ gb < w4.heap.size) := hAb
  clear own4 b4 hAb
  have HRR4 := hide (HKR.out w4 HL4.out).1
  go_wp2_with (refine wpList_load_mid rfl 24 (.tmp 50) rfl gq 0 rfl _ _ HRR4.out Tryz.underlying24 rfl sizeRec ?_)
  refine (HENQ.out _ HB4.out HL4.out).mono ?_
  rintro x w5 ⟨vc, rfl, ⟨n5, hn5, own5⟩, b5⟩
  have own5 := own_least own5 hn5
  have Ra5 := hide (Ra4.out.below b5)
  have Rb5 := hide (Rb4.out.below b5)
  have HB5 := hide (keepW HB4.out b5)
  have HL5 : Hid (Below w2.heap.size w2 w5) := keepW HL4.out b5
  have HZ5 : Hid (w4.heap.size ≤ w5.heap.size) := b5.size
  have Rc5 := hide (rw_of own5)
  obtain ⟨gc, cc, hvc, hAc, _⟩ := Rc5.out.slot (by have := HEL.out; omega)
  subst hvc
  have HGc : Hid (w4.heap.size ≤ gc ∧ gc < w5.heap.size) := hAc
  clear own5 b5 hAc hn5
  have HRR5 := hide (HKR.out w5 HL5.out).1
  go_wp2_with (refine wpList_load_mid rfl 24 (.tmp 57) rfl gq 0 rfl _ _ HRR5.out Tryz.underlying24 rfl sizeRec ?_)
  refine (HENQ.out _ HB5.out HL5.out).mono ?_
  rintro x w6 ⟨vd, rfl, ⟨n6, hn6, own6⟩, b6⟩
  have own6 := own_least own6 hn6
  have Ra6 := hide (Ra5.out.below b6)
  have Rb6 := hide (Rb5.out.below b6)
  have Rc6 := hide (Rc5.out.below b6)
  have HB6 := hide (keepW HB5.out b6)
  have HL6 : Hid (Below w2.heap.size w2 w6) := keepW HL5.out b6
  have HZ6 : Hid (w5.heap.size ≤ w6.heap.size) := b6.size
  have Rd6 := hide (rw_of own6)
  obtain ⟨gd, cd, hvd, hAd, _⟩ := Rd6.out.slot (by have := HEL.out; omega)
  subst hvd
  have HGd : Hid (w5.heap.size ≤ gd ∧ gd < w6.heap.size) := hAd
  clear own6 b6 hAd hn6
  have HCP6 := hide (copy_any w6 (.slice (some ⟨ga, 0, none⟩) PP.length ca) PP (rd_own Ra6.out.1) (by have := HPL.out; omega))
  go_wp2_with fail
  refine HCP6.out.mono ?_
  rintro x w7 ⟨vf, rfl, own7, b7⟩
  have Ra7 := hide (Ra6.out.below b7)
  have Rb7 := hide (Rb6.out.below b7)
  have Rc7 := hide (Rc6.out.below b7)
  have Rd7 := hide (Rd6.out.below b7)
  have HB7 := hide (keepW HB6.out b7)
  have HL7 : Hid (Below w2.heap.size w2 w7) := keepW HL6.out b7
  have HZ7 : Hid (w6.heap.size ≤ w7.heap.size) := b7.size
  have Rf7 := hide (rw_of own7)
  obtain ⟨gf, cf, hvf, hAf, _⟩ := Rf7.out.slot (by have := HPL.out; omega)
  subst hvf
  clear own7 b7 hAf
  have HCP7 := hide (copy_any w7 (.slice (some ⟨gc, 0, none⟩) EE.length cc) EE (rd_own Rc7.out.1) (by have := HEL.out; omega))
  go_wp2_with fail
  refine HCP7.out.mono ?_
  rintro x w8 ⟨vo, rfl, own8, b8⟩
  have Ra8 := hide (Ra7.out.below b8)
  have Rb8 := hide (Rb7.out.below b8)
  have Rc8 := hide (Rc7.out.below b8)
  have Rd8 := hide (Rd7.out.below b8)
  have Rf8 := hide (Rf7.out.below b8)
  have HB8 := hide (keepW HB7.out b8)
  have HL8 : Hid (Below w2.heap.size w2 w8) := keepW HL7.out b8
  have HZ8 : Hid (w7.heap.size ≤ w8.heap.size) := b8.size
  have Ro8 := hide (rw_of own8)
  obtain ⟨go, co, hvo, hAo, _⟩ := Ro8.out.slot (by have := HEL.out; omega)
  subst hvo
  clear own8 b8 hAo
  have HFI8 := hide (fill_any _ PP ga ca 1 w8 Ra8.out (by have := HPL.out; omega))
  go_wp2_with fail
  refine HFI8.out.mono ?_
  rintro x w9 ⟨rfl, rr9, fr9⟩
  have Rb9 := hide (Rb8.out.fr fr9 (fun k hk => by rw [List.mem_singleton.1 hk]; exact fun (h : w3.heap.size ≤ ga ∧ ga < w4.heap.size) => by have := HZ1.out; have := HZ3.out; have := HZ4.out; have := HZ5.out; have := HZ6.out; have := HZ7.out; have := HZ8.out; have := HGa.out; have := HGb.out; have := HGc.out; have := HGd.out; omega))
  have Rc9 := hide (Rc8.out.fr fr9 (fun k hk => by rw [List.mem_singleton.1 hk]; exact fun (h : w4.heap.size ≤ ga ∧ ga < w5.heap.size) => by have := HZ1.out; have := HZ3.out; have := HZ4.out; have := HZ5.out; have := HZ6.out; have := HZ7.out; have := HZ8.out; have := HGa.out; have := HGb.out; have := HGc.out; have := HGd.out; omega))
  have Rd9 := hide (Rd8.out.fr fr9 (fun k hk => by rw [List.mem_singleton.1 hk]; exact fun (h : w5.heap.size ≤ ga ∧ ga < w6.heap.size) => by have := HZ1.out; have := HZ3.out; have := HZ4.out; have := HZ5.out; have := HZ6.out; have := HZ7.out; have := HZ8.out; have := HGa.out; have := HGb.out; have := HGc.out; have := HGd.out; omega))
  have Rf9 := hide (Rf8.out.fr fr9 (fun k hk => by rw [List.mem_singleton.1 hk]; exact fun (h : w6.heap.size ≤ ga ∧ ga < w7.heap.size) => by have := HZ1.out; have := HZ3.out; have := HZ4.out; have := HZ5.out; have := HZ6.out; have := HZ7.out; have := HZ8.out; have := HGa.out; have := HGb.out; have := HGc.out; have := HGd.out; omega))
  have Ro9 := hide (Ro8.out.fr fr9 (fun k hk => by rw [List.mem_singleton.1 hk]; exact fun (h : w7.heap.size ≤ ga ∧ ga < w8.heap.size) => by have := HZ1.out; have := HZ3.out; have := HZ4.out; have := HZ5.out; have := HZ6.out; have := HZ7.out; have := HZ8.out; have := HGa.out; have := HGb.out; have := HGc.out; have := HGd.out; omega))
  have HZ9 : Hid (w8.heap.size ≤ w9.heap.size) := fr9.size
  have HB9 : Hid (Below w.heap.size w w9) := HB8.out.trans (fr9.below (fun k hk => by rw [List.mem_singleton.1 hk]; have := HB1.out.size; have := HZ1.out; have := HZ3.out; have := HZ4.out; have := HZ5.out; have := HZ6.out; have := HZ7.out; have := HZ8.out; have := HGa.out; have := HGb.out; have := HGc.out; have := HGd.out; omega) HB8.out.size)
  have HL9 : Hid (Below w2.heap.size w2 w9) := HL8.out.trans (fr9.below (fun k hk => by rw [List.mem_singleton.1 hk]; have := HZ1.out; have := HZ3.out; have := HZ4.out; have := HZ5.out; have := HZ6.out; have := HZ7.out; have := HZ8.out; have := HGa.out; have := HGb.out; have := HGc.out; have := HGd.out; omega) HL8.out.size)
  have Ra9 := hide rr9
  clear rr9 fr9
  have HFI9 := hide (fill_any _ EE gc cc 2 w9 Rc9.out (by have := HEL.out; omega))
  go_wp2_with fail
  refine HFI9.out.mono ?_
  rintro x w10 ⟨rfl, rr10, fr10⟩
  have Rb10 := hide (Rb9.out.fr fr10 (fun k hk => by rw [List.mem_singleton.1 hk]; exact fun (h : w3.heap.size ≤ gc ∧ gc < w4.heap.size) => by have := HZ1.out; have := HZ3.out; have := HZ4.out; have := HZ5.out; have := HZ6.out; have := HZ7.out; have := HZ8.out; have := HZ9.out; have := HGa.out; have := HGb.out; have := HGc.out; have := HGd.out; omega))
  have Rd10 := hide (Rd9.out.fr fr10 (fun k hk => by rw [List.mem_singleton.1 hk]; exact fun (h : w5.heap.size ≤ gc ∧ gc < w6.heap.size) => by have := HZ1.out; have := HZ3.out; have := HZ4.out; have := HZ5.out; have := HZ6.out; have := HZ7.out; have := HZ8.out; have := HZ9.out; have := HGa.out; have := HGb.out; have := HGc.out; have := HGd.out; omega))
  have Rf10 := hide (Rf9.out.fr fr10 (fun k hk => by rw [List.mem_singleton.1 hk]; exact fun (h : w6.heap.size ≤ gc ∧ gc < w7.heap.size) => by have := HZ1.out; have := HZ3.out; have := HZ4.out; have := HZ5.out; have := HZ6.out; have := HZ7.out; have := HZ8.out; have := HZ9.out; have := HGa.out; have := HGb.out; have := HGc.out; have := HGd.out; omega))
  have Ro10 := hide (Ro9.out.fr fr10 (fun k hk => by rw [List.mem_singleton.1 hk]; exact fun (h : w7.heap.size ≤ gc ∧ gc < w8.heap.size) => by have := HZ1.out; have := HZ3.out; have := HZ4.out; have := HZ5.out; have := HZ6.out; have := HZ7.out; have := HZ8.out; have := HZ9.out; have := HGa.out; have := HGb.out; have := HGc.out; have := HGd.out; omega))
  have Ra10 := hide (Ra9.out.fr fr10 (fun k hk => by rw [List.mem_singleton.1 hk]; exact fun (h : w2.heap.size ≤ gc ∧ gc < w3.heap.size) => by have := HZ1.out; have := HZ3.out; have := HZ4.out; have := HZ5.out; have := HZ6.out; have := HZ7.out; have := HZ8.out; have := HZ9.out; have := HGa.out; have := HGb.out; have := HGc.out; have := HGd.out; omega))
  have HZ10 : Hid (w9.heap.size ≤ w10.heap.size) := fr10.size
  have HB10 : Hid (Below w.heap.size w w10) := HB9.out.trans (fr10.below (fun k hk => by rw [List.mem_singleton.1 hk]; have := HB1.out.size; have := HZ1.out; have := HZ3.out; have := HZ4.out; have := HZ5.out; have := HZ6.out; have := HZ7.out; have := HZ8.out; have := HZ9.out; have := HGa.out; have := HGb.out; have := HGc.out; have := HGd.out; omega) HB9.out.size)
  have HL10 : Hid (Below w2.heap.size w2 w10) := HL9.out.trans (fr10.below (fun k hk => by rw [List.mem_singleton.1 hk]; have := HZ1.out; have := HZ3.out; have := HZ4.out; have := HZ5.out; have := HZ6.out; have := HZ7.out; have := HZ8.out; have := HZ9.out; have := HGa.out; have := HGb.out; have := HGc.out; have := HGd.out; omega) HL9.out.size)
  have Rc10 := hide rr10
  clear rr10 fr10
  have HGR10 := hide (grown_rep _ PP.length ga ca 1 w10 Ra10.out (by have := HPL.out; omega))
  go_wp2_with fail
  refine HGR10.out.mono ?_
  rintro x w11 ⟨va1, rfl, rr11, fr11⟩
  have Rb11 := hide (Rb10.out.fr fr11 (fun k hk => by rw [List.mem_singleton.1 hk]; exact fun (h : w3.heap.size ≤ ga ∧ ga < w4.heap.size) => by have := HZ1.out; have := HZ3.out; have := HZ4.out; have := HZ5.out; have := HZ6.out; have := HZ7.out; have := HZ8.out; have := HZ9.out; have := HZ10.out; have := HGa.out; have := HGb.out; have := HGc.out; have := HGd.out; omega))
  have Rd11 := hide (Rd10.out.fr fr11 (fun k hk => by rw [List.mem_singleton.1 hk]; exact fun (h : w5.heap.size ≤ ga ∧ ga < w6.heap.size) => by have := HZ1.out; have := HZ3.out; have := HZ4.out; have := HZ5.out; have := HZ6.out; have := HZ7.out; have := HZ8.out; have := HZ9.out; have := HZ10.out; have := HGa.out; have := HGb.out; have := HGc.out; have := HGd.out; omega))
  have Rf11 := hide (Rf10.out.fr fr11 (fun k hk => by rw [List.mem_singleton.1 hk]; exact fun (h : w6.heap.size ≤ ga ∧ ga < w7.heap.size) => by have := HZ1.out; have := HZ3.out; have := HZ4.out; have := HZ5.out; have := HZ6.out; have := HZ7.out; have := HZ8.out; have := HZ9.out; have := HZ10.out; have := HGa.out; have := HGb.out; have := HGc.out; have := HGd.out; omega))
  have Ro11 := hide (Ro10.out.fr fr11 (fun k hk => by rw [List.mem_singleton.1 hk]; exact fun (h : w7.heap.size ≤ ga ∧ ga < w8.heap.size) => by have := HZ1.out; have := HZ3.out; have := HZ4.out; have := HZ5.out; have := HZ6.out; have := HZ7.out; have := HZ8.out; have := HZ9.out; have := HZ10.out; have := HGa.out; have := HGb.out; have := HGc.out; have := HGd.out; omega))
  have Rc11 := hide (Rc10.out.fr fr11 (fun k hk => by rw [List.mem_singleton.1 hk]; exact fun (h : w4.heap.size ≤ ga ∧ ga < w5.heap.size) => by have := HZ1.out; have := HZ3.out; have := HZ4.out; have := HZ5.out; have := HZ6.out; have := HZ7.out; have := HZ8.out; have := HZ9.out; have := HZ10.out; have := HGa.out; have := HGb.out; have := HGc.out; have := HGd.out; omega))
  have HZ11 : Hid (w10.heap.size ≤ w11.heap.size) := fr11.size
  have HB11 : Hid (Below w.heap.size w w11) := HB10.out.trans (fr11.below (fun k hk => by rw [List.mem_singleton.1 hk]; have := HB1.out.size; have := HZ1.out; have := HZ3.out; have := HZ4.out; have := HZ5.out; have := HZ6.out; have := HZ7.out; have := HZ8.out; have := HZ9.out; have := HZ10.out; have := HGa.out; have := HGb.out; have := HGc.out; have := HGd.out; omega) HB10.out.size)
  have HL11 : Hid (Below w2.heap.size w2 w11) := HL10.out.trans (fr11.below (fun k hk => by rw [List.mem_singleton.1 hk]; have := HZ1.out; have := HZ3.out; have := HZ4.out; have := HZ5.out; have := HZ6.out; have := HZ7.out; have := HZ8.out; have := HZ9.out; have := HZ10.out; have := HGa.out; have := HGb.out; have := HGc.out; have := HGd.out; omega) HL10.out.size)
  obtain ⟨oa1, ca1, hva1⟩ := own_slice rr11.1
  rw [List.length_replicate] at hva1
  subst hva1
  have Rax11 := hide rr11
  clear rr11 fr11
  have HGR11 := hide (grown_rep _ EE.length gc cc 2 w11 Rc11.out (by have := HEL.out; omega))
  go_wp2_with fail
  refine HGR11.out.mono ?_
  rintro x w12 ⟨vc1, rfl, rr12, fr12⟩
  have Rb12 := hide (Rb11.out.fr fr12 (fun k hk => by rw [List.mem_singleton.1 hk]; exact fun (h : w3.heap.size ≤ gc ∧ gc < w4.heap.size) => by have := HZ1.out; have := HZ3.out; have := HZ4.out; have := HZ5.out; have := HZ6.out; have := HZ7.out; have := HZ8.out; have := HZ9.out; have := HZ10.out; have := HZ11.out; have := HGa.out; have := HGb.out; have := HGc.out; have := HGd.out; omega))
  have Rd12 := hide (Rd11.out.fr fr12 (fun k hk => by rw [List.mem_singleton.1 hk]; exact fun (h : w5.heap.size ≤ gc ∧ gc < w6.heap.size) => by have := HZ1.out; have := HZ3.out; have := HZ4.out; have := HZ5.out; have := HZ6.out; have := HZ7.out; have := HZ8.out; have := HZ9.out; have := HZ10.out; have := HZ11.out; have := HGa.out; have := HGb.out; have := HGc.out; have := HGd.out; omega))
  have Rf12 := hide (Rf11.out.fr fr12 (fun k hk => by rw [List.mem_singleton.1 hk]; exact fun (h : w6.heap.size ≤ gc ∧ gc < w7.heap.size) => by have := HZ1.out; have := HZ3.out; have := HZ4.out; have := HZ5.out; have := HZ6.out; have := HZ7.out; have := HZ8.out; have := HZ9.out; have := HZ10.out; have := HZ11.out; have := HGa.out; have := HGb.out; have := HGc.out; have := HGd.out; omega))
  have Ro12 := hide (Ro11.out.fr fr12 (fun k hk => by rw [List.mem_singleton.1 hk]; exact fun (h : w7.heap.size ≤ gc ∧ gc < w8.heap.size) => by have := HZ1.out; have := HZ3.out; have := HZ4.out; have := HZ5.out; have := HZ6.out; have := HZ7.out; have := HZ8.out; have := HZ9.out; have := HZ10.out; have := HZ11.out; have := HGa.out; have := HGb.out; have := HGc.out; have := HGd.out; omega))
  have Rax12 := hide (Rax11.out.fr fr12 (fun k hk => by rw [List.mem_singleton.1 hk]; exact fun (h : gc = ga ∨ (w10.heap.size ≤ gc ∧ gc < w11.heap.size)) => by have := HZ1.out; have := HZ3.out; have := HZ4.out; have := HZ5.out; have := HZ6.out; have := HZ7.out; have := HZ8.out; have := HZ9.out; have := HZ10.out; have := HZ11.out; have := HGa.out; have := HGb.out; have := HGc.out; have := HGd.out; omega))
  have HZ12 : Hid (w11.heap.size ≤ w12.heap.size) := fr12.size
  have HB12 : Hid (Below w.heap.size w w12) := HB11.out.trans (fr12.below (fun k hk => by rw [List.mem_singleton.1 hk]; have := HB1.out.size; have := HZ1.out; have := HZ3.out; have := HZ4.out; have := HZ5.out; have := HZ6.out; have := HZ7.out; have := HZ8.out; have := HZ9.out; have := HZ10.out; have := HZ11.out; have := HGa.out; have := HGb.out; have := HGc.out; have := HGd.out; omega) HB11.out.size)
  have HL12 : Hid (Below w2.heap.size w2 w12) := HL11.out.trans (fr12.below (fun k hk => by rw [List.mem_singleton.1 hk]; have := HZ1.out; have := HZ3.out; have := HZ4.out; have := HZ5.out; have := HZ6.out; have := HZ7.out; have := HZ8.out; have := HZ9.out; have := HZ10.out; have := HZ11.out; have := HGa.out; have := HGb.out; have := HGc.out; have := HGd.out; omega) HL11.out.size)
  obtain ⟨oc1, cc1, hvc1⟩ := own_slice rr12.1
  rw [List.length_replicate] at hvc1
  subst hvc1
  have Rcx12 := hide rr12
  clear rr12 fr12
  have HSB12 := hide (sameBytes_eq w12 (.slice (some ⟨gb, 0, none⟩) PP.length cb) (.slice (some ⟨gf, 0, none⟩) PP.length cf) PP (rd_own Rb12.out.1) (rd_own Rf12.out.1) (by have := HPL.out; omega))
  go_wp2_with fail
  refine HSB12.out.mono ?_
  rintro x w13 ⟨rfl, b13⟩
  have Rb13 := hide (Rb12.out.below b13)
  have Rd13 := hide (Rd12.out.below b13)
  have Rf13 := hide (Rf12.out.below b13)
  have Ro13 := hide (Ro12.out.below b13)
  have Rax13 := hide (Rax12.out.below b13)
  have Rcx13 := hide (Rcx12.out.below b13)
  have HB13 := hide (keepW HB12.out b13)
  have HL13 : Hid (Below w2.heap.size w2 w13) := keepW HL12.out b13
  have HZ13 : Hid (w12.heap.size ≤ w13.heap.size) := b13.size
  clear b13
  have HSB13 := hide (sameBytes_eq w13 (.slice (some ⟨gd, 0, none⟩) EE.length cd) (.slice (some ⟨go, 0, none⟩) EE.length co) EE (rd_own Rd13.out.1) (rd_own Ro13.out.1) (by have := HEL.out; omega))
  go_wp2_with fail
  refine HSB13.out.mono ?_
  rintro x w14 ⟨rfl, b14⟩
  have Rb14 := hide (Rb13.out.below b14)
  have Rd14 := hide (Rd13.out.below b14)
  have Rf14 := hide (Rf13.out.below b14)
  have Ro14 := hide (Ro13.out.below b14)
  have Rax14 := hide (Rax13.out.below b14)
  have Rcx14 := hide (Rcx13.out.below b14)
  have HB14 := hide (keepW HB13.out b14)
  have HL14 : Hid (Below w2.heap.size w2 w14) := keepW HL13.out b14
  have HZ14 : Hid (w13.heap.size ≤ w14.heap.size) := b14.size
  clear b14
  have HFI14 := hide (fill_any _ PP gb cb 3 w14 Rb14.out (by have := HPL.out; omega))
  go_wp2_with fail
  refine HFI14.out.mono ?_
  rintro x w15 ⟨rfl, rr15, fr15⟩
  have Rd15 := hide (Rd14.out.fr fr15 (fun k hk => by rw [List.mem_singleton.1 hk]; exact fun (h : w5.heap.size ≤ gb ∧ gb < w6.heap.size) => by have := HZ1.out; have := HZ3.out; have := HZ4.out; have := HZ5.out; have := HZ6.out; have := HZ7.out; have := HZ8.out; have := HZ9.out; have := HZ10.out; have := HZ11.out; have := HZ12.out; have := HZ13.out; have := HZ14.out; have := HGa.out; have := HGb.out; have := HGc.out; have := HGd.out; omega))
  have Rf15 := hide (Rf14.out.fr fr15 (fun k hk => by rw [List.mem_singleton.1 hk]; exact fun (h : w6.heap.size ≤ gb ∧ gb < w7.heap.size) => by have := HZ1.out; have := HZ3.out; have := HZ4.out; have := HZ5.out; have := HZ6.out; have := HZ7.out; have := HZ8.out; have := HZ9.out; have := HZ10.out; have := HZ11.out; have := HZ12.out; have := HZ13.out; have := HZ14.out; have := HGa.out; have := HGb.out; have := HGc.out; have := HGd.out; omega))
  have Rax15 := hide (Rax14.out.fr fr15 (fun k hk => by rw [List.mem_singleton.1 hk]; exact fun (h : gb = ga ∨ (w10.heap.size ≤ gb ∧ gb < w11.heap.size)) => by have := HZ1.out; have := HZ3.out; have := HZ4.out; have := HZ5.out; have := HZ6.out; have := HZ7.out; have := HZ8.out; have := HZ9.out; have := HZ10.out; have := HZ11.out; have := HZ12.out; have := HZ13.out; have := HZ14.out; have := HGa.out; have := HGb.out; have := HGc.out; have := HGd.out; omega))
  have Rcx15 := hide (Rcx14.out.fr fr15 (fun k hk => by rw [List.mem_singleton.1 hk]; exact fun (h : gb = gc ∨ (w11.heap.size ≤ gb ∧ gb < w12.heap.size)) => by have := HZ1.out; have := HZ3.out; have := HZ4.out; have := HZ5.out; have := HZ6.out; have := HZ7.out; have := HZ8.out; have := HZ9.out; have := HZ10.out; have := HZ11.out; have := HZ12.out; have := HZ13.out; have := HZ14.out; have := HGa.out; have := HGb.out; have := HGc.out; have := HGd.out; omega))
  have HZ15 : Hid (w14.heap.size ≤ w15.heap.size) := fr15.size
  have HB15 : Hid (Below w.heap.size w w15) := HB14.out.trans (fr15.below (fun k hk => by rw [List.mem_singleton.1 hk]; have := HB1.out.size; have := HZ1.out; have := HZ3.out; have := HZ4.out; have := HZ5.out; have := HZ6.out; have := HZ7.out; have := HZ8.out; have := HZ9.out; have := HZ10.out; have := HZ11.out; have := HZ12.out; have := HZ13.out; have := HZ14.out; have := HGa.out; have := HGb.out; have := HGc.out; have := HGd.out; omega) HB14.out.size)
  have HL15 : Hid (Below w2.heap.size w2 w15) := HL14.out.trans (fr15.below (fun k hk => by rw [List.mem_singleton.1 hk]; have := HZ1.out; have := HZ3.out; have := HZ4.out; have := HZ5.out; have := HZ6.out; have := HZ7.out; have := HZ8.out; have := HZ9.out; have := HZ10.out; have := HZ11.out; have := HZ12.out; have := HZ13.out; have := HZ14.out; have := HGa.out; have := HGb.out; have := HGc.out; have := HGd.out; omega) HL14.out.size)
  have Rb15 := hide rr15
  clear rr15 fr15
  have HFI15 := hide (fill_any _ EE gd cd 4 w15 Rd15.out (by have := HEL.out; omega))
  go_wp2_with fail
  refine HFI15.out.mono ?_
  rintro x w16 ⟨rfl, rr16, fr16⟩
  have Rf16 := hide (Rf15.out.fr fr16 (fun k hk => by rw [List.mem_singleton.1 hk]; exact fun (h : w6.heap.size ≤ gd ∧ gd < w7.heap.size) => by have := HZ1.out; have := HZ3.out; have := HZ4.out; have := HZ5.out; have := HZ6.out; have := HZ7.out; have := HZ8.out; have := HZ9.out; have := HZ10.out; have := HZ11.out; have := HZ12.out; have := HZ13.out; have := HZ14.out; have := HZ15.out; have := HGa.out; have := HGb.out; have := HGc.out; have := HGd.out; omega))
  have Rax16 := hide (Rax15.out.fr fr16 (fun k hk => by rw [List.mem_singleton.1 hk]; exact fun (h : gd = ga ∨ (w10.heap.size ≤ gd ∧ gd < w11.heap.size)) => by have := HZ1.out; have := HZ3.out; have := HZ4.out; have := HZ5.out; have := HZ6.out; have := HZ7.out; have := HZ8.out; have := HZ9.out; have := HZ10.out; have := HZ11.out; have := HZ12.out; have := HZ13.out; have := HZ14.out; have := HZ15.out; have := HGa.out; have := HGb.out; have := HGc.out; have := HGd.out; omega))
  have Rcx16 := hide (Rcx15.out.fr fr16 (fun k hk => by rw [List.mem_singleton.1 hk]; exact fun (h : gd = gc ∨ (w11.heap.size ≤ gd ∧ gd < w12.heap.size)) => by have := HZ1.out; have := HZ3.out; have := HZ4.out; have := HZ5.out; have := HZ6.out; have := HZ7.out; have := HZ8.out; have := HZ9.out; have := HZ10.out; have := HZ11.out; have := HZ12.out; have := HZ13.out; have := HZ14.out; have := HZ15.out; have := HGa.out; have := HGb.out; have := HGc.out; have := HGd.out; omega))
  have Rb16 := hide (Rb15.out.fr fr16 (fun k hk => by rw [List.mem_singleton.1 hk]; exact fun (h : w3.heap.size ≤ gd ∧ gd < w4.heap.size) => by have := HZ1.out; have := HZ3.out; have := HZ4.out; have := HZ5.out; have := HZ6.out; have := HZ7.out; have := HZ8.out; have := HZ9.out; have := HZ10.out; have := HZ11.out; have := HZ12.out; have := HZ13.out; have := HZ14.out; have := HZ15.out; have := HGa.out; have := HGb.out; have := HGc.out; have := HGd.out; omega))
  have HZ16 : Hid (w15.heap.size ≤ w16.heap.size) := fr16.size
  have HB16 : Hid (Below w.heap.size w w16) := HB15.out.trans (fr16.below (fun k hk => by rw [List.mem_singleton.1 hk]; have := HB1.out.size; have := HZ1.out; have := HZ3.out; have := HZ4.out; have := HZ5.out; have := HZ6.out; have := HZ7.out; have := HZ8.out; have := HZ9.out; have := HZ10.out; have := HZ11.out; have := HZ12.out; have := HZ13.out; have := HZ14.out; have := HZ15.out; have := HGa.out; have := HGb.out; have := HGc.out; have := HGd.out; omega) HB15.out.size)
  have HL16 : Hid (Below w2.heap.size w2 w16) := HL15.out.trans (fr16.below (fun k hk => by rw [List.mem_singleton.1 hk]; have := HZ1.out; have := HZ3.out; have := HZ4.out; have := HZ5.out; have := HZ6.out; have := HZ7.out; have := HZ8.out; have := HZ9.out; have := HZ10.out; have := HZ11.out; have := HZ12.out; have := HZ13.out; have := HZ14.out; have := HZ15.out; have := HGa.out; have := HGb.out; have := HGc.out; have := HGd.out; omega) HL15.out.size)
  have Rd16 := hide rr16
  clear rr16 fr16
  have HGR16 := hide (grown_rep _ PP.length gb cb 3 w16 Rb16.out (by have := HPL.out; omega))
  go_wp2_with fail
  refine HGR16.out.mono ?_
  rintro x w17 ⟨vb1, rfl, rr17, fr17⟩
  have Rf17 := hide (Rf16.out.fr fr17 (fun k hk => by rw [List.mem_singleton.1 hk]; exact fun (h : w6.heap.size ≤ gb ∧ gb < w7.heap.size) => by have := HZ1.out; have := HZ3.out; have := HZ4.out; have := HZ5.out; have := HZ6.out; have := HZ7.out; have := HZ8.out; have := HZ9.out; have := HZ10.out; have := HZ11.out; have := HZ12.out; have := HZ13.out; have := HZ14.out; have := HZ15.out; have := HZ16.out; have := HGa.out; have := HGb.out; have := HGc.out; have := HGd.out; omega))
  have Rax17 := hide (Rax16.out.fr fr17 (fun k hk => by rw [List.mem_singleton.1 hk]; exact fun (h : gb = ga ∨ (w10.heap.size ≤ gb ∧ gb < w11.heap.size)) => by have := HZ1.out; have := HZ3.out; have := HZ4.out; have := HZ5.out; have := HZ6.out; have := HZ7.out; have := HZ8.out; have := HZ9.out; have := HZ10.out; have := HZ11.out; have := HZ12.out; have := HZ13.out; have := HZ14.out; have := HZ15.out; have := HZ16.out; have := HGa.out; have := HGb.out; have := HGc.out; have := HGd.out; omega))
  have Rcx17 := hide (Rcx16.out.fr fr17 (fun k hk => by rw [List.mem_singleton.1 hk]; exact fun (h : gb = gc ∨ (w11.heap.size ≤ gb ∧ gb < w12.heap.size)) => by have := HZ1.out; have := HZ3.out; have := HZ4.out; have := HZ5.out; have := HZ6.out; have := HZ7.out; have := HZ8.out; have := HZ9.out; have := HZ10.out; have := HZ11.out; have := HZ12.out; have := HZ13.out; have := HZ14.out; have := HZ15.out; have := HZ16.out; have := HGa.out; have := HGb.out; have := HGc.out; have := HGd.out; omega))
  have Rd17 := hide (Rd16.out.fr fr17 (fun k hk => by rw [List.mem_singleton.1 hk]; exact fun (h : w5.heap.size ≤ gb ∧ gb < w6.heap.size) => by have := HZ1.out; have := HZ3.out; have := HZ4.out; have := HZ5.out; have := HZ6.out; have := HZ7.out; have := HZ8.out; have := HZ9.out; have := HZ10.out; have := HZ11.out; have := HZ12.out; have := HZ13.out; have := HZ14.out; have := HZ15.out; have := HZ16.out; have := HGa.out; have := HGb.out; have := HGc.out; have := HGd.out; omega))
  have HZ17 : Hid (w16.heap.size ≤ w17.heap.size) := fr17.size
  have HB17 : Hid (Below w.heap.size w w17) := HB16.out.trans (fr17.below (fun k hk => by rw [List.mem_singleton.1 hk]; have := HB1.out.size; have := HZ1.out; have := HZ3.out; have := HZ4.out; have := HZ5.out; have := HZ6.out; have := HZ7.out; have := HZ8.out; have := HZ9.out; have := HZ10.out; have := HZ11.out; have := HZ12.out; have := HZ13.out; have := HZ14.out; have := HZ15.out; have := HZ16.out; have := HGa.out; have := HGb.out; have := HGc.out; have := HGd.out; omega) HB16.out.size)
  have HL17 : Hid (Below w2.heap.size w2 w17) := HL16.out.trans (fr17.below (fun k hk => by rw [List.mem_singleton.1 hk]; have := HZ1.out; have := HZ3.out; have := HZ4.out; have := HZ5.out; have := HZ6.out; have := HZ7.out; have := HZ8.out; have := HZ9.out; have := HZ10.out; have := HZ11.out; have := HZ12.out; have := HZ13.out; have := HZ14.out; have := HZ15.out; have := HZ16.out; have := HGa.out; have := HGb.out; have := HGc.out; have := HGd.out; omega) HL16.out.size)
  obtain ⟨ob1, cb1, hvb1⟩ := own_slice rr17.1
  rw [List.length_replicate] at hvb1
  subst hvb1
  have Rbx17 := hide rr17
  clear rr17 fr17
  have HGR17 := hide (grown_rep _ EE.length gd cd 4 w17 Rd17.out (by have := HEL.out; omega))
  go_wp2_with fail
  refine HGR17.out.mono ?_
  rintro x w18 ⟨vd1, rfl, rr18, fr18⟩
  have Rf18 := hide (Rf17.out.fr fr18 (fun k hk => by rw [List.mem_singleton.1 hk]; exact fun (h : w6.heap.size ≤ gd ∧ gd < w7.heap.size) => by have := HZ1.out; have := HZ3.out; have := HZ4.out; have := HZ5.out; have := HZ6.out; have := HZ7.out; have := HZ8.out; have := HZ9.out; have := HZ10.out; have := HZ11.out; have := HZ12.out; have := HZ13.out; have := HZ14.out; have := HZ15.out; have := HZ16.out; have := HZ17.out; have := HGa.out; have := HGb.out; have := HGc.out; have := HGd.out; omega))
  have Rax18 := hide (Rax17.out.fr fr18 (fun k hk => by rw [List.mem_singleton.1 hk]; exact fun (h : gd = ga ∨ (w10.heap.size ≤ gd ∧ gd < w11.heap.size)) => by have := HZ1.out; have := HZ3.out; have := HZ4.out; have := HZ5.out; have := HZ6.out; have := HZ7.out; have := HZ8.out; have := HZ9.out; have := HZ10.out; have := HZ11.out; have := HZ12.out; have := HZ13.out; have := HZ14.out; have := HZ15.out; have := HZ16.out; have := HZ17.out; have := HGa.out; have := HGb.out; have := HGc.out; have := HGd.out; omega))
  have Rcx18 := hide (Rcx17.out.fr fr18 (fun k hk => by rw [List.mem_singleton.1 hk]; exact fun (h : gd = gc ∨ (w11.heap.size ≤ gd ∧ gd < w12.heap.size)) => by have := HZ1.out; have := HZ3.out; have := HZ4.out; have := HZ5.out; have := HZ6.out; have := HZ7.out; have := HZ8.out; have := HZ9.out; have := HZ10.out; have := HZ11.out; have := HZ12.out; have := HZ13.out; have := HZ14.out; have := HZ15.out; have := HZ16.out; have := HZ17.out; have := HGa.out; have := HGb.out; have := HGc.out; have := HGd.out; omega))
  have Rbx18 := hide (Rbx17.out.fr fr18 (fun k hk => by rw [List.mem_singleton.1 hk]; exact fun (h : gd = gb ∨ (w16.heap.size ≤ gd ∧ gd < w17.heap.size)) => by have := HZ1.out; have := HZ3.out; have := HZ4.out; have := HZ5.out; have := HZ6.out; have := HZ7.out; have := HZ8.out; have := HZ9.out; have := HZ10.out; have := HZ11.out; have := HZ12.out; have := HZ13.out; have := HZ14.out; have := HZ15.out; have := HZ16.out; have := HZ17.out; have := HGa.out; have := HGb.out; have := HGc.out; have := HGd.out; omega))
  have HZ18 : Hid (w17.heap.size ≤ w18.heap.size) := fr18.size
  have HB18 : Hid (Below w.heap.size w w18) := HB17.out.trans (fr18.below (fun k hk => by rw [List.mem_singleton.1 hk]; have := HB1.out.size; have := HZ1.out; have := HZ3.out; have := HZ4.out; have := HZ5.out; have := HZ6.out; have := HZ7.out; have := HZ8.out; have := HZ9.out; have := HZ10.out; have := HZ11.out; have := HZ12.out; have := HZ13.out; have := HZ14.out; have := HZ15.out; have := HZ16.out; have := HZ17.out; have := HGa.out; have := HGb.out; have := HGc.out; have := HGd.out; omega) HB17.out.size)
  have HL18 : Hid (Below w2.heap.size w2 w18) := HL17.out.trans (fr18.below (fun k hk => by rw [List.mem_singleton.1 hk]; have := HZ1.out; have := HZ3.out; have := HZ4.out; have := HZ5.out; have := HZ6.out; have := HZ7.out; have := HZ8.out; have := HZ9.out; have := HZ10.out; have := HZ11.out; have := HZ12.out; have := HZ13.out; have := HZ14.out; have := HZ15.out; have := HZ16.out; have := HZ17.out; have := HGa.out; have := HGb.out; have := HGc.out; have := HGd.out; omega) HL17.out.size)
  obtain ⟨od1, cd1, hvd1⟩ := own_slice rr18.1
  rw [List.length_replicate] at hvd1
  subst hvd1
  have Rdx18 := hide rr18
  clear rr18 fr18
  have HFDax := hide (filled_any _ (PP.length + 64) _ 1 w18 Rax18.out (by have := HPL.out; omega))
  go_wp2_with fail
  refine HFDax.out.mono ?_
  rintro x w0 ⟨rfl, h0⟩
  obtain rfl := h0.symm
  clear h0
  have HFDcx := hide (filled_any _ (EE.length + 64) _ 2 w18 Rcx18.out (by have := HEL.out; omega))
  go_wp2_with fail
  refine HFDcx.out.mono ?_
  rintro x w0 ⟨rfl, h0⟩
  obtain rfl := h0.symm
  clear h0
  have HFDbx := hide (filled_any _ (PP.length + 64) _ 3 w18 Rbx18.out (by have := HPL.out; omega))
  go_wp2_with fail
  refine HFDbx.out.mono ?_
  rintro x w0 ⟨rfl, h0⟩
  obtain rfl := h0.symm
  clear h0
  have HFDdx := hide (filled_any _ (EE.length + 64) _ 4 w18 Rdx18.out (by have := HEL.out; omega))
  go_wp2_with fail
  refine HFDdx.out.mono ?_
  rintro x w0 ⟨rfl, h0⟩
  obtain rfl := h0.symm
  clear h0
  go_wp2_with fail
  refine (HPKQ.out _ HB18.out HL18.out).mono ?_
  rintro x w19 ⟨vp, rfl, own19, b19⟩
  have Rf19 := hide (Rf18.out.below b19)
  have HB19 := hide (keepW HB18.out b19)
  have HL19 : Hid (Below w2.heap.size w2 w19) := keepW HL18.out b19
  have HZ19 : Hid (w18.heap.size ≤ w19.heap.size) := b19.size
  have Rp19 := hide (rw_of own19)
  obtain ⟨gp, cp, hvp, hAp, _⟩ := Rp19.out.slot (by have := HPL.out; omega)
  subst hvp
  clear own19 b19 hAp
  have HSB19 := hide (sameBytes_eq w19 (.slice (some ⟨gp, 0, none⟩) PP.length cp) (.slice (some ⟨gf, 0, none⟩) PP.length cf) PP (rd_own Rp19.out.1) (rd_own Rf19.out.1) (by have := HPL.out; omega))
  go_wp2_with fail
  refine HSB19.out.mono ?_
  rintro x w20 ⟨rfl, b20⟩
  have Rf20 := hide (Rf19.out.below b20)
  have Rp20 := hide (Rp19.out.below b20)
  have HB20 := hide (keepW HB19.out b20)
  have HL20 : Hid (Below w2.heap.size w2 w20) := keepW HL19.out b20
  have HZ20 : Hid (w19.heap.size ≤ w20.heap.size) := b20.size
  clear b20
  have HSR := hide (sameRecs_any q _ _ w20 (HKQ.out w20 HL20.out) (HLH.out w20 HL20.out) (fun r hr => by have := HQS.out r hr; omega) (by have := HQ4.out; omega))
  go_wp2_with fail
  refine HSR.out.mono ?_
  rintro x w21 ⟨rfl, b21⟩
  have Rf21 := hide (Rf20.out.below b21)
  have Rp21 := hide (Rp20.out.below b21)
  have HB21 := hide (keepW HB20.out b21)
  have HL21 : Hid (Below w2.heap.size w2 w21) := keepW HL20.out b21
  have HZ21 : Hid (w20.heap.size ≤ w21.heap.size) := b21.size
  clear b21
  obtain ⟨r9, hm9, hT9⟩ := tidy_any ⟨1, eB, ⟨#[111, 118, 101, 114]⟩, eB, eB, eB, eB, [], 7⟩ (.slice none 0 0) w21 (lies_nil0 w21) ⟨Nat.zero_le _, by decide, Nat.zero_le _, Nat.zero_le _, Nat.zero_le _, Nat.zero_le _, fun s hs => by cases hs⟩ (HENV.out w21 HB21.out).2.2
  unfold TidOut at hT9
  have HT9 := hide hT9
  have HM9 := hide hm9
  clear hT9 hm9
  go_wp2_with fail
  refine HT9.out.mono ?_
  rintro x w22 ⟨u9, rfl, own22, b22⟩
  obtain ⟨o9, c9, hu9⟩ := own_slice own22
  subst hu9
  have Rf22 := hide (Rf21.out.below b22)
  have Rp22 := hide (Rp21.out.below b22)
  have HB22 := hide (keepW HB21.out b22)
  have HL22 : Hid (Below w2.heap.size w2 w22) := keepW HL21.out b22
  have HZ22 : Hid (w21.heap.size ≤ w22.heap.size) := b22.size
  have HOQ := HKO.out w22 HL22.out
  rw [HQE.out, HSQ.out] at HOQ
  have HLQ9 := liesR_head HOQ own22
  have HTH := hide HLQ9.1
  obtain ⟨V, hV⟩ : ∃ V, V = w22.setCells gq 0 (rcs r9 (.slice o9 r9.ss.length c9)).toList := ⟨_, rfl⟩
  have HLV : Hid (LiesR V (.slice (some ⟨gq, 0, none⟩) (r0 :: t).length cq) (r9 :: t)) := by show LiesR _ _ _; rw [hV]; exact HLQ9.2
  have frV : Fr [gq] w22 V := by rw [hV]; exact (Fr.refl _ _).sets gq 0 _ (Or.inl (List.mem_singleton.2 rfl))
  have RfV := hide (Rf22.out.fr frV (fun k hk => by rw [List.mem_singleton.1 hk]; exact fun (h : w6.heap.size ≤ gq ∧ gq < w7.heap.size) => by have := HGQ.out; have := HZ1.out; have := HZ3.out; have := HZ4.out; have := HZ5.out; have := HZ6.out; have := HZ7.out; have := HZ8.out; have := HZ9.out; have := HZ10.out; have := HZ11.out; have := HZ12.out; have := HZ13.out; have := HZ14.out; have := HZ15.out; have := HZ16.out; have := HZ17.out; have := HZ18.out; have := HZ19.out; have := HZ20.out; have := HZ21.out; have := HZ22.out; have := HGa.out; have := HGb.out; have := HGc.out; have := HGd.out; omega))
  have RpV := hide (Rp22.out.fr frV (fun k hk => by rw [List.mem_singleton.1 hk]; exact fun (h : w18.heap.size ≤ gq ∧ gq < w19.heap.size) => by have := HGQ.out; have := HZ1.out; have := HZ3.out; have := HZ4.out; have := HZ5.out; have := HZ6.out; have := HZ7.out; have := HZ8.out; have := HZ9.out; have := HZ10.out; have := HZ11.out; have := HZ12.out; have := HZ13.out; have := HZ14.out; have := HZ15.out; have := HZ16.out; have := HZ17.out; have := HZ18.out; have := HZ19.out; have := HZ20.out; have := HZ21.out; have := HZ22.out; have := HGa.out; have := HGb.out; have := HGc.out; have := HGd.out; omega))
  have HBV : Hid (Below w.heap.size w V) := HB22.out.trans (frV.below (fun k hk => by rw [List.mem_singleton.1 hk]; exact HGQ.out.1) HB22.out.size)
  have HVV := hide hV
  have HQL : Hid (q.length = (r0 :: t).length) := by show _ = _; rw [HQE.out]
  have hgq9 : (rcs r9 (.slice o9 r9.ss.length c9)).all (·.oneCell') = true := rcs_one _ _ _ _
  have HG9 : Hid (∀ r ∈ r9 :: t, mayB r = true) := fun r hr => by
    rcases List.mem_cons.1 hr with h | h
    · rw [h]; exact HM9.out
    · exact HQM.out r (by rw [HQE.out]; exact List.mem_cons_of_mem _ h)
  have hgd9 := pk_good (q := r9 :: t) (Nat.zero_lt_succ _) (by have h1 := HQ4.out; rw [HQE.out] at h1; exact h1) HG9.out
  have HPK9 : Hid (∀ X vz, Below w.heap.size w X → LiesR X vz (r9 :: t) → Calls Tryz.prog 18 #[vz] X fun x w' => ∃ v', x = .returned (.tuple #[v', .nilIface]) ∧ w'.ownsRow X.heap.size 5 1 v' (pkL (r9 :: t)).length ((pkL (r9 :: t)).map B) ∧ Below X.heap.size X w') := fun X vz hX hz => by
    have h1 := pack_any (r9 :: t) vz (e 1) (e 2) e X hz (fun r hr => ⟨(may_sz (HG9.out r hr)).small, (may_sz (HG9.out r hr)).low⟩) (HENV.out X hX).1 (HENV.out X hX).2.1
    unfold PackOut at h1
    rw [hgd9.1] at h1
    exact h1
  have HP9L : Hid (3 ≤ (pkL (r9 :: t)).length ∧ (pkL (r9 :: t)).length ≤ 5425) := hgd9.2.2
  have HS9 : Hid (∀ r ∈ r9 :: t, r.ss.length ≤ 16) := fun r hr => (may_sz (HG9.out r hr)).len
  have HN9 : Hid ((r9 :: t).length ≤ 4) := by have h1 := HQ4.out; rw [HQE.out] at h1; exact h1
  rw [← HQL.out] at HLV
  generalize pkL (r9 :: t) = P9 at *
  clear own22 b22 hV frV HLQ9 HOQ hgd9 hgq9
  go_wp2_with (refine wpList_store_mid rfl 24 (.tmp 140) (.tmp 139) rfl gq 0 (rcs r9 (.slice o9 r9.ss.length c9)) rfl rfl HTH.out sizeRec (rcs_one _ _ _ _) ?_; rw [← HVV.out])
  refine (HPK9.out V _ HBV.out HLV.out).mono ?_
  rintro x wa ⟨vo, rfl, owna, ba⟩
  have HBa := hide (keepW HBV.out ba)
  have HLa := hide (HLV.out.below ba)
  have Rfa := hide (RfV.out.below ba)
  have Rpa := hide (RpV.out.below ba)
  have Roa := hide (rw_of owna)
  obtain ⟨go, co, hvo, _, _⟩ := Roa.out.slot (by have := HP9L.out; omega)
  subst hvo
  have HHE9 := hide (heldOf_any (r9 :: t) _ wa HLa.out HS9.out HN9.out)
  clear owna ba
  go_wp2_with fail
  refine HHE9.out.mono ?_
  rintro x wb ⟨vg, sg, rfl, hgo, bb⟩
  have HBb := hide (keepW HBa.out bb)
  have Rfb := hide (Rfa.out.below bb)
  have Rpb := hide (Rpa.out.below bb)
  have Rob := hide (Roa.out.below bb)
  obtain ⟨og, cg, hvg⟩ := own_slice hgo.row
  subst hvg
  have HLg : Hid (LiesR wb (.slice og (r9 :: t).length cg) (r9 :: t)) := by
    have := (hgo.lies (r9 :: t).length (Nat.le_refl _))
    rwa [List.take_length] at this
  have HPKb := hide (HPK9.out wb _ HBb.out HLg.out)
  clear hgo bb
  go_wp2_with fail
  refine HPKb.out.mono ?_
  rintro x wc ⟨vr, rfl, ownc, bc⟩
  have HBc := hide (keepW HBb.out bc)
  have Rfc := hide (Rfb.out.below bc)
  have Rpc := hide (Rpb.out.below bc)
  have Roc := hide (Rob.out.below bc)
  obtain ⟨ofr, cfr, hvr⟩ := own_slice ownc
  have HS1 := hide (sameBytes_eq wc (.slice (some ⟨go, 0, none⟩) P9.length co) vr P9 (rd_own Roc.out.1) (rd_own ownc) (by have := HP9L.out; omega))
  subst hvr
  clear ownc bc
  go_wp2_with fail
  refine HS1.out.mono ?_
  rintro x wd ⟨rfl, bd⟩
  have HBd := hide (keepW HBc.out bd)
  have HS2 := hide (sameBytes_eq wd (.slice (some ⟨gp, 0, none⟩) PP.length cp) (.slice (some ⟨gf, 0, none⟩) PP.length cf) PP (rd_own (Rpc.out.below bd).1) (rd_own (Rfc.out.below bd).1) (by have := HPL.out; omega))
  clear bd
  go_wp2_with fail
  refine HS2.out.mono ?_
  rintro x we ⟨rfl, be⟩
  have HBe := hide (keepW HBd.out be)
  clear be
  go_wp2_with fail
  go_ret
  exact ⟨rfl, HBe.out⟩
end Go.Proofs.YtidccfflpcgkiaaGreatDoor.rc
