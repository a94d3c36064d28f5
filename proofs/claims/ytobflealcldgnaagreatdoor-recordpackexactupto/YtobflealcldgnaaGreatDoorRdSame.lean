import Derived.Test.YtobflealcldgnaaGreatDoorRcRefB
import Derived.Test.YtobflealcldgnaaGreatDoorRcPack
import Derived.Test.YtobflealcldgnaaGreatDoorRdKit
import Derived.BigQuiet
namespace Go.Proofs.YtobflealcldgnaaGreatDoor.rc
open Go.ChangeShapes Go.WideShapes Go.ChangeAt Go.RowKit Go.Proofs.YtobflealcldgnaaGreatDoor.common Go.Proofs.YtobflealcldgnaaGreatDoor.dk Go.Proofs.YtobflealcldgnaaGreatDoor.ss

theorem doc_rec (r : Rec) (h0 : 0 < r.k) (h1 : r.k < 12) : docL r = recL r := by
  rcases kindsI r.k h0 h1 with h | h | h | h | h | h | h | h | h | h | h <;>
    (unfold docL recL prts idL midL endL
     rw [h]
     simp [show nm 1 1 = true by decide, show nm 1 2 = true by decide, show nm 1 4 = false by decide, show nm 1 8 = false by decide, show nm 1 32 = false by decide, show nm 1 64 = false by decide, show nm 1 128 = true by decide]
     try simp (config := { decide := true }))

/-- what the document answers -/
def REncOut (r : Rec) (w : World) (x : Ending) (w' : World) : Prop :=
  ∃ v', x = .returned (.tuple #[v', .int .i64 (chN r)]) ∧ (∃ n, w.heap.size ≤ n ∧ w'.ownsRow n 5 1 v' (if mayB r then recL r else []).length ((if mayB r then recL r else []).map B)) ∧ Below w.heap.size w w'

set_option maxRecDepth 100000 in
set_option maxHeartbeats 3200000 in
theorem refEncode_any (r : Rec) (v : Value) (w : World) (hv : Lies w v r.ss) (hz : r.Small) (hl : r.Low) (ht : HTab w) :
    Calls Tryz.prog 14 #[.agg (rcs r v)] w (REncOut r w) := by
  obtain ⟨W0, hW0⟩ : ∃ W0, W0 = w.alloc (.cells (rcs r v) 26) := ⟨_, rfl⟩
  have hb0 : Below w.heap.size w W0 := by rw [hW0]; exact (Below.refl _ _).alloc (Nat.le_refl _) _
  have HM := hide (refCheck_any r v W0 (hv.below hb0) hz ⟨hl.id, hl.cd⟩ (ht.below hb0))
  have HB0 := hide hb0
  have HR : Hid (∀ X, Below W0.heap.size W0 X → X.rangeAt w.heap.size 0 [.int .i64 r.k, .string r.id, .string r.us, .string r.cl, .string r.rd, .string r.ch, .string r.cd, v, .int .i64 r.at_]) := fun X hX => by
    refine range_of ((hX.block _ ?_).trans (?_ : W0.heap[w.heap.size]? = some (.cells (rcs r v) 26 (0, 0))))
    · rw [hW0]; simp
    · rw [hW0]; exact heap_alloc_new w _
  have HR0 := hide (HR.out W0 (Below.refl _ _))
  rw [hW0] at HR0
  have HW0 := hide hW0
  have HV : Hid (∀ X, Below w.heap.size w X → Lies X v r.ss ∧ HTab X) := fun X hX => ⟨hv.below hX, ht.below hX⟩
  clear hv ht hb0 hW0
  unfold REncOut
  cases hm : mayB r with
  | false =>
    have hc : chN r = 1 := by unfold chN; rw [hm]; rfl
    rw [hc] at HM
    rw [hc]
    simp only [Bool.false_eq_true, if_false]
    clear hm hc
    go_enter Tryz.func14, Tryz.ntmps14
    go_wp2_with (refine wpList_load_mid rfl 26 (.tmp 1) rfl w.heap.size 0 rfl _ _ HR0.out Tryz.underlying26 rfl sizeRec ?_)
    rw [← HW0.out]
    refine HM.out.mono ?_
    rintro x w2 ⟨rfl, b2⟩
    have HB := hide (keepW HB0.out b2)
    clear b2
    go_wp2_with fail
    go_ret2
    exact ⟨_, rfl, ⟨_, Nat.le_refl _, World.ownsRow_nil _ _ _ _⟩, HB.out⟩
  | true =>
    have hc : chN r = 0 := by unfold chN; rw [hm]; rfl
    rw [hc] at HM
    rw [hc]
    obtain ⟨k0, k1, hF⟩ := fine_of hm hl
    have HD := hide (doc_rec r k0 k1)
    simp only [if_true]
    have HBO : Hid (∀ X, Below w.heap.size w X → Calls Tryz.prog 20 #[.agg (rcs r v)] X fun e w' => ∃ v', e = .returned v' ∧ w'.ownsRow (X.heap.size + 1) 5 1 v' (recL r).length ((recL r).map B) ∧ Below X.heap.size X w') := fun X hX => by
      have h := bytesOf_any r v X (HV.out X hX).1 k0 k1 hl hF (HV.out X hX).2
      rw [HD.out] at h
      exact h
    clear hm hc k0 k1 hF
    go_enter Tryz.func14, Tryz.ntmps14
    go_wp2_with (refine wpList_load_mid rfl 26 (.tmp 1) rfl w.heap.size 0 rfl _ _ HR0.out Tryz.underlying26 rfl sizeRec ?_)
    rw [← HW0.out]
    refine HM.out.mono ?_
    rintro x w2 ⟨rfl, b2⟩
    have HB := hide (keepW HB0.out b2)
    have HR2 := hide (HR.out w2 b2)
    have HBY := hide (HBO.out w2 HB.out)
    clear b2
    go_wp2_with (refine wpList_load_mid rfl 26 (.tmp 1) rfl w.heap.size 0 rfl _ _ HR2.out Tryz.underlying26 rfl sizeRec ?_)
    refine HBY.out.mono ?_
    rintro x w3 ⟨v3, rfl, hown, b3⟩
    have HO := hide hown
    have HB3 := hide (keepW HB.out b3)
    clear hown b3
    go_wp2_with fail
    go_ret2
    exact ⟨_, rfl, ⟨_, Nat.le_succ_of_le HB.out.size, HO.out⟩, HB3.out⟩
end Go.Proofs.YtobflealcldgnaaGreatDoor.rc

namespace Go.Proofs.YtobflealcldgnaaGreatDoor.rc
open Go.ChangeShapes Go.WideShapes Go.ChangeAt Go.RowKit Go.Proofs.YtobflealcldgnaaGreatDoor.common Go.Proofs.YtobflealcldgnaaGreatDoor.dk Go.Proofs.YtobflealcldgnaaGreatDoor.ss

set_option maxRecDepth 100000 in
set_option maxHeartbeats 6400000 in
theorem refPack_any (l : List Rec) (v : Value) (w : World) (hv : LiesR w v l) (hz : ∀ r ∈ l, r.Small ∧ r.Low) (ht : HTab w) :
    Calls Tryz.prog 6 #[v] w (PackOut l (fun n => .int .i64 (n : Int)) w) := by
  obtain ⟨ov, cv, hvv⟩ : ∃ ov cv, v = .slice ov l.length cv := by obtain ⟨a, b, h, _⟩ := hv; exact ⟨a, b, h⟩
  unfold PackOut
  by_cases h4 : 4 < l.length
  · have hE : pkE l = 3 := by unfold pkE; rw [if_pos h4]
    have hL : pkL l = [] := by unfold pkL; rw [if_pos h4]
    rw [hE, hL]
    have k1 : (4 : Int) < (l.length : Int) := by omega
    subst hvv
    clear hv hz ht hE hL
    go_enter Tryz.func6, Tryz.ntmps6
    go_wp2_with fail
    go_ret2
    exact ⟨_, rfl, World.ownsRow_nil _ _ _ _, Below.refl _ _⟩
  by_cases h0 : l.length = 0
  · have hE : pkE l = 1 := by unfold pkE; rw [if_neg h4, if_pos h0]
    have hL : pkL l = [] := by unfold pkL; rw [if_neg h4, if_pos h0]
    rw [hE, hL]
    rw [h0] at hvv
    subst hvv
    clear hv hz ht hE hL
    go_enter Tryz.func6, Tryz.ntmps6
    go_wp2_with fail
    go_ret2
    exact ⟨_, rfl, World.ownsRow_nil _ _ _ _, Below.refl _ _⟩
  have hn4 : l.length ≤ 4 := by omega
  have HE3 : Hid (pkE l = if pkOk l then 0 else 1) := by show _ = _; unfold pkE; rw [if_neg h4, if_neg h0]
  have HL3 : Hid (pkL l = if pkOk l then numL l.length ++ l.flatMap oneL else []) := by show _ = _; unfold pkL; rw [if_neg h4, if_neg h0]
  show Calls _ _ _ _ (fun x w' => ∃ v', x = .returned (.tuple #[v', .int .i64 ((pkE l : Nat) : Int)]) ∧ w'.ownsRow w.heap.size 5 1 v' (pkL l).length ((pkL l).map B) ∧ Below w.heap.size w w')
  obtain ⟨Ev, hEv⟩ : ∃ Ev : Value, Ev = .int .i64 ((pkE l : Nat) : Int) := ⟨_, rfl⟩
  rw [← hEv]
  have HEV : Hid (Ev = if pkOk l then .int .i64 0 else .int .i64 1) := by
    show Ev = _
    rw [hEv, HE3.out]
    cases pkOk l <;> rfl
  clear hEv
  have k1 : ¬ (4 : Int) < (l.length : Int) := by omega
  have k2 : ¬ (l.length : Int) = 0 := by omega
  have k2b : ((l.length : Int) == 0) = false := beq_false_of_ne k2
  have HV : Hid (∀ X, Below w.heap.size w X → LiesR X v l) := fun X hX => hv.below hX
  have HEN : Hid (∀ X, Below w.heap.size w X → HTab X) := fun X hX => ht.below hX
  have HZ := hide hz
  have hnl : (numL l.length).length ≤ 10 := (numF_len 9 l.length).2
  have HNUM := hide (refNumber_any l.length w (by omega))
  clear hv hz ht
  subst hvv
  go_enter Tryz.func6, Tryz.ntmps6
  go_wp2_with fail
  refine HNUM.out.mono ?_
  rintro x w1 ⟨v1, rfl, hown, hb1⟩
  have HB1 := hide hb1
  have HO1 := hide hown
  clear hown hb1 HNUM
  go_wp2_with fail
  go_loopw [4, 5] (fun vo i wr => ∃ j : Nat, j ≤ l.length ∧ i = .int .i64 j ∧ (∀ r ∈ l.take j, mayB r = true) ∧ wr.ownsRow w.heap.size 5 1 vo (numL l.length ++ (l.take j).flatMap oneL).length ((numL l.length ++ (l.take j).flatMap oneL).map B) ∧ Below w.heap.size w wr) (fun _ i _ => l.length - (intOf i).toNat)
  case atStart => exact ⟨0, Nat.zero_le _, rfl, by simp, by simpa using HO1.out, HB1.out⟩
  case round =>
    obtain ⟨j, hj, rfl, hall, hown, hbl⟩ := hrel
    have HALL := hide hall
    have HBL := hide hbl
    have hlj : (numL l.length ++ (l.take j).flatMap oneL).length ≤ 200000000 := by
      have h1 := flat_one (l.take j) (fun r hr => by
        have hm := hall r hr
        have hlo := (HZ.out r (List.mem_of_mem_take hr)).2
        exact ⟨hlo, (fine_of hm hlo).2.2.len⟩)
      have h2 : (l.take j).length ≤ 4 := by rw [List.length_take]; omega
      have h3 := Nat.mul_le_mul_right 30000010 h2
      rw [List.length_append]
      omega
    obtain ⟨lj, hljE⟩ : ∃ lj, lj = numL l.length ++ (l.take j).flatMap oneL := ⟨_, rfl⟩
    rw [← hljE] at hown hlj
    obtain ⟨oj, cj, rfl⟩ := own_slice hown
    have HO := hide hown
    have HLJ := hide hljE
    by_cases hlt : j < l.length
    · have j0 : (0 : Int) ≤ (j : Int) := Int.natCast_nonneg _
      have j1 : (j : Int) < (l.length : Int) := by omega
      obtain ⟨_, _, hq, hcc⟩ := HV.out wr hbl
      cases hq
      obtain ⟨g, o, vi, rfl, hg, hrg, hli⟩ := hcc j hlt
      obtain ⟨os, cs, rfl⟩ := Lies.len hli
      have hsm := HZ.out _ (List.getElem_mem hlt)
      have HTK : Hid (numL l.length ++ (l.take (j + 1)).flatMap oneL = lj ++ oneL l[j]) := by
        show _ = _
        rw [List.take_succ_eq_append_getElem hlt, List.flatMap_append, hljE]
        simp
      have HAL2 : Hid (mayB l[j] = true → ∀ r ∈ l.take (j + 1), mayB r = true) := fun hm r hr => by
        rw [List.take_succ_eq_append_getElem hlt] at hr
        rcases List.mem_append.1 hr with h | h
        · exact hall r h
        · rw [List.mem_singleton.1 h]; exact hm
      have HNO : Hid (mayB l[j] = false → pkOk l = false) := fun hm => by
        unfold pkOk
        rw [List.all_eq_false]
        exact ⟨_, List.getElem_mem hlt, by simp [hm]⟩
      generalize l[j]'hlt = r at *
      have HENC := hide (refEncode_any r (.slice os r.ss.length cs) wr hli hsm.1 hsm.2 (HEN.out wr hbl))
      unfold REncOut at HENC
      have HRG := hide hrg
      have HLOW := hide hsm.2
      clear hown hljE hcc hli hsm hall hbl hrg
      go_wp2_with (refine wpList_load_mid rfl 26 (.tmp 27) rfl g (o + j * 9) rfl _ _ HRG.out Tryz.underlying26 rfl sizeRec ?_)
      refine HENC.out.mono ?_
      rintro x y ⟨vp, rfl, ⟨n, hn, ownp⟩, by1⟩
      obtain ⟨op, cp, hvp⟩ := own_slice ownp
      have HBY := hide by1
      cases hm : mayB r with
      | false =>
        rw [hm] at ownp hvp
        simp only [Bool.false_eq_true, if_false] at ownp hvp
        have hc : chN r = 1 := by unfold chN; rw [hm]; rfl
        rw [hc]
        have HOKF : Hid (pkOk l = false) := HNO.out hm
        subst hvp
        clear ownp hm hn by1 hc
        go_wp2_with fail
        go_ret2
        exact ⟨_, by rw [HEV.out, HOKF.out]; rfl, by rw [HL3.out, HOKF.out]; exact World.ownsRow_nil _ _ _ _, keepW HBL.out HBY.out⟩
      | true =>
        rw [hm] at ownp hvp
        simp only [if_true] at ownp hvp
        have hc : chN r = 0 := by unfold chN; rw [hm]; rfl
        rw [hc]
        have HALN := hide (HAL2.out hm)
        have hrl := recL_len HLOW.out (fine_of hm HLOW.out).2.2.len
        have HOY := hide (own_below HO.out HBY.out)
        have HOP := hide ownp
        have HN2 := hide hn
        have hwy : w.heap.size ≤ y.heap.size := (keepW HBL.out HBY.out).size
        have HAN := hide (refNumber_any (recL r).length y (by omega))
        subst hvp
        clear ownp hm hn by1 hc
        go_wp2_with fail
        refine HAN.out.mono ?_
        rintro x z ⟨vn, rfl, ownn, bz⟩
        obtain ⟨on, cn, rfl⟩ := own_slice ownn
        have hnb : (numL (recL r).length).length ≤ 10 := (numF_len 9 _).2
        have hwz : w.heap.size ≤ z.heap.size := Nat.le_trans hwy bz.size
        have HOZ := hide (own_below HOY.out bz)
        have hopz := own_below HOP.out bz
        obtain ⟨v3, Z1, hrun1, own3, fr3, at3⟩ := dr.append_rd z w.heap.size _ lj HOZ.out on cn _ (rd_own ownn) (by omega) hwz
        have gr3 := gr_of fr3 at3
        have hop2 := own_fr hopz gr3.fr (fun k hk hm => far_off HO.out hopz HN2.out k (by simpa using hm) hk)
        obtain ⟨o3, n3, c3, rfl⟩ : ∃ o3 n3 c3, v3 = .slice o3 n3 c3 := by obtain ⟨a, b, h⟩ := own_slice own3; exact ⟨a, _, b, h⟩
        have hwz1 : w.heap.size ≤ Z1.heap.size := Nat.le_trans hwz gr3.fr.size
        obtain ⟨v4, Z, hrun, own4, fr4, at4⟩ := dr.append_rd Z1 w.heap.size _ _ own3 op cp (recL r) (rd_own hop2) (by rw [List.length_append]; omega) hwz1
        have gr4 := gr3.trans (gr_of fr4 at4)
        have HZ4 : Hid (Z.ownsRow w.heap.size 5 1 v4 (numL l.length ++ (l.take (j + 1)).flatMap oneL).length ((numL l.length ++ (l.take (j + 1)).flatMap oneL).map B)) := by
          show World.ownsRow _ _ _ _ _ _ _
          rw [HTK.out]
          unfold oneL
          rw [← List.append_assoc]
          exact own4
        have HBZ : Hid (Below w.heap.size w Z) := ((keepW (keepW HBL.out HBY.out) bz)).trans (gr4.below (own_ge HOZ.out) hwz)
        clear ownn bz own3 gr3 fr3 at3 hop2 hopz own4 fr4 at4 gr4
        go_wp2_with (at_builtin; first | (refine wpList_appendX rfl _ _ 27 27 rfl _ _ rfl rfl _ _ hrun1 ?_) | (refine wpList_appendX rfl _ _ 27 27 rfl _ _ rfl rfl _ _ hrun ?_))
        go_roundw
        case rel => exact ⟨j + 1, by omega, by go_num, HALN.out, HZ4.out, HBZ.out⟩
        case measure => simp [intOf]; omega
    · have j1 : ¬ (j : Int) < (l.length : Int) := by omega
      have HOK : Hid (pkOk l = true) := by
        show pkOk l = true
        unfold pkOk
        rw [List.all_eq_true]
        rw [List.take_of_length_le (by omega)] at hall
        exact hall
      have HLE : Hid (lj = pkL l) := by
        show lj = _
        rw [HL3.out, HOK.out, hljE, List.take_of_length_le (by omega)]
        rfl
      clear hown hljE hall hbl
      go_wp2_with fail
      go_ret2
      exact ⟨_, by rw [HEV.out, HOK.out]; rfl, by rw [← HLE.out]; exact HO.out, HBL.out⟩
end Go.Proofs.YtobflealcldgnaaGreatDoor.rc

namespace Go.Proofs.YtobflealcldgnaaGreatDoor.dk
open Go.ChangeShapes Go.WideShapes Go.ChangeAt Go.RowKit Go.Proofs.YtobflealcldgnaaGreatDoor.common
set_option maxRecDepth 100000 in
set_option maxHeartbeats 1600000 in
theorem sameBytes_eq (w : World) (va vb : Value) (l : List UInt8) (ha : Rd w va l) (hb : Rd w vb l) (hl : l.length ≤ 4611686018427387904) :
    Calls Tryz.prog 7 #[va, vb] w fun r' w' => r' = .returned (.bool true) ∧ Below w.heap.size w w' := by
  obtain ⟨oa, ca, rfl⟩ := ha.len
  obtain ⟨ob, cb, rfl⟩ := hb.len
  have HA := hide ha
  have HB := hide hb
  clear ha hb
  go_enter Tryz.func7, Tryz.ntmps7
  go_wp2
  go_loopw [5] (fun i wr => ∃ k : Nat, k ≤ l.length ∧ i = .int .i64 k ∧ ∃ n, wr = w.drewN n) (fun i _ => l.length - (intOf i).toNat)
  case atStart => exact ⟨0, Nat.zero_le _, rfl, 0, rfl⟩
  case round =>
    obtain ⟨k, hk, rfl, n, rfl⟩ := hrel
    by_cases hlt : k < l.length
    · obtain ⟨ga, o1, rfl, h1⟩ := HA.out.cell (by omega)
      obtain ⟨gb, o2, rfl, h2⟩ := HB.out.cell (by omega)
      have c1 : w.cell? ⟨ga, o1 + k, none⟩ = some (B l[k]) := h1 k hlt
      have c2 : w.cell? ⟨gb, o2 + k, none⟩ = some (B l[k]) := h2 k hlt
      have k0 : (0 : Int) ≤ (k : Int) := Int.natCast_nonneg _
      have k1 : (k : Int) < (l.length : Int) := by omega
      clear h1 h2
      generalize l[k] = x at *
      go_wp2_with fail
      go_quiet (fail)
      go_wp2
      go_roundw
      case rel => exact ⟨k + 1, by omega, by go_num, _, rfl⟩
      case measure => simp [intOf]; omega
    · obtain rfl : k = l.length := by omega
      go_wp2
      go_ret
      exact ⟨rfl, bdN (Below.refl _ _) _⟩

end Go.Proofs.YtobflealcldgnaaGreatDoor.dk
