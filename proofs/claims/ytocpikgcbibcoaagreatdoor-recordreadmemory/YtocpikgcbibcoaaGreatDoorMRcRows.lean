import Derived.Test.YtocpikgcbibcoaaGreatDoorMRcRefB
import Derived.Test.YtocpikgcbibcoaaGreatDoorMStrBase
import Derived.Test.YtocpikgcbibcoaaGreatDoorMRcKept
namespace Go.Proofs.YtocpikgcbibcoaaGreatDoor.rc
open Go.ChangeShapes Go.WideShapes Go.ChangeAt Go.RowKit Go.Proofs.YtocpikgcbibcoaaGreatDoor.common Go.Proofs.YtocpikgcbibcoaaGreatDoor.dk Go.Proofs.YtocpikgcbibcoaaGreatDoor.ss

abbrev rcl9 (r : Rec) (v : Value) : List Value := [.int .i64 r.k, .string r.id, .string r.us, .string r.cl, .string r.rd, .string r.ch, .string r.cd, v, .int .i64 r.at_]
/-- a slice of records that reads as l -/
def LiesR (w : World) (v : Value) (l : List Rec) : Prop :=
  ∃ oa cap, v = .slice oa l.length cap ∧ ∀ i (h : i < l.length), ∃ b o vi, oa = some ⟨b, o, none⟩ ∧ b < w.heap.size ∧ w.rangeAt b (o + i * 9) (rcl9 l[i] vi) ∧ Lies w vi l[i].ss
theorem LiesR.below {w w' : World} {v : Value} {l : List Rec} (h : LiesR w v l) (hb : Below w.heap.size w w') : LiesR w' v l := by
  obtain ⟨oa, cap, hv, hc⟩ := h
  refine ⟨oa, cap, hv, fun i hi => ?_⟩
  obtain ⟨b, o, vi, ho, hlt, c0, hl⟩ := hc i hi
  exact ⟨b, o, vi, ho, Nat.lt_of_lt_of_le hlt hb.size, range_block c0 (hb.block _ hlt), hl.below hb⟩
/-- one record of a transaction -/
def oneL (r : Rec) : List UInt8 := numL (recL r).length ++ recL r
def pkOk (l : List Rec) : Bool := l.all mayB
def pkL (l : List Rec) : List UInt8 := if 4 < l.length then [] else if l.length = 0 then [] else if pkOk l then numL l.length ++ l.flatMap oneL else []
def pkE (l : List Rec) : Nat := if 4 < l.length then 3 else if l.length = 0 then 1 else if pkOk l then 0 else 1
def PackOut (l : List Rec) (E : Nat → Value) (w : World) (x : Ending) (w' : World) : Prop :=
  ∃ v', x = .returned (.tuple #[v', E (pkE l)]) ∧ w'.ownsRow w.heap.size 5 1 v' (pkL l).length ((pkL l).map B) ∧ Below w.heap.size w w'
/-- the bytes of one's own and others that were made later: a number and those bytes are put behind -/
theorem far_off {w w1 : World} {b n : Nat} {v vp : Value} {l m : List UInt8} (h : w.ownsRow b 5 1 v l.length (l.map B)) (hp : w1.ownsRow n 5 1 vp m.length (m.map B)) (hn : w.heap.size ≤ n) (k : Nat) (e1 : v.ownBlock = some k) (e2 : vp.ownBlock = some k) : False := by
  have h1 := own_ge hp k e2
  rcases h.2 with ⟨rfl, _⟩ | ⟨g, cap, cur, rfl, _, hh, _⟩
  · cases e1
  · cases e1
    have h2 : n ≤ g := h1
    have := (Array.getElem?_eq_some_iff.1 hh).1
    omega
theorem oneL_len {r : Rec} (hl : r.Low) (hn : r.ss.length ≤ 16) : (oneL r).length ≤ 30000010 := by
  have h1 := recL_len hl hn
  have h2 : (numL (recL r).length).length ≤ 10 := (numF_len 9 _).2
  unfold oneL
  rw [List.length_append]
  omega
theorem flat_one (l : List Rec) (h : ∀ r ∈ l, r.Low ∧ r.ss.length ≤ 16) : (l.flatMap oneL).length ≤ l.length * 30000010 := by
  induction l with
  | nil => simp
  | cons x t ih =>
    have h1 := oneL_len (h x (List.mem_cons_self ..)).1 (h x (List.mem_cons_self ..)).2
    have h2 := ih (fun r hr => h r (List.mem_cons_of_mem _ hr))
    rw [List.flatMap_cons, List.length_append, List.length_cons, Nat.succ_mul]
    omega

set_option maxRecDepth 100000 in
set_option maxHeartbeats 6400000 in
theorem pack_any (l : List Rec) (v : Value) (ea em : Addr) (e : Nat → Addr) (w : World) (hv : LiesR w v l) (hz : ∀ r ∈ l, r.Small ∧ r.Low) (he : Env ea em (errw.E e 0) w) (hm : w.cell? ⟨0, 0, none⟩ = some (errw.E e 2)) :
    Calls Tryz.prog 6 #[v] w (PackOut l (fun n => if n = 0 then .nilIface else errw.E e (n - 1)) w) := by
  obtain ⟨ov, cv, hvv⟩ : ∃ ov cv, v = .slice ov l.length cv := by obtain ⟨a, b, h, _⟩ := hv; exact ⟨a, b, h⟩
  have ca := he.arg
  unfold PackOut
  by_cases h4 : 4 < l.length
  · have hE : pkE l = 3 := by unfold pkE; rw [if_pos h4]
    have hL : pkL l = [] := by unfold pkL; rw [if_pos h4]
    rw [hE, hL]
    have k1 : (4 : Int) < (l.length : Int) := by omega
    subst hvv
    clear hv hz he hE hL
    go_enter Tryz.func6, Tryz.ntmps6
    go_wp2_with fail
    go_quiet (fail)
    go_wp2_with fail
    go_ret2
    exact ⟨_, rfl, World.ownsRow_nil _ _ _ _, by first | exact Below.refl _ _ | exact (Below.refl _ _).drew | exact bdN (Below.refl _ _) _⟩
  by_cases h0 : l.length = 0
  · have hE : pkE l = 1 := by unfold pkE; rw [if_neg h4, if_pos h0]
    have hL : pkL l = [] := by unfold pkL; rw [if_neg h4, if_pos h0]
    rw [hE, hL]
    rw [h0] at hvv
    subst hvv
    clear hv hz he hE hL
    go_enter Tryz.func6, Tryz.ntmps6
    go_wp2_with fail
    go_quiet (fail)
    go_wp2_with fail
    go_ret2
    exact ⟨_, rfl, World.ownsRow_nil _ _ _ _, by first | exact Below.refl _ _ | exact (Below.refl _ _).drew | exact bdN (Below.refl _ _) _⟩
  have hn4 : l.length ≤ 4 := by omega
  have HE3 : Hid (pkE l = if pkOk l then 0 else 1) := by show _ = _; unfold pkE; rw [if_neg h4, if_neg h0]
  have HL3 : Hid (pkL l = if pkOk l then numL l.length ++ l.flatMap oneL else []) := by show _ = _; unfold pkL; rw [if_neg h4, if_neg h0]
  show Calls _ _ _ _ (fun x w' => ∃ v', x = .returned (.tuple #[v', (if pkE l = 0 then Value.nilIface else errw.E e (pkE l - 1))]) ∧ w'.ownsRow w.heap.size 5 1 v' (pkL l).length ((pkL l).map B) ∧ Below w.heap.size w w')
  obtain ⟨Ev, hEv⟩ : ∃ Ev : Value, Ev = (if pkE l = 0 then Value.nilIface else errw.E e (pkE l - 1)) := ⟨_, rfl⟩
  rw [← hEv]
  have HEV : Hid (Ev = if pkOk l then Value.nilIface else errw.E e 0) := by
    show Ev = _
    rw [hEv, HE3.out]
    cases pkOk l <;> rfl
  clear hEv
  have k1 : ¬ (4 : Int) < (l.length : Int) := by omega
  have k2 : ¬ (l.length : Int) = 0 := by omega
  have k2b : ((l.length : Int) == 0) = false := beq_false_of_ne k2
  have HV : Hid (∀ X, Below w.heap.size w X → LiesR X v l) := fun X hX => hv.below hX
  have HEN : Hid (∀ X, Below w.heap.size w X → Env ea em (errw.E e 0) X) := fun X hX => he.below hX
  have HZ := hide hz
  have hnl : (numL l.length).length ≤ 10 := (numF_len 9 l.length).2
  have HNUM := hide (appendNumber_any (.slice none 0 0) [] l.length w.heap.size w (World.ownsRow_nil _ _ _ _) (Nat.le_refl _) (by omega) (by simp))
  clear hv hz he hm
  subst hvv
  go_enter Tryz.func6, Tryz.ntmps6
  go_wp2_with fail
  refine HNUM.out.mono ?_
  rintro x w1 ⟨v1, rfl, hown, hgr⟩
  have HB1 : Hid (Below w.heap.size w w1) := hgr.below (fun k hk => by cases hk) (Nat.le_refl _)
  have HO1 : Hid (w1.ownsRow w.heap.size 5 1 v1 (numL l.length).length ((numL l.length).map B)) := by
    show World.ownsRow _ _ _ _ _ _ _
    simpa using hown
  clear hown hgr HNUM
  go_wp2_with fail
  go_loopw [4, 22] (fun vo i wr => ∃ j : Nat, j ≤ l.length ∧ i = .int .i64 j ∧ (∀ r ∈ l.take j, mayB r = true) ∧ wr.ownsRow w.heap.size 5 1 vo (numL l.length ++ (l.take j).flatMap oneL).length ((numL l.length ++ (l.take j).flatMap oneL).map B) ∧ Below w.heap.size w wr) (fun _ i _ => l.length - (intOf i).toNat)
  case atStart => exact ⟨0, Nat.zero_le _, rfl, by simp, by simpa using HO1.out, HB1.out⟩
  case round =>
    obtain ⟨j, hj, rfl, hall, hown, hbl⟩ := hrel
    have HALL := hide hall
    have HBL := hide hbl
    have hlj : (numL l.length ++ (l.take j).flatMap oneL).length ≤ 200000000 := by
      have h1 := flat_one (l.take j) (fun r hr => by
        have hm := hall r hr
        have hlo := (HZ.out r (List.mem_of_mem_take hr)).2
        exact ⟨hlo, (fine_of hm hlo).2.2.len⟩)
      have h2 : (l.take j).length ≤ 4 := by rw [List.length_take]; omega
      have h3 := Nat.mul_le_mul_right 30000010 h2
      rw [List.length_append]
      omega
    obtain ⟨lj, hljE⟩ : ∃ lj, lj = numL l.length ++ (l.take j).flatMap oneL := ⟨_, rfl⟩
    rw [← hljE] at hown hlj
    obtain ⟨oj, cj, rfl⟩ := own_slice hown
    have HO := hide hown
    have HLJ := hide hljE
    by_cases hlt : j < l.length
    · have j0 : (0 : Int) ≤ (j : Int) := Int.natCast_nonneg _
      have j1 : (j : Int) < (l.length : Int) := by omega
      obtain ⟨_, _, hq, hcc⟩ := HV.out wr hbl
      cases hq
      obtain ⟨g, o, vi, rfl, hg, hrg, hli⟩ := hcc j hlt
      obtain ⟨os, cs, rfl⟩ := Lies.len hli
      have hsm := HZ.out _ (List.getElem_mem hlt)
      have HTK : Hid (numL l.length ++ (l.take (j + 1)).flatMap oneL = lj ++ oneL l[j]) := by
        show _ = _
        rw [List.take_succ_eq_append_getElem hlt, List.flatMap_append, hljE]
        simp
      have HAL2 : Hid (mayB l[j] = true → ∀ r ∈ l.take (j + 1), mayB r = true) := fun hm r hr => by
        rw [List.take_succ_eq_append_getElem hlt] at hr
        rcases List.mem_append.1 hr with h | h
        · exact hall r h
        · rw [List.mem_singleton.1 h]; exact hm
      have HNO : Hid (mayB l[j] = false → pkOk l = false) := fun hm => by
        unfold pkOk
        rw [List.all_eq_false]
        exact ⟨_, List.getElem_mem hlt, by simp [hm]⟩
      generalize l[j]'hlt = r at *
      obtain ⟨X, hX⟩ : ∃ X, X = wr.alloc (.cells (rcs r (.slice os r.ss.length cs)) 26) := ⟨_, rfl⟩
      have bX : Below wr.heap.size wr X := by rw [hX]; exact (Below.refl _ _).alloc (Nat.le_refl _) _
      have HBX := hide bX
      have HRX : Hid (X.rangeAt wr.heap.size 0 (rcl9 r (.slice os r.ss.length cs))) := by show World.rangeAt _ _ _ _; rw [hX]; exact range_of (t := 26) (heap_alloc_new wr _)
      have HENC := hide (encode_any r (.slice os r.ss.length cs) ea em e X (hli.below bX) hsm.1 hsm.2 (HEN.out X (keepW hbl bX)))
      unfold EncOut at HENC
      have HRG := hide hrg
      have HX := hide hX
      rw [hX] at HRX
      have HLOW := hide hsm.2
      clear hown hljE hcc hli hsm hall hbl hrg hX bX
      go_wp2_with (first
        | (refine wpList_load_mid rfl 26 (.tmp 24) rfl g (o + j * 9) rfl _ _ HRG.out Tryz.underlying26 rfl sizeRec ?_)
        | (refine wpList_load_mid rfl 26 (.tmp 6) rfl wr.heap.size 0 rfl _ _ HRX.out Tryz.underlying26 rfl sizeRec ?_))
      rw [← HX.out]
      refine HENC.out.mono ?_
      rintro x y ⟨vp, rfl, ⟨n, hn, ownp⟩, by1⟩
      obtain ⟨op, cp, hvp⟩ := own_slice ownp
      have HBY := hide (keepW HBX.out by1)
      cases hm : mayB r with
      | false =>
        rw [hm] at ownp hvp
        simp only [Bool.false_eq_true, if_false] at ownp hvp
        simp only [Bool.false_eq_true, if_false]
        have HOKF : Hid (pkOk l = false) := HNO.out hm
        subst hvp
        clear ownp hm hn by1
        go_wp2_with fail
        go_ret2
        exact ⟨_, by rw [HEV.out, HOKF.out]; rfl, by rw [HL3.out, HOKF.out]; exact World.ownsRow_nil _ _ _ _, keepW HBL.out HBY.out⟩
      | true =>
        rw [hm] at ownp hvp
        simp only [if_true] at ownp hvp
        simp only [if_true]
        have HALN := hide (HAL2.out hm)
        have hrl := recL_len HLOW.out (fine_of hm HLOW.out).2.2.len
        have HOY := hide (own_below HO.out HBY.out)
        have HOP := hide ownp
        have HN2 : Hid (wr.heap.size ≤ n) := Nat.le_trans HBX.out.size hn
        have hwy : w.heap.size ≤ y.heap.size := (keepW HBL.out HBY.out).size
        have HAN := hide (appendNumber_any _ lj (recL r).length w.heap.size y HOY.out hwy (by omega) (by omega))
        subst hvp
        clear ownp hm hn by1
        go_wp2_with fail
        refine HAN.out.mono ?_
        rintro x z ⟨v3, rfl, own3, gr3⟩
        have hop2 := own_fr HOP.out gr3.fr (fun k hk hm => far_off HO.out HOP.out HN2.out k (by simpa using hm) hk)
        have hnb : (numL (recL r).length).length ≤ 10 := (numF_len 9 _).2
        have hwz : w.heap.size ≤ z.heap.size := Nat.le_trans hwy gr3.fr.size
        obtain ⟨v4, Z, hrun, own4, fr4, at4⟩ := dr.append_rd z w.heap.size v3 _ own3 op cp (recL r) (rd_own hop2) (by rw [List.length_append]; omega) hwz
        have gr4 := gr3.trans (gr_of fr4 at4)
        have HZ4 : Hid (Z.ownsRow w.heap.size 5 1 v4 (numL l.length ++ (l.take (j + 1)).flatMap oneL).length ((numL l.length ++ (l.take (j + 1)).flatMap oneL).map B)) := by
          show World.ownsRow _ _ _ _ _ _ _
          rw [HTK.out]
          unfold oneL
          rw [← List.append_assoc]
          exact own4
        have HBZ : Hid (Below w.heap.size w Z) := (keepW HBL.out HBY.out).trans (gr4.below (own_ge HOY.out) hwy)
        clear own3 gr3 hop2 own4 fr4 at4 gr4
        go_wp2_with (at_builtin; refine wpList_appendX rfl _ _ 27 27 rfl _ _ rfl rfl _ _ hrun ?_)
        go_roundw
        case rel => exact ⟨j + 1, by omega, by go_num, HALN.out, HZ4.out, HBZ.out⟩
        case measure => simp [intOf]; omega
    · have j1 : ¬ (j : Int) < (l.length : Int) := by omega
      have HOK : Hid (pkOk l = true) := by
        show pkOk l = true
        unfold pkOk
        rw [List.all_eq_true]
        rw [List.take_of_length_le (by omega)] at hall
        exact hall
      have HLE : Hid (lj = pkL l) := by
        show lj = _
        rw [HL3.out, HOK.out, hljE, List.take_of_length_le (by omega)]
        rfl
      clear hown hljE hall hbl
      go_wp2_with fail
      go_ret2
      exact ⟨_, by rw [HEV.out, HOK.out]; rfl, by rw [← HLE.out]; exact HO.out, HBL.out⟩
end Go.Proofs.YtocpikgcbibcoaaGreatDoor.rc

namespace Go.Proofs.YtocpikgcbibcoaaGreatDoor.ss
open Go.ChangeShapes Go.WideShapes Go.ChangeAt Go.RowKit Go.Proofs.YtocpikgcbibcoaaGreatDoor.common Go.Proofs.YtocpikgcbibcoaaGreatDoor.bk
attribute [local go_sem ↓] Go.wp_at_zero Go.wp_at_succ

set_option maxRecDepth 100000 in
set_option maxHeartbeats 1600000 in
theorem same_any (va vb : Value) (l : List ByteArray) (w : World) (ha : Lies w va l) (hb : Lies w vb l) (hs : l.length ≤ 4611686018427387904) :
    Calls Tryz.prog 29 #[va, vb] w fun e w' => e = .returned (.bool true) ∧ Below w.heap.size w w' := by
  obtain ⟨oa, ca, rfl, hca⟩ := ha
  obtain ⟨ob, cb, rfl, hcb⟩ := hb
  have HA := hide hca
  have HB := hide hcb
  clear hca hcb
  go_enter Tryz.func29, Tryz.ntmps29
  go_wp2_with fail
  go_loopw [5] (fun i wr => ∃ k : Nat, k ≤ l.length ∧ i = .int .i64 k ∧ Below w.heap.size w wr) (fun i _ => l.length - (intOf i).toNat)
  case atStart => exact ⟨0, Nat.zero_le _, rfl, Below.refl _ _⟩
  case round =>
    obtain ⟨k, hk, rfl, hnx⟩ := hrel
    by_cases hlt : k < l.length
    · have hki : (k : Int) < (l.length : Int) := by omega
      obtain ⟨b, o, rfl, hb, c0⟩ := HA.out k hlt
      obtain ⟨b', o', rfl, hb', c0'⟩ := HB.out k hlt
      have d0 := (hnx.cell (p := ⟨b, o + k, none⟩) hb).trans c0
      have d0' := (hnx.cell (p := ⟨b', o' + k, none⟩) hb').trans c0'
      have HX := hide hnx
      clear hnx c0 c0'
      generalize l[k] = p at *
      have k0 : (0 : Int) ≤ (k : Int) := Int.natCast_nonneg _
      go_wp2_with fail
      go_region_held3 (fun W => W.cell? ⟨b, o + k, none⟩ = some (.string p) ∧ W.cell? ⟨b', o' + k, none⟩ = some (.string p)) (go_keep) (fail)
      all_goals
        go_wp2_with fail
        go_roundw
        case rel => exact ⟨k + 1, by omega, by go_num, HX.out.drew⟩
        case measure => simp [intOf]; omega
    · obtain rfl : k = l.length := by omega
      have H2 := hide hnx
      clear hnx
      go_wp2_with fail
      go_ret
      exact ⟨rfl, H2.out⟩

end Go.Proofs.YtocpikgcbibcoaaGreatDoor.ss

namespace Go.Proofs.YtocpikgcbibcoaaGreatDoor.rc
open Go.ChangeShapes Go.WideShapes Go.ChangeAt Go.RowKit Go.Proofs.YtocpikgcbibcoaaGreatDoor.common Go.Proofs.YtocpikgcbibcoaaGreatDoor.ss
attribute [local go_sem ↓] Go.wp_at_zero Go.wp_at_succ

end Go.Proofs.YtocpikgcbibcoaaGreatDoor.rc

namespace Go.Proofs.YtocpikgcbibcoaaGreatDoor.rc
open Go.ChangeShapes Go.WideShapes Go.ChangeAt Go.RowKit Go.Proofs.YtocpikgcbibcoaaGreatDoor.common Go.Proofs.YtocpikgcbibcoaaGreatDoor.ss
attribute [local go_sem ↓] Go.wp_at_zero Go.wp_at_succ

set_option maxRecDepth 100000 in
set_option maxHeartbeats 12800000 in
theorem sameRec_any (r : Rec) (va vb : Value) (w : World) (ha : Lies w va r.ss) (hb : Lies w vb r.ss) (hn : r.ss.length ≤ 4611686018427387904) :
    Calls Tryz.prog 16 #[.agg (rcs r va), .agg (rcs r vb)] w fun e w' => e = .returned (.bool true) ∧ Below w.heap.size w w' := by
  obtain ⟨W0, hW0⟩ : ∃ W0, W0 = (w.alloc (.cells (rcs r va) 26)).alloc (.cells (rcs r vb) 26) := ⟨_, rfl⟩
  have hb0 : Below w.heap.size w W0 := by rw [hW0]; exact ((Below.refl _ _).alloc (Nat.le_refl _) _).alloc (by simp) _
  obtain ⟨f, hf, hg⟩ := class_of W0
  have hA : BoxR W0 w.heap.size r va := fun X hX => by
    have h1 := boxR w r va 26
    refine h1 X ?_
    have h2 : Below (w.alloc (.cells (rcs r va) 26)).heap.size (w.alloc (.cells (rcs r va) 26)) W0 := by rw [hW0]; exact (Below.refl _ _).alloc (Nat.le_refl _) _
    exact keepW h2 hX
  have hB : BoxR W0 (w.heap.size + 1) r vb := by
    have h1 := boxR (w.alloc (.cells (rcs r va) 26)) r vb 26
    rw [World.size_alloc] at h1
    rw [hW0]
    exact h1
  have HS : Hid (Calls Tryz.prog 29 #[va, vb] W0 fun e w' => e = .returned (.bool true) ∧ ∃ m, w' = f m) :=
    (same_any va vb r.ss W0 (ha.below hb0) (hb.below hb0) hn).mono (fun e w1 h => ⟨h.1, w1, (hg _ h.2).symm⟩)
  have HD : Hid (W0.drew = f W0.drew) := (hg _ (Below.refl _ _).drew).symm
  have HDN : Hid (∀ n, (f n).drew = f (f n).drew) := fun n => (hg _ (hf n).drew).symm
  have HFB := hide hf
  have a0 : ∀ n, (f n).cell? ⟨w.heap.size, 0, none⟩ = some (.int .i64 r.k) := fun n => (hA _ (hf n)).1
  have a1 : ∀ n, (f n).cell? ⟨w.heap.size, 1, none⟩ = some (.string r.id) := fun n => (hA _ (hf n)).2.1
  have a2 : ∀ n, (f n).cell? ⟨w.heap.size, 2, none⟩ = some (.string r.us) := fun n => (hA _ (hf n)).2.2.1
  have a3 : ∀ n, (f n).cell? ⟨w.heap.size, 3, none⟩ = some (.string r.cl) := fun n => (hA _ (hf n)).2.2.2.1
  have a4 : ∀ n, (f n).cell? ⟨w.heap.size, 4, none⟩ = some (.string r.rd) := fun n => (hA _ (hf n)).2.2.2.2.1
  have a5 : ∀ n, (f n).cell? ⟨w.heap.size, 5, none⟩ = some (.string r.ch) := fun n => (hA _ (hf n)).2.2.2.2.2.1
  have a6 : ∀ n, (f n).cell? ⟨w.heap.size, 6, none⟩ = some (.string r.cd) := fun n => (hA _ (hf n)).2.2.2.2.2.2.1
  have a7 : ∀ n, (f n).cell? ⟨w.heap.size, 7, none⟩ = some va := fun n => (hA _ (hf n)).2.2.2.2.2.2.2.1
  have a8 : ∀ n, (f n).cell? ⟨w.heap.size, 8, none⟩ = some (.int .i64 r.at_) := fun n => (hA _ (hf n)).2.2.2.2.2.2.2.2
  have b0 : ∀ n, (f n).cell? ⟨w.heap.size + 1, 0, none⟩ = some (.int .i64 r.k) := fun n => (hB _ (hf n)).1
  have b1 : ∀ n, (f n).cell? ⟨w.heap.size + 1, 1, none⟩ = some (.string r.id) := fun n => (hB _ (hf n)).2.1
  have b2 : ∀ n, (f n).cell? ⟨w.heap.size + 1, 2, none⟩ = some (.string r.us) := fun n => (hB _ (hf n)).2.2.1
  have b3 : ∀ n, (f n).cell? ⟨w.heap.size + 1, 3, none⟩ = some (.string r.cl) := fun n => (hB _ (hf n)).2.2.2.1
  have b4 : ∀ n, (f n).cell? ⟨w.heap.size + 1, 4, none⟩ = some (.string r.rd) := fun n => (hB _ (hf n)).2.2.2.2.1
  have b5 : ∀ n, (f n).cell? ⟨w.heap.size + 1, 5, none⟩ = some (.string r.ch) := fun n => (hB _ (hf n)).2.2.2.2.2.1
  have b6 : ∀ n, (f n).cell? ⟨w.heap.size + 1, 6, none⟩ = some (.string r.cd) := fun n => (hB _ (hf n)).2.2.2.2.2.2.1
  have b7 : ∀ n, (f n).cell? ⟨w.heap.size + 1, 7, none⟩ = some vb := fun n => (hB _ (hf n)).2.2.2.2.2.2.2.1
  have b8 : ∀ n, (f n).cell? ⟨w.heap.size + 1, 8, none⟩ = some (.int .i64 r.at_) := fun n => (hB _ (hf n)).2.2.2.2.2.2.2.2
  haveI : Nonempty World := ⟨w⟩
  have HB0 := hide hb0
  have HW0 := hide hW0
  clear ha hb hf hg hA hB hb0 hW0
  go_enter Tryz.func16, Tryz.ntmps16
  go_wp2_with fail
  rw [← HW0.out]
  refine HS.out.mono ?_
  rintro x w2 ⟨rfl, m, rfl⟩
  go_wp2_with fail
  go_ret
  exact ⟨rfl, keepW HB0.out (HFB.out m)⟩
end Go.Proofs.YtocpikgcbibcoaaGreatDoor.rc

namespace Go.Proofs.YtocpikgcbibcoaaGreatDoor.rc
open Go.ChangeShapes Go.WideShapes Go.ChangeAt Go.RowKit Go.Proofs.YtocpikgcbibcoaaGreatDoor.common Go.Proofs.YtocpikgcbibcoaaGreatDoor.ss

/-- the cells of records that lie one behind the other, with the slices of their scopes -/
def rcc : List Rec → List Value → List Value
  | r :: t, v :: s => rcl9 r v ++ rcc t s
  | _, _ => []
theorem rcc_len : ∀ (l : List Rec) (s : List Value), l.length = s.length → (rcc l s).length = l.length * 9
  | [], [], _ => rfl
  | [], _ :: _, h => by simp at h
  | _ :: _, [], h => by simp at h
  | r :: t, v :: s, h => by
    have := rcc_len t s (by simpa using h)
    show (rcl9 r v ++ rcc t s).length = (t.length + 1) * 9
    rw [List.length_append, this]
    show 9 + _ = _
    omega
theorem rcc_snoc (r : Rec) (v : Value) : ∀ (l : List Rec) (s : List Value), l.length = s.length → rcc (l ++ [r]) (s ++ [v]) = rcc l s ++ rcl9 r v
  | [], [], _ => rfl
  | [], _ :: _, h => by simp at h
  | _ :: _, [], h => by simp at h
  | g :: t, u :: s, h => by
    have := rcc_snoc r v t s (by simpa using h)
    show rcl9 g u ++ rcc (t ++ [r]) (s ++ [v]) = rcl9 g u ++ rcc t s ++ rcl9 r v
    rw [this, List.append_assoc]
theorem rcc_get : ∀ (l : List Rec) (s : List Value) (hls : l.length = s.length) (i : Nat) (h : i < l.length) (j : Nat) (x : Value), (rcl9 l[i] (s[i]'(by omega)))[j]? = some x → (rcc l s)[i * 9 + j]? = some x
  | [], _, _, i, h, _, _, _ => by simp at h
  | _ :: _, [], hls, _, _, _, _, _ => by simp at hls
  | r :: t, v :: s, _, 0, _, j, x, hx => by
    have hx : (rcl9 r v)[j]? = some x := hx
    show (rcl9 r v ++ rcc t s)[0 * 9 + j]? = _
    rw [Nat.zero_mul, Nat.zero_add, List.getElem?_append_left (List.getElem?_eq_some_iff.1 hx).1]
    exact hx
  | r :: t, v :: s, hls, i + 1, h, j, x, hx => by
    have := rcc_get t s (by simpa using hls) i (by simpa using h) j x hx
    show (rcl9 r v ++ rcc t s)[(i + 1) * 9 + j]? = _
    have e9 : (rcl9 r v).length = 9 := rfl
    rw [List.getElem?_append_right (by rw [e9]; omega), e9, show (i + 1) * 9 + j - 9 = i * 9 + j by omega]
    exact this
theorem infoRc : (Tryz.prog.info? 26).map (fun i => (i.zero, i.size, i.bytes)) = some (some (.agg zrec), 9, 136) := by kernel_rfl
theorem rows_ne {w : World} {base base' : Nat} {e e' : TypeId} {z z' : Nat} {v v' : Value} {n n' : Nat} {xs xs' : List Value} (he : e ≠ e') (h : w.ownsRow base e z v n xs) (h' : w.ownsRow base' e' z' v' n' xs') : v.ownBlock = none ∨ v.ownBlock ≠ v'.ownBlock := by
  rcases h.2 with ⟨rfl, _⟩ | ⟨g, cap, cur, rfl, _, hh, _⟩
  · exact Or.inl rfl
  · refine Or.inr ?_
    rcases h'.2 with ⟨rfl, _⟩ | ⟨g', cap', cur', rfl, _, hh', _⟩
    · intro h; cases h
    · intro h
      simp only [Value.ownBlock, Option.some.injEq] at h
      subst h
      rw [hh] at hh'
      cases hh'
      exact he rfl
/-- records that lie in rows of one's own -/
structure OwnR (base : Nat) (w : World) (v : Value) (l : List Rec) (s : List Value) : Prop where
  len : l.length = s.length
  row : w.ownsRow base 26 9 v l.length (rcc l s)
  each : ∀ i (h : i < s.length), w.ownsRow base 9 1 s[i] (l[i]'(by omega)).ss.length (sc (l[i]'(by omega)).ss)
theorem OwnR.below {base : Nat} {w w' : World} {v : Value} {l : List Rec} {s : List Value} (h : OwnR base w v l s) (hb : Below w.heap.size w w') : OwnR base w' v l s :=
  ⟨h.len, dk.own_below h.row hb, fun i hi => dk.own_below (h.each i hi) hb⟩
theorem OwnR.nil (base : Nat) (w : World) : OwnR base w (.slice none 0 0) [] [] := ⟨rfl, World.ownsRow_nil _ _ _ _, fun _ h => absurd h (Nat.not_lt_zero _)⟩
/-- the first n of them -/
theorem OwnR.lies {base : Nat} {w : World} {oa : Option Addr} {m cap : Nat} {l : List Rec} {s : List Value} (h : OwnR base w (.slice oa m cap) l s) (n : Nat) (hn : n ≤ l.length) : LiesR w (.slice oa n cap) (l.take n) := by
  have hl : (l.take n).length = n := by rw [List.length_take]; omega
  rcases h.row.2 with ⟨hq, h0⟩ | ⟨g, cap', cur, hq, hg, hh, _⟩
  · cases hq
    have : n = 0 := by omega
    subst this
    exact ⟨none, 0, by simp, fun i hi => absurd hi (by simp)⟩
  · have hc := h.row.cells (g := g) (by rw [hq]; rfl)
    cases hq
    refine ⟨_, cap, by rw [hl], fun i hi => ?_⟩
    have hi2 : i < l.length := by omega
    have hi3 : i < s.length := by have := h.len; omega
    have hti : (l.take n)[i] = l[i] := List.getElem_take ..
    refine ⟨g, 0, s[i], rfl, (Array.getElem?_eq_some_iff.1 hh).1, ?_, ?_⟩
    · intro j x hx
      rw [hti] at hx
      have := hc _ _ (rcc_get l s h.len i hi2 j x hx)
      rw [Addr.add_mid] at this
      rw [← this, Nat.zero_add, Nat.zero_add]
    · rw [hti]; exact lies_of_own (h.each i hi3)
/-- one more behind them, in whatever room -/
theorem OwnR.snoc {base : Nat} {w w' : World} {v v' : Value} {l : List Rec} {s : List Value} (h : OwnR base w v l s) (r : Rec) (u : Value) (hu : w.ownsRow base 9 1 u r.ss.length (sc r.ss))
    (hr : w'.ownsRow base 26 9 v' (l.length + 1) (rcc l s ++ rcl9 r u)) (hg : w.grownBy w' v.ownBlock) : OwnR base w' v' (l ++ [r]) (s ++ [u]) := by
  refine ⟨by simp [h.len], by rw [rcc_snoc r u l s h.len, List.length_append]; exact hr, fun i hi => ?_⟩
  have hne : (9 : TypeId) ≠ 26 := by decide
  by_cases hlt : i < s.length
  · have e1 : (s ++ [u])[i] = s[i] := List.getElem_append_left hlt
    have e2 : (l ++ [r])[i]'(by simp; have := h.len; omega) = l[i]'(by have := h.len; omega) := List.getElem_append_left (by have := h.len; omega)
    rw [e1, e2]
    exact (h.each i hlt).kept hg (rows_ne hne (h.each i hlt) h.row)
  · have hi' : i = s.length := by simp at hi; omega
    subst hi'
    have e1 : (s ++ [u])[s.length] = u := List.getElem_concat_length rfl _
    have e2 : (l ++ [r])[s.length]'(by simp [h.len]) = r := by
      have := h.len
      simp [← this]
    rw [e1, e2]
    exact hu.kept hg (rows_ne hne hu h.row)
theorem rcl_one (r : Rec) (oa : Option Addr) (n c : Nat) : ∀ u ∈ rcl9 r (.slice oa n c), u.oneCell' = true := by
  intro u hu
  simp only [rcl9, List.mem_cons, List.mem_nil_iff, or_false] at hu
  rcases hu with rfl | rfl | rfl | rfl | rfl | rfl | rfl | rfl | rfl <;> rfl
theorem cells9 (w : World) (r : Rec) (v : Value) (t : TypeId) : ∀ j u, (rcl9 r v)[j]? = some u → (w.alloc (.cells (rcs r v) t)).cell? ((⟨w.heap.size, 0, none⟩ : Addr).add j) = some u := by
  intro j u h
  have h1 := heap_alloc_new w (.cells (rcs r v) t (0, 0))
  rw [Addr.add_mid, Nat.zero_add]
  simp only [World.cell?, h1]
  simpa using h
end Go.Proofs.YtocpikgcbibcoaaGreatDoor.rc
