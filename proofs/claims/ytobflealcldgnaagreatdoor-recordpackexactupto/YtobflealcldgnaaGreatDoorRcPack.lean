import Derived.Test.YtobflealcldgnaaGreatDoorRcRefB
namespace Go.Proofs.YtobflealcldgnaaGreatDoor.rc
open Go.ChangeShapes Go.WideShapes Go.ChangeAt Go.RowKit Go.Proofs.YtobflealcldgnaaGreatDoor.common Go.Proofs.YtobflealcldgnaaGreatDoor.dk Go.Proofs.YtobflealcldgnaaGreatDoor.ss

abbrev rcl9 (r : Rec) (v : Value) : List Value := [.int .i64 r.k, .string r.id, .string r.us, .string r.cl, .string r.rd, .string r.ch, .string r.cd, v, .int .i64 r.at_]
/-- a slice of records that reads as l -/
def LiesR (w : World) (v : Value) (l : List Rec) : Prop :=
  ∃ oa cap, v = .slice oa l.length cap ∧ ∀ i (h : i < l.length), ∃ b o vi, oa = some ⟨b, o, none⟩ ∧ b < w.heap.size ∧ w.rangeAt b (o + i * 9) (rcl9 l[i] vi) ∧ Lies w vi l[i].ss
theorem LiesR.below {w w' : World} {v : Value} {l : List Rec} (h : LiesR w v l) (hb : Below w.heap.size w w') : LiesR w' v l := by
  obtain ⟨oa, cap, hv, hc⟩ := h
  refine ⟨oa, cap, hv, fun i hi => ?_⟩
  obtain ⟨b, o, vi, ho, hlt, c0, hl⟩ := hc i hi
  exact ⟨b, o, vi, ho, Nat.lt_of_lt_of_le hlt hb.size, range_block c0 (hb.block _ hlt), hl.below hb⟩
/-- one record of a transaction -/
def oneL (r : Rec) : List UInt8 := numL (recL r).length ++ recL r
def pkOk (l : List Rec) : Bool := l.all mayB
def pkL (l : List Rec) : List UInt8 := if 4 < l.length then [] else if l.length = 0 then [] else if pkOk l then numL l.length ++ l.flatMap oneL else []
def pkE (l : List Rec) : Nat := if 4 < l.length then 3 else if l.length = 0 then 1 else if pkOk l then 0 else 1
def PackOut (l : List Rec) (E : Nat → Value) (w : World) (x : Ending) (w' : World) : Prop :=
  ∃ v', x = .returned (.tuple #[v', E (pkE l)]) ∧ w'.ownsRow w.heap.size 5 1 v' (pkL l).length ((pkL l).map B) ∧ Below w.heap.size w w'
/-- the bytes of one's own and others that were made later: a number and those bytes are put behind -/
theorem far_off {w w1 : World} {b n : Nat} {v vp : Value} {l m : List UInt8} (h : w.ownsRow b 5 1 v l.length (l.map B)) (hp : w1.ownsRow n 5 1 vp m.length (m.map B)) (hn : w.heap.size ≤ n) (k : Nat) (e1 : v.ownBlock = some k) (e2 : vp.ownBlock = some k) : False := by
  have h1 := own_ge hp k e2
  rcases h.2 with ⟨rfl, _⟩ | ⟨g, cap, cur, rfl, _, hh, _⟩
  · cases e1
  · cases e1
    have h2 : n ≤ g := h1
    have := (Array.getElem?_eq_some_iff.1 hh).1
    omega
theorem oneL_len {r : Rec} (hl : r.Low) (hn : r.ss.length ≤ 16) : (oneL r).length ≤ 30000010 := by
  have h1 := recL_len hl hn
  have h2 : (numL (recL r).length).length ≤ 10 := (numF_len 9 _).2
  unfold oneL
  rw [List.length_append]
  omega
theorem flat_one (l : List Rec) (h : ∀ r ∈ l, r.Low ∧ r.ss.length ≤ 16) : (l.flatMap oneL).length ≤ l.length * 30000010 := by
  induction l with
  | nil => simp
  | cons x t ih =>
    have h1 := oneL_len (h x (List.mem_cons_self ..)).1 (h x (List.mem_cons_self ..)).2
    have h2 := ih (fun r hr => h r (List.mem_cons_of_mem _ hr))
    rw [List.flatMap_cons, List.length_append, List.length_cons, Nat.succ_mul]
    omega

set_option maxRecDepth 100000 in
set_option maxHeartbeats 6400000 in
theorem pack_any (l : List Rec) (v : Value) (ea em : Addr) (e : Nat → Addr) (w : World) (hv : LiesR w v l) (hz : ∀ r ∈ l, r.Small ∧ r.Low) (he : Env ea em (errw.E e 0) w) (hm : w.cell? ⟨0, 0, none⟩ = some (errw.E e 2)) :
    Calls Tryz.prog 5 #[v] w (PackOut l (fun n => if n = 0 then .nilIface else errw.E e (n - 1)) w) := by
  obtain ⟨ov, cv, hvv⟩ : ∃ ov cv, v = .slice ov l.length cv := by obtain ⟨a, b, h, _⟩ := hv; exact ⟨a, b, h⟩
  have ca := he.arg
  unfold PackOut
  by_cases h4 : 4 < l.length
  · have hE : pkE l = 3 := by unfold pkE; rw [if_pos h4]
    have hL : pkL l = [] := by unfold pkL; rw [if_pos h4]
    rw [hE, hL]
    have k1 : (4 : Int) < (l.length : Int) := by omega
    subst hvv
    clear hv hz he hE hL
    go_enter Tryz.func5, Tryz.ntmps5
    go_wp2_with fail
    go_quiet (fail)
    go_wp2_with fail
    go_ret2
    exact ⟨_, rfl, World.ownsRow_nil _ _ _ _, by first | exact Below.refl _ _ | exact (Below.refl _ _).drew | exact bdN (Below.refl _ _) _⟩
  by_cases h0 : l.length = 0
  · have hE : pkE l = 1 := by unfold pkE; rw [if_neg h4, if_pos h0]
    have hL : pkL l = [] := by unfold pkL; rw [if_neg h4, if_pos h0]
    rw [hE, hL]
    rw [h0] at hvv
    subst hvv
    clear hv hz he hE hL
    go_enter Tryz.func5, Tryz.ntmps5
    go_wp2_with fail
    go_quiet (fail)
    go_wp2_with fail
    go_ret2
    exact ⟨_, rfl, World.ownsRow_nil _ _ _ _, by first | exact Below.refl _ _ | exact (Below.refl _ _).drew | exact bdN (Below.refl _ _) _⟩
  have hn4 : l.length ≤ 4 := by omega
  have HE3 : Hid (pkE l = if pkOk l then 0 else 1) := by show _ = _; unfold pkE; rw [if_neg h4, if_neg h0]
  have HL3 : Hid (pkL l = if pkOk l then numL l.length ++ l.flatMap oneL else []) := by show _ = _; unfold pkL; rw [if_neg h4, if_neg h0]
  show Calls _ _ _ _ (fun x w' => ∃ v', x = .returned (.tuple #[v', (if pkE l = 0 then Value.nilIface else errw.E e (pkE l - 1))]) ∧ w'.ownsRow w.heap.size 5 1 v' (pkL l).length ((pkL l).map B) ∧ Below w.heap.size w w')
  obtain ⟨Ev, hEv⟩ : ∃ Ev : Value, Ev = (if pkE l = 0 then Value.nilIface else errw.E e (pkE l - 1)) := ⟨_, rfl⟩
  rw [← hEv]
  have HEV : Hid (Ev = if pkOk l then Value.nilIface else errw.E e 0) := by
    show Ev = _
    rw [hEv, HE3.out]
    cases pkOk l <;> rfl
  clear hEv
  have k1 : ¬ (4 : Int) < (l.length : Int) := by omega
  have k2 : ¬ (l.length : Int) = 0 := by omega
  have k2b : ((l.length : Int) == 0) = false := beq_false_of_ne k2
  have HV : Hid (∀ X, Below w.heap.size w X → LiesR X v l) := fun X hX => hv.below hX
  have HEN : Hid (∀ X, Below w.heap.size w X → Env ea em (errw.E e 0) X) := fun X hX => he.below hX
  have HZ := hide hz
  have hnl : (numL l.length).length ≤ 10 := (numF_len 9 l.length).2
  have HNUM := hide (appendNumber_any (.slice none 0 0) [] l.length w.heap.size w (World.ownsRow_nil _ _ _ _) (Nat.le_refl _) (by omega) (by simp))
  clear hv hz he hm
  subst hvv
  go_enter Tryz.func5, Tryz.ntmps5
  go_wp2_with fail
  refine HNUM.out.mono ?_
  rintro x w1 ⟨v1, rfl, hown, hgr⟩
  have HB1 : Hid (Below w.heap.size w w1) := hgr.below (fun k hk => by cases hk) (Nat.le_refl _)
  have HO1 : Hid (w1.ownsRow w.heap.size 5 1 v1 (numL l.length).length ((numL l.length).map B)) := by
    show World.ownsRow _ _ _ _ _ _ _
    simpa using hown
  clear hown hgr HNUM
  go_wp2_with fail
  go_loopw [4, 22] (fun vo i wr => ∃ j : Nat, j ≤ l.length ∧ i = .int .i64 j ∧ (∀ r ∈ l.take j, mayB r = true) ∧ wr.ownsRow w.heap.size 5 1 vo (numL l.length ++ (l.take j).flatMap oneL).length ((numL l.length ++ (l.take j).flatMap oneL).map B) ∧ Below w.heap.size w wr) (fun _ i _ => l.length - (intOf i).toNat)
  case atStart => exact ⟨0, Nat.zero_le _, rfl, by simp, by simpa using HO1.out, HB1.out⟩
  case round =>
    obtain ⟨j, hj, rfl, hall, hown, hbl⟩ := hrel
    have HALL := hide hall
    have HBL := hide hbl
    have hlj : (numL l.length ++ (l.take j).flatMap oneL).length ≤ 200000000 := by
      have h1 := flat_one (l.take j) (fun r hr => by
        have hm := hall r hr
        have hlo := (HZ.out r (List.mem_of_mem_take hr)).2
        exact ⟨hlo, (fine_of hm hlo).2.2.len⟩)
      have h2 : (l.take j).length ≤ 4 := by rw [List.length_take]; omega
      have h3 := Nat.mul_le_mul_right 30000010 h2
      rw [List.length_append]
      omega
    obtain ⟨lj, hljE⟩ : ∃ lj, lj = numL l.length ++ (l.take j).flatMap oneL := ⟨_, rfl⟩
    rw [← hljE] at hown hlj
    obtain ⟨oj, cj, rfl⟩ := own_slice hown
    have HO := hide hown
    have HLJ := hide hljE
    by_cases hlt : j < l.length
    · have j0 : (0 : Int) ≤ (j : Int) := Int.natCast_nonneg _
      have j1 : (j : Int) < (l.length : Int) := by omega
      obtain ⟨_, _, hq, hcc⟩ := HV.out wr hbl
      cases hq
      obtain ⟨g, o, vi, rfl, hg, hrg, hli⟩ := hcc j hlt
      obtain ⟨os, cs, rfl⟩ := Lies.len hli
      have hsm := HZ.out _ (List.getElem_mem hlt)
      have HTK : Hid (numL l.length ++ (l.take (j + 1)).flatMap oneL = lj ++ oneL l[j]) := by
        show _ = _
        rw [List.take_succ_eq_append_getElem hlt, List.flatMap_append, hljE]
        simp
      have HAL2 : Hid (mayB l[j] = true → ∀ r ∈ l.take (j + 1), mayB r = true) := fun hm r hr => by
        rw [List.take_succ_eq_append_getElem hlt] at hr
        rcases List.mem_append.1 hr with h | h
        · exact hall r h
        · rw [List.mem_singleton.1 h]; exact hm
      have HNO : Hid (mayB l[j] = false → pkOk l = false) := fun hm => by
        unfold pkOk
        rw [List.all_eq_false]
        exact ⟨_, List.getElem_mem hlt, by simp [hm]⟩
      generalize l[j]'hlt = r at *
      obtain ⟨X, hX⟩ : ∃ X, X = wr.alloc (.cells (rcs r (.slice os r.ss.length cs)) 26) := ⟨_, rfl⟩
      have bX : Below wr.heap.size wr X := by rw [hX]; exact (Below.refl _ _).alloc (Nat.le_refl _) _
      have HBX := hide bX
      have HRX : Hid (X.rangeAt wr.heap.size 0 (rcl9 r (.slice os r.ss.length cs))) := by show World.rangeAt _ _ _ _; rw [hX]; exact range_of (t := 26) (heap_alloc_new wr _)
      have HENC := hide (encode_any r (.slice os r.ss.length cs) ea em e X (hli.below bX) hsm.1 hsm.2 (HEN.out X (keepW hbl bX)))
      unfold EncOut at HENC
      have HRG := hide hrg
      have HX := hide hX
      rw [hX] at HRX
      have HLOW := hide hsm.2
      clear hown hljE hcc hli hsm hall hbl hrg hX bX
      go_wp2_with (first
        | (refine wpList_load_mid rfl 26 (.tmp 24) rfl g (o + j * 9) rfl _ _ HRG.out Tryz.underlying26 rfl sizeRec ?_)
        | (refine wpList_load_mid rfl 26 (.tmp 6) rfl wr.heap.size 0 rfl _ _ HRX.out Tryz.underlying26 rfl sizeRec ?_))
      rw [← HX.out]
      refine HENC.out.mono ?_
      rintro x y ⟨vp, rfl, ⟨n, hn, ownp⟩, by1⟩
      obtain ⟨op, cp, hvp⟩ := own_slice ownp
      have HBY := hide (keepW HBX.out by1)
      cases hm : mayB r with
      | false =>
        rw [hm] at ownp hvp
        simp only [Bool.false_eq_true, if_false] at ownp hvp
        simp only [Bool.false_eq_true, if_false]
        have HOKF : Hid (pkOk l = false) := HNO.out hm
        subst hvp
        clear ownp hm hn by1
        go_wp2_with fail
        go_ret2
        exact ⟨_, by rw [HEV.out, HOKF.out]; rfl, by rw [HL3.out, HOKF.out]; exact World.ownsRow_nil _ _ _ _, keepW HBL.out HBY.out⟩
      | true =>
        rw [hm] at ownp hvp
        simp only [if_true] at ownp hvp
        simp only [if_true]
        have HALN := hide (HAL2.out hm)
        have hrl := recL_len HLOW.out (fine_of hm HLOW.out).2.2.len
        have HOY := hide (own_below HO.out HBY.out)
        have HOP := hide ownp
        have HN2 : Hid (wr.heap.size ≤ n) := Nat.le_trans HBX.out.size hn
        have hwy : w.heap.size ≤ y.heap.size := (keepW HBL.out HBY.out).size
        have HAN := hide (appendNumber_any _ lj (recL r).length w.heap.size y HOY.out hwy (by omega) (by omega))
        subst hvp
        clear ownp hm hn by1
        go_wp2_with fail
        refine HAN.out.mono ?_
        rintro x z ⟨v3, rfl, own3, gr3⟩
        have hop2 := own_fr HOP.out gr3.fr (fun k hk hm => far_off HO.out HOP.out HN2.out k (by simpa using hm) hk)
        have hnb : (numL (recL r).length).length ≤ 10 := (numF_len 9 _).2
        have hwz : w.heap.size ≤ z.heap.size := Nat.le_trans hwy gr3.fr.size
        obtain ⟨v4, Z, hrun, own4, fr4, at4⟩ := dr.append_rd z w.heap.size v3 _ own3 op cp (recL r) (rd_own hop2) (by rw [List.length_append]; omega) hwz
        have gr4 := gr3.trans (gr_of fr4 at4)
        have HZ4 : Hid (Z.ownsRow w.heap.size 5 1 v4 (numL l.length ++ (l.take (j + 1)).flatMap oneL).length ((numL l.length ++ (l.take (j + 1)).flatMap oneL).map B)) := by
          show World.ownsRow _ _ _ _ _ _ _
          rw [HTK.out]
          unfold oneL
          rw [← List.append_assoc]
          exact own4
        have HBZ : Hid (Below w.heap.size w Z) := (keepW HBL.out HBY.out).trans (gr4.below (own_ge HOY.out) hwy)
        clear own3 gr3 hop2 own4 fr4 at4 gr4
        go_wp2_with (at_builtin; refine wpList_appendX rfl _ _ 27 27 rfl _ _ rfl rfl _ _ hrun ?_)
        go_roundw
        case rel => exact ⟨j + 1, by omega, by go_num, HALN.out, HZ4.out, HBZ.out⟩
        case measure => simp [intOf]; omega
    · have j1 : ¬ (j : Int) < (l.length : Int) := by omega
      have HOK : Hid (pkOk l = true) := by
        show pkOk l = true
        unfold pkOk
        rw [List.all_eq_true]
        rw [List.take_of_length_le (by omega)] at hall
        exact hall
      have HLE : Hid (lj = pkL l) := by
        show lj = _
        rw [HL3.out, HOK.out, hljE, List.take_of_length_le (by omega)]
        rfl
      clear hown hljE hall hbl
      go_wp2_with fail
      go_ret2
      exact ⟨_, by rw [HEV.out, HOK.out]; rfl, by rw [← HLE.out]; exact HO.out, HBL.out⟩
end Go.Proofs.YtobflealcldgnaaGreatDoor.rc
