import Derived.Test.YtimbhneegphhbaaGreatDoorRcRef
import Derived.Test.YtimbhneegphhbaaGreatDoorRefMeant
import Derived.Test.YtimbhneegphhbaaGreatDoorErrWalks
import Derived.Test.YtimbhneegphhbaaGreatDoorTmRed
import Derived.LaidLaws
import Derived.Stop.LaidErr
import Derived.Lib.LaidU8
namespace Go.Proofs.YtimbhneegphhbaaGreatDoor.rc
open Go.ChangeShapes Go.WideShapes Go.ChangeAt Go.RowKit Go.Proofs.YtimbhneegphhbaaGreatDoor.common Go.Proofs.YtimbhneegphhbaaGreatDoor.bk Go.Proofs.YtimbhneegphhbaaGreatDoor.ss
attribute [local go_sem ↓] Go.wp_at_zero Go.wp_at_succ

def T_hasID : List Bool := [false, true, true, false, true, true, true, true, true, true, true, false]
def T_hasUser : List Bool := [false, true, false, true, true, false, true, false, false, true, false, true]
def T_hasClient : List Bool := [false, false, false, true, true, false, true, false, false, true, false, true]
def T_hasRedirect : List Bool := [false, false, false, false, true, false, false, false, false, false, false, false]
def T_hasChallenge : List Bool := [false, false, false, false, true, false, false, false, false, false, false, false]
def T_hasCode : List Bool := [false, false, false, false, false, false, true, false, false, true, false, false]
def T_hasScopes : List Bool := [false, false, false, true, true, false, true, false, false, true, false, false]
def T_hasAt : List Bool := [false, true, false, true, true, false, true, false, false, true, false, false]
/-- the document's tables: which fields a kind names -/
structure HTab (w : World) : Prop where
  t1 : ∀ i, i < 12 → w.cell? ⟨13, i, none⟩ = some (.bool (T_hasID.getD i false))
  t2 : ∀ i, i < 12 → w.cell? ⟨18, i, none⟩ = some (.bool (T_hasUser.getD i false))
  t3 : ∀ i, i < 12 → w.cell? ⟨16, i, none⟩ = some (.bool (T_hasClient.getD i false))
  t4 : ∀ i, i < 12 → w.cell? ⟨14, i, none⟩ = some (.bool (T_hasRedirect.getD i false))
  t5 : ∀ i, i < 12 → w.cell? ⟨20, i, none⟩ = some (.bool (T_hasChallenge.getD i false))
  t6 : ∀ i, i < 12 → w.cell? ⟨15, i, none⟩ = some (.bool (T_hasCode.getD i false))
  t7 : ∀ i, i < 12 → w.cell? ⟨17, i, none⟩ = some (.bool (T_hasScopes.getD i false))
  t8 : ∀ i, i < 12 → w.cell? ⟨19, i, none⟩ = some (.bool (T_hasAt.getD i false))
theorem HTab.below {w w' : World} (h : HTab w) (hb : Below w.heap.size w w') : HTab w' :=
  ⟨fun i hi => (hb.cell (World.block_lt_of_cell? _ _ (h.t1 i hi))).trans (h.t1 i hi), fun i hi => (hb.cell (World.block_lt_of_cell? _ _ (h.t2 i hi))).trans (h.t2 i hi), fun i hi => (hb.cell (World.block_lt_of_cell? _ _ (h.t3 i hi))).trans (h.t3 i hi), fun i hi => (hb.cell (World.block_lt_of_cell? _ _ (h.t4 i hi))).trans (h.t4 i hi), fun i hi => (hb.cell (World.block_lt_of_cell? _ _ (h.t5 i hi))).trans (h.t5 i hi), fun i hi => (hb.cell (World.block_lt_of_cell? _ _ (h.t6 i hi))).trans (h.t6 i hi), fun i hi => (hb.cell (World.block_lt_of_cell? _ _ (h.t7 i hi))).trans (h.t7 i hi), fun i hi => (hb.cell (World.block_lt_of_cell? _ _ (h.t8 i hi))).trans (h.t8 i hi)⟩
theorem kinds12 (k : Nat) (h0 : 0 < k) (h1 : k < 12) : k = 1 ∨ k = 2 ∨ k = 3 ∨ k = 4 ∨ k = 5 ∨ k = 6 ∨ k = 7 ∨ k = 8 ∨ k = 9 ∨ k = 10 ∨ k = 11 := by omega
theorem tab_hasID (k : Nat) (h0 : 0 < k) (h1 : k < 12) : T_hasID.getD k false = nm (k : Int) 1 := by
  rcases kinds12 k h0 h1 with h | h | h | h | h | h | h | h | h | h | h <;> subst h <;> decide
theorem tab_hasUser (k : Nat) (h0 : 0 < k) (h1 : k < 12) : T_hasUser.getD k false = nm (k : Int) 2 := by
  rcases kinds12 k h0 h1 with h | h | h | h | h | h | h | h | h | h | h <;> subst h <;> decide
theorem tab_hasClient (k : Nat) (h0 : 0 < k) (h1 : k < 12) : T_hasClient.getD k false = nm (k : Int) 4 := by
  rcases kinds12 k h0 h1 with h | h | h | h | h | h | h | h | h | h | h <;> subst h <;> decide
theorem tab_hasRedirect (k : Nat) (h0 : 0 < k) (h1 : k < 12) : T_hasRedirect.getD k false = nm (k : Int) 8 := by
  rcases kinds12 k h0 h1 with h | h | h | h | h | h | h | h | h | h | h <;> subst h <;> decide
theorem tab_hasChallenge (k : Nat) (h0 : 0 < k) (h1 : k < 12) : T_hasChallenge.getD k false = nm (k : Int) 16 := by
  rcases kinds12 k h0 h1 with h | h | h | h | h | h | h | h | h | h | h <;> subst h <;> decide
theorem tab_hasCode (k : Nat) (h0 : 0 < k) (h1 : k < 12) : T_hasCode.getD k false = nm (k : Int) 32 := by
  rcases kinds12 k h0 h1 with h | h | h | h | h | h | h | h | h | h | h <;> subst h <;> decide
theorem tab_hasScopes (k : Nat) (h0 : 0 < k) (h1 : k < 12) : T_hasScopes.getD k false = nm (k : Int) 64 := by
  rcases kinds12 k h0 h1 with h | h | h | h | h | h | h | h | h | h | h <;> subst h <;> decide
theorem tab_hasAt (k : Nat) (h0 : 0 < k) (h1 : k < 12) : T_hasAt.getD k false = nm (k : Int) 128 := by
  rcases kinds12 k h0 h1 with h | h | h | h | h | h | h | h | h | h | h <;> subst h <;> decide
theorem empty_forms (s : ByteArray) (z : Bool) (h : decide (s.size = 0) = z) : (s.toList == []) = z ∧ s.toList.isEmpty = z ∧ s.data.toList.isEmpty = z := by
  by_cases hs : s = ⟨#[]⟩
  · subst hs
    subst h
    exact ⟨by rw [ByteArray.toList_eq]; rfl, by rw [ByteArray.toList_eq]; rfl, rfl⟩
  · obtain ⟨h1, h2, h3⟩ := tm.word_ne hs
    have hz : ¬ s.size = 0 := fun h => hs (ba_ext (by simpa using List.eq_nil_of_length_eq_zero (l := s.data.toList) (by simpa using h)))
    rw [decide_eq_false hz] at h
    subst h
    exact ⟨h1, h3, h2⟩
def chN (r : Rec) : Int := if mayB r then 0 else 1
set_option maxRecDepth 100000 in
set_option maxHeartbeats 25600000 in
theorem refCheck_any (r : Rec) (v : Value) (w : World) (hv : Lies w v r.ss) (hz : r.Small) (hb : r.id.size ≤ 1048576 ∧ r.cd.size ≤ 1048576) (ht : HTab w) :
    Calls Tryz.prog 35 #[.agg (rcs r v)] w fun e w' => e = .returned (.int .i64 (chN r)) ∧ Below w.heap.size w w' := by
  obtain ⟨W0, hW0⟩ : ∃ W0, W0 = w.alloc (.cells (rcs r v) 26) := ⟨_, rfl⟩
  have hb0 : Below w.heap.size w W0 := by rw [hW0]; exact (Below.refl _ _).alloc (Nat.le_refl _) _
  have HC : Hid (BoxR W0 w.heap.size r v) := by show BoxR _ _ _ _; rw [hW0]; exact boxR w r v _
  have HB0 := hide hb0
  have HW0 := hide hW0
  have HN0 : Below W0.heap.size W0 W0 := Below.refl _ _
  have HCN : Hid (chN r = if mayB r then 0 else 1) := rfl
  generalize chN r = R at *
  have hrd : ∀ X, Calls Tryz.prog 52 #[.string r.rd] X fun e w' => e = .returned (.bool (tm.redL r.rd.data.toList)) ∧ Below X.heap.size X w' := fun X => by
    have := tm.refRed_any r.rd X (Nat.le_trans hz.rd (by unfold reachBytes; decide))
    rw [tm.ref_red] at this
    exact this
  obtain ⟨oa, ca, hvv⟩ := Lies.len hv
  by_cases hk1 : r.k < 1
  · have HM : Hid (mayB r = false) := by
      show mayB r = false
      have : isK r.k = false := by unfold isK; rw [decide_eq_false (show ¬ 0 < r.k by omega)]; rfl
      unfold mayB; rw [this]; rfl
    obtain ⟨c0, -⟩ := HC.out W0 HN0
    go_enter Tryz.func35, Tryz.ntmps35
    subst hvv
    go_wp2_with fail
    rw [← HW0.out]
    go_wp2_with fail
    go_ret
    exact ⟨by rw [HCN.out, HM.out]; rfl, HB0.out⟩
  by_cases hk2 : 11 < r.k
  · have HM : Hid (mayB r = false) := by
      show mayB r = false
      have : isK r.k = false := by unfold isK; rw [decide_eq_false (show ¬ r.k < 12 by omega)]; simp
      unfold mayB; rw [this]; rfl
    obtain ⟨c0, -⟩ := HC.out W0 HN0
    go_enter Tryz.func35, Tryz.ntmps35
    subst hvv
    go_wp2_with fail
    rw [← HW0.out]
    go_wp2_with fail
    go_ret
    exact ⟨by rw [HCN.out, HM.out]; rfl, HB0.out⟩
  obtain ⟨k, hk⟩ : ∃ k : Nat, r.k = (k : Int) := ⟨r.k.toNat, by omega⟩
  have hk0 : 0 < k := by omega
  have hk12 : k < 12 := by omega
  have H1 : Hid (∀ X, Below W0.heap.size W0 X → Calls Tryz.prog 50 #[.string r.id] X fun e w' => e = .returned (.bool (idB r.id)) ∧ Below W0.heap.size W0 w') := fun X hX => (refIdent_any r.id X hb.1).mono (fun e w1 h => ⟨h.1, keepW hX h.2⟩)
  have H2 : Hid (∀ X, Below W0.heap.size W0 X → Calls Tryz.prog 51 #[.string r.us] X fun e w' => e = .returned (.bool (Tm.word 64 (Tm.btw 33 126) r.us.data.toList)) ∧ w' = X) := fun X _ => (tm.refName_any r.us X (Nat.le_trans hz.us (by unfold reachBytes; decide)))
  have H3 : Hid (∀ X, Below W0.heap.size W0 X → Calls Tryz.prog 51 #[.string r.cl] X fun e w' => e = .returned (.bool (Tm.word 64 (Tm.btw 33 126) r.cl.data.toList)) ∧ w' = X) := fun X _ => (tm.refName_any r.cl X (Nat.le_trans hz.cl (by unfold reachBytes; decide)))
  have H4 : Hid (∀ X, Below W0.heap.size W0 X → Calls Tryz.prog 52 #[.string r.rd] X fun e w' => e = .returned (.bool (tm.redL r.rd.data.toList)) ∧ Below W0.heap.size W0 w') := fun X hX => (hrd X).mono (fun e w1 h => ⟨h.1, keepW hX h.2⟩)
  have H5 : Hid (∀ X, Below W0.heap.size W0 X → Calls Tryz.prog 53 #[.string r.ch] X fun e w' => e = .returned (.bool (Pk.proof r.ch.data.toList)) ∧ w' = X) := fun X _ => refChal_any r.ch X
  have H6 : Hid (∀ X, Below W0.heap.size W0 X → Calls Tryz.prog 50 #[.string r.cd] X fun e w' => e = .returned (.bool (idB r.cd)) ∧ Below W0.heap.size W0 w') := fun X hX => (refIdent_any r.cd X hb.2).mono (fun e w1 h => ⟨h.1, keepW hX h.2⟩)
  have H7 : Hid (∀ X, Below W0.heap.size W0 X → Calls Tryz.prog 54 #[v] X fun e w' => e = .returned (.bool (fitL true r.ss)) ∧ Below W0.heap.size W0 w') := fun X hX => (scopesMayBe_any v r.ss X (hv.below (keepW hb0 hX)) hz.len hz.ss).mono (fun e w1 h => ⟨h.1, keepW hX h.2⟩)
  have HEI : Hid (∀ (a b c : Bool) X, Calls Tryz.prog 55 #[.bool a, .bool b, .bool c] X fun e w' => e = .returned (.bool (eit a b c)) ∧ w' = X) := fun a b c X => either_any a b c X
  have HT : Hid (∀ X, Below W0.heap.size W0 X → X.cell? ⟨13, k, none⟩ = some (.bool (nm (k : Int) 1)) ∧ X.cell? ⟨18, k, none⟩ = some (.bool (nm (k : Int) 2)) ∧ X.cell? ⟨16, k, none⟩ = some (.bool (nm (k : Int) 4)) ∧ X.cell? ⟨14, k, none⟩ = some (.bool (nm (k : Int) 8)) ∧ X.cell? ⟨20, k, none⟩ = some (.bool (nm (k : Int) 16)) ∧ X.cell? ⟨15, k, none⟩ = some (.bool (nm (k : Int) 32)) ∧ X.cell? ⟨17, k, none⟩ = some (.bool (nm (k : Int) 64)) ∧ X.cell? ⟨19, k, none⟩ = some (.bool (nm (k : Int) 128))) := fun X hX => by
    have h := (ht.below hb0).below hX
    exact ⟨by rw [← tab_hasID k hk0 hk12]; exact h.t1 k hk12, by rw [← tab_hasUser k hk0 hk12]; exact h.t2 k hk12, by rw [← tab_hasClient k hk0 hk12]; exact h.t3 k hk12, by rw [← tab_hasRedirect k hk0 hk12]; exact h.t4 k hk12, by rw [← tab_hasChallenge k hk0 hk12]; exact h.t5 k hk12, by rw [← tab_hasCode k hk0 hk12]; exact h.t6 k hk12, by rw [← tab_hasScopes k hk0 hk12]; exact h.t7 k hk12, by rw [← tab_hasAt k hk0 hk12]; exact h.t8 k hk12⟩
  have HM : Hid (mayB r = (eit (nm (k : Int) 1) (idB r.id) (decide (r.id.size = 0)) && eit (nm (k : Int) 2) (Tm.word 64 (Tm.btw 33 126) r.us.data.toList) (decide (r.us.size = 0)) && eit (nm (k : Int) 4) (Tm.word 64 (Tm.btw 33 126) r.cl.data.toList) (decide (r.cl.size = 0)) && eit (nm (k : Int) 8) (tm.redL r.rd.data.toList) (decide (r.rd.size = 0)) && eit (nm (k : Int) 16) (Pk.proof r.ch.data.toList) (decide (r.ch.size = 0)) && eit (nm (k : Int) 32) (idB r.cd) (decide (r.cd.size = 0)) && eit (nm (k : Int) 64) (fitL true r.ss) (decide (r.ss.length = 0)) && eit (nm (k : Int) 128) (decide (0 ≤ r.at_) && decide (r.at_ ≤ 1099511627776)) (decide (r.at_ = 0)))) := by
    show mayB r = _
    have h1 : isK r.k = true := by unfold isK; rw [decide_eq_true (show 0 < r.k by omega), decide_eq_true (show r.k < 12 by omega)]; rfl
    have h2 : ∀ b, fitL b r.ss = eit b (fitL true r.ss) (decide (r.ss.length = 0)) := fun b => by cases b <;> rfl
    have h3 : ∀ b s t, fitS b s t = eit b t (decide (s.size = 0)) := fun b s t => by cases b <;> rfl
    have h4 : ∀ b, fitT b r.at_ = eit b (decide (0 ≤ r.at_) && decide (r.at_ ≤ 1099511627776)) (decide (r.at_ = 0)) := fun b => by cases b <;> rfl
    unfold mayB t_id t_us t_cl t_rd t_ch t_cd
    rw [h1, h2, h4, hk]
    simp only [h3, Bool.true_and, Bool.and_assoc]
  generalize mayB r = M at *
  obtain ⟨z1, hz1⟩ : ∃ z, decide (r.id.size = 0) = z := ⟨_, rfl⟩
  obtain ⟨p1a, p1b, p1c⟩ := empty_forms r.id z1 hz1
  rw [hz1] at HM
  clear hz1
  obtain ⟨z2, hz2⟩ : ∃ z, decide (r.us.size = 0) = z := ⟨_, rfl⟩
  obtain ⟨p2a, p2b, p2c⟩ := empty_forms r.us z2 hz2
  rw [hz2] at HM
  clear hz2
  obtain ⟨z3, hz3⟩ : ∃ z, decide (r.cl.size = 0) = z := ⟨_, rfl⟩
  obtain ⟨p3a, p3b, p3c⟩ := empty_forms r.cl z3 hz3
  rw [hz3] at HM
  clear hz3
  obtain ⟨z4, hz4⟩ : ∃ z, decide (r.rd.size = 0) = z := ⟨_, rfl⟩
  obtain ⟨p4a, p4b, p4c⟩ := empty_forms r.rd z4 hz4
  rw [hz4] at HM
  clear hz4
  obtain ⟨z5, hz5⟩ : ∃ z, decide (r.ch.size = 0) = z := ⟨_, rfl⟩
  obtain ⟨p5a, p5b, p5c⟩ := empty_forms r.ch z5 hz5
  rw [hz5] at HM
  clear hz5
  obtain ⟨z6, hz6⟩ : ∃ z, decide (r.cd.size = 0) = z := ⟨_, rfl⟩
  obtain ⟨p6a, p6b, p6c⟩ := empty_forms r.cd z6 hz6
  rw [hz6] at HM
  clear hz6
  generalize nm (k : Int) 1 = n1 at *
  generalize nm (k : Int) 2 = n2 at *
  generalize nm (k : Int) 4 = n3 at *
  generalize nm (k : Int) 8 = n4 at *
  generalize nm (k : Int) 16 = n5 at *
  generalize nm (k : Int) 32 = n6 at *
  generalize nm (k : Int) 64 = n7 at *
  generalize nm (k : Int) 128 = n8 at *
  generalize idB r.id = s1 at *
  generalize Tm.word 64 (Tm.btw 33 126) r.us.data.toList = s2 at *
  generalize Tm.word 64 (Tm.btw 33 126) r.cl.data.toList = s3 at *
  generalize tm.redL r.rd.data.toList = s4 at *
  generalize Pk.proof r.ch.data.toList = s5 at *
  generalize idB r.cd = s6 at *
  generalize fitL true r.ss = s7 at *
  have q7 : ((r.ss.length : Int) == 0) = decide (r.ss.length = 0) := by
    by_cases h : r.ss.length = 0
    · rw [h]; rfl
    · rw [decide_eq_false h]; exact beq_false_of_ne (by omega)
  have q7' : (r.ss.length == 0) = decide (r.ss.length = 0) := by
    by_cases h : r.ss.length = 0
    · rw [h]; rfl
    · rw [decide_eq_false h]; exact beq_false_of_ne h
  generalize hz7 : decide (r.ss.length = 0) = z7 at *
  have q8 : (r.at_ == 0) = decide (r.at_ = 0) := by
    by_cases h : r.at_ = 0
    · rw [h]; rfl
    · rw [decide_eq_false h]; exact beq_false_of_ne h
  generalize hz8 : decide (r.at_ = 0) = z8 at *
  subst hvv
  obtain ⟨rk, xid, xus, xcl, xrd, xch, xcd, xss, xat⟩ := r
  dsimp only at *
  subst hk
  have k0 : (0 : Int) ≤ (k : Int) := Int.natCast_nonneg _
  have k1 : (k : Int) < 12 := by omega
  have k2 : ¬ (k : Int) < 1 := by omega
  have k3 : ¬ (11 : Int) < (k : Int) := by omega
  have HIN : Hid (∀ X, Below W0.heap.size W0 X → X.cell? ⟨w.heap.size, 0, none⟩ = some (.int .i64 (k : Int)) ∧ X.cell? ⟨w.heap.size, 1, none⟩ = some (.string xid) ∧ X.cell? ⟨w.heap.size, 2, none⟩ = some (.string xus) ∧ X.cell? ⟨w.heap.size, 3, none⟩ = some (.string xcl) ∧ X.cell? ⟨w.heap.size, 4, none⟩ = some (.string xrd) ∧ X.cell? ⟨w.heap.size, 5, none⟩ = some (.string xch) ∧ X.cell? ⟨w.heap.size, 6, none⟩ = some (.string xcd) ∧ X.cell? ⟨w.heap.size, 7, none⟩ = some (.slice oa xss.length ca) ∧ X.cell? ⟨w.heap.size, 8, none⟩ = some (.int .i64 xat)) := fun X hX => HC.out X hX
  clear hk1 hk2 hk0 hk12 hz hb hv ht hb0 hW0 HC hz7 hz8 hrd
  by_cases ha : 0 ≤ xat
  · have HA : Hid (decide (0 ≤ xat) = true) := decide_eq_true ha
    rw [HA.out] at HM
    obtain ⟨c0, c1, c2, c3, c4, c5, c6, c7, c8⟩ := HIN.out W0 HN0
    go_enter Tryz.func35, Tryz.ntmps35
    go_wp2_with fail
    rw [← HW0.out]
    go_wp2_with (first
      | (go_at_call 50; with_reducible refine (H1.out _ (by assumption)).mono ?_; rintro x y1 ⟨rfl, b1⟩; obtain ⟨c0, c1, c2, c3, c4, c5, c6, c7, c8⟩ := HIN.out _ b1)
      | (go_at_call 51; with_reducible refine (H2.out _ (by assumption)).mono ?_; rintro x w1 ⟨rfl, rfl⟩)
      | (go_at_call 51; with_reducible refine (H3.out _ (by assumption)).mono ?_; rintro x w1 ⟨rfl, rfl⟩)
      | (go_at_call 52; with_reducible refine (H4.out _ (by assumption)).mono ?_; rintro x y4 ⟨rfl, b4⟩; obtain ⟨c0, c1, c2, c3, c4, c5, c6, c7, c8⟩ := HIN.out _ b4)
      | (go_at_call 53; with_reducible refine (H5.out _ (by assumption)).mono ?_; rintro x w1 ⟨rfl, rfl⟩)
      | (go_at_call 50; with_reducible refine (H6.out _ (by assumption)).mono ?_; rintro x y6 ⟨rfl, b6⟩; obtain ⟨c0, c1, c2, c3, c4, c5, c6, c7, c8⟩ := HIN.out _ b6)
      | (go_at_call 54; with_reducible refine (H7.out _ (by assumption)).mono ?_; rintro x y7 ⟨rfl, b7⟩; obtain ⟨c0, c1, c2, c3, c4, c5, c6, c7, c8⟩ := HIN.out _ b7; obtain ⟨d1, d2, d3, d4, d5, d6, d7, d8⟩ := HT.out _ b7))
    go_quiet ((go_at_call 55; exact (HEI.out _ _ _ _).mono (fun e w1 h => ⟨h.1, _, h.2⟩)))
    go_wp2_with fail
    go_quiet ((go_at_call 55; exact (HEI.out _ _ _ _).mono (fun e w1 h => ⟨h.1, _, h.2⟩)))
    go_wp2_with fail
    go_quiet ((go_at_call 55; exact (HEI.out _ _ _ _).mono (fun e w1 h => ⟨h.1, _, h.2⟩)))
    go_wp2_with fail
    go_quiet ((go_at_call 55; exact (HEI.out _ _ _ _).mono (fun e w1 h => ⟨h.1, _, h.2⟩)))
    go_wp2_with fail
    go_quiet ((go_at_call 55; exact (HEI.out _ _ _ _).mono (fun e w1 h => ⟨h.1, _, h.2⟩)))
    go_wp2_with fail
    go_quiet ((go_at_call 55; exact (HEI.out _ _ _ _).mono (fun e w1 h => ⟨h.1, _, h.2⟩)))
    go_wp2_with fail
    go_quiet ((go_at_call 55; exact (HEI.out _ _ _ _).mono (fun e w1 h => ⟨h.1, _, h.2⟩)))
    go_wp2_with fail
    go_quiet ((go_at_call 55; exact (HEI.out _ _ _ _).mono (fun e w1 h => ⟨h.1, _, h.2⟩)))
    go_wp2_with fail
    all_goals
      go_ret
      refine ⟨?_, keepW HB0.out (by first | exact bdN' b7 _ | exact bdN' (bdN' b7 _) _)⟩
      rw [HCN.out, HM.out]
      simp [*]
  · have HA : Hid (decide (0 ≤ xat) = false) := decide_eq_false ha
    rw [HA.out] at HM
    obtain ⟨c0, c1, c2, c3, c4, c5, c6, c7, c8⟩ := HIN.out W0 HN0
    go_enter Tryz.func35, Tryz.ntmps35
    go_wp2_with fail
    rw [← HW0.out]
    go_wp2_with (first
      | (go_at_call 50; with_reducible refine (H1.out _ (by assumption)).mono ?_; rintro x y1 ⟨rfl, b1⟩; obtain ⟨c0, c1, c2, c3, c4, c5, c6, c7, c8⟩ := HIN.out _ b1)
      | (go_at_call 51; with_reducible refine (H2.out _ (by assumption)).mono ?_; rintro x w1 ⟨rfl, rfl⟩)
      | (go_at_call 51; with_reducible refine (H3.out _ (by assumption)).mono ?_; rintro x w1 ⟨rfl, rfl⟩)
      | (go_at_call 52; with_reducible refine (H4.out _ (by assumption)).mono ?_; rintro x y4 ⟨rfl, b4⟩; obtain ⟨c0, c1, c2, c3, c4, c5, c6, c7, c8⟩ := HIN.out _ b4)
      | (go_at_call 53; with_reducible refine (H5.out _ (by assumption)).mono ?_; rintro x w1 ⟨rfl, rfl⟩)
      | (go_at_call 50; with_reducible refine (H6.out _ (by assumption)).mono ?_; rintro x y6 ⟨rfl, b6⟩; obtain ⟨c0, c1, c2, c3, c4, c5, c6, c7, c8⟩ := HIN.out _ b6)
      | (go_at_call 54; with_reducible refine (H7.out _ (by assumption)).mono ?_; rintro x y7 ⟨rfl, b7⟩; obtain ⟨c0, c1, c2, c3, c4, c5, c6, c7, c8⟩ := HIN.out _ b7; obtain ⟨d1, d2, d3, d4, d5, d6, d7, d8⟩ := HT.out _ b7))
    go_quiet ((go_at_call 55; exact (HEI.out _ _ _ _).mono (fun e w1 h => ⟨h.1, _, h.2⟩)))
    go_wp2_with fail
    go_quiet ((go_at_call 55; exact (HEI.out _ _ _ _).mono (fun e w1 h => ⟨h.1, _, h.2⟩)))
    go_wp2_with fail
    go_quiet ((go_at_call 55; exact (HEI.out _ _ _ _).mono (fun e w1 h => ⟨h.1, _, h.2⟩)))
    go_wp2_with fail
    go_quiet ((go_at_call 55; exact (HEI.out _ _ _ _).mono (fun e w1 h => ⟨h.1, _, h.2⟩)))
    go_wp2_with fail
    go_quiet ((go_at_call 55; exact (HEI.out _ _ _ _).mono (fun e w1 h => ⟨h.1, _, h.2⟩)))
    go_wp2_with fail
    go_quiet ((go_at_call 55; exact (HEI.out _ _ _ _).mono (fun e w1 h => ⟨h.1, _, h.2⟩)))
    go_wp2_with fail
    go_quiet ((go_at_call 55; exact (HEI.out _ _ _ _).mono (fun e w1 h => ⟨h.1, _, h.2⟩)))
    go_wp2_with fail
    go_quiet ((go_at_call 55; exact (HEI.out _ _ _ _).mono (fun e w1 h => ⟨h.1, _, h.2⟩)))
    go_wp2_with fail
    all_goals
      go_ret
      refine ⟨?_, keepW HB0.out (by first | exact bdN' b7 _ | exact bdN' (bdN' b7 _) _)⟩
      rw [HCN.out, HM.out]
      simp [*]
end Go.Proofs.YtimbhneegphhbaaGreatDoor.rc

namespace Go.Proofs.YtimbhneegphhbaaGreatDoor.rc
open Go.ChangeShapes Go.WideShapes Go.ChangeAt Go.RowKit Go.Proofs.YtimbhneegphhbaaGreatDoor.common Go.Proofs.YtimbhneegphhbaaGreatDoor.ss
attribute [local go_sem ↓] Go.wp_at_zero Go.wp_at_succ

abbrev rcl (r : Rec) (v : Value) : List Value := [.int .i64 r.k, .string r.id, .string r.us, .string r.cl, .string r.rd, .string r.ch, .string r.cd, v, .int .i64 r.at_]
/-- what a law has at hand when a record was lent: the record's own box, the twin's box with the lent list -/
structure Lent (w : World) (r : Rec) (v vt va : Value) (T base : Nat) (X : World) : Prop where
  low : Below w.heap.size w X
  box : X.rangeAt w.heap.size 0 (rcl r v)
  twin : X.rangeAt T 0 (rcl r vt)
  lt : w.heap.size < X.heap.size ∧ T < X.heap.size
  own : Lies X v r.ss
  head : Lies X vt r.ss
  all : X.ownsRow base 9 1 va (r.ss ++ marks).length (sc (r.ss ++ marks))
theorem Lent.below {w : World} {r : Rec} {v vt va : Value} {T base : Nat} {X Y : World} (h : Lent w r v vt va T base X) (hb : Below X.heap.size X Y) : Lent w r v vt va T base Y :=
  ⟨keepW h.low hb, dk.range_block h.box (hb.block _ h.lt.1), dk.range_block h.twin (hb.block _ h.lt.2), ⟨Nat.lt_of_lt_of_le h.lt.1 hb.size, Nat.lt_of_lt_of_le h.lt.2 hb.size⟩, h.own.below hb, h.head.below hb, dk.own_below h.all hb⟩

end Go.Proofs.YtimbhneegphhbaaGreatDoor.rc

namespace Go.Proofs.YtimbhneegphhbaaGreatDoor.tm
open Go.ChangeShapes Go.WideShapes Go.ChangeAt Go.RowKit Go.Proofs.YtimbhneegphhbaaGreatDoor.common Go.Proofs.YtimbhneegphhbaaGreatDoor.bk
open Go.Shelf Go.Lib

theorem rngG : Tryz.prog.globalNamed "strconv.ErrRange" = some 27 := by kernel_rfl
theorem rngT : (Tryz.prog.globals[27]?).map (·.type) = some 29 := by kernel_rfl
theorem synG : Tryz.prog.globalNamed "strconv.ErrSyntax" = some 26 := by kernel_rfl
theorem synT : (Tryz.prog.globals[26]?).map (·.type) = some 29 := by kernel_rfl
theorem nums_of_laid {W : World} {rest : List (String × DataW Unit)} (h : laidMet Tryz.prog (("strconv.ErrRange", Rows.laid_strconv_ErrRange) :: ("strconv.ErrSyntax", Rows.laid_strconv_ErrSyntax) :: rest) W) : Nums W := by
  obtain ⟨ps, h0, _, hrows⟩ := h
  obtain ⟨a0, q0, c0, h1, rfl⟩ := errw.peel h0 (fun b off hm => hrows b off (by simp [hm])) rngG rngT Tryz.underlying29 errw.rowErr Tryz.underlying204 Tryz.underlying206 rfl rfl Tryz.underlying9 errw.cellsErr errw.cellsStr
  obtain ⟨a1, q1, c1, h2, rfl⟩ := errw.peel h1 (fun b off hm => hrows b off (by simp [hm])) synG synT Tryz.underlying29 errw.rowErr Tryz.underlying204 Tryz.underlying206 rfl rfl Tryz.underlying9 errw.cellsErr errw.cellsStr
  exact ⟨⟨_, _, c1⟩, ⟨_, _, c0⟩⟩
theorem locG : Tryz.prog.globalNamed "usher/terms.localHosts" = some 23 := by kernel_rfl
theorem locTy : (Tryz.prog.globals[23]?).map (·.type) = some 137 := by kernel_rfl
theorem loc_is : (Rows.laid_usher_terms_localHosts : DataW Unit) = .agg ((List.range 3).map fun i => .lit (.string (tH i))) := by kernel_rfl
theorem loc_of_laid {w : World} {l : List (String × DataW Unit)} (h : laidMet Tryz.prog l w) (h1 : ("usher/terms.localHosts", Rows.laid_usher_terms_localHosts) ∈ l) : Loc w := by
  have a := laidMet.reads h h1
  rw [loc_is] at a
  have key : ∀ i, i < 3 → w.cell? ⟨23, i, none⟩ = some (S (tH i)) := by
    intro i hi
    obtain ⟨g, t, cs, fuel, p, hg, hty, hvar, hd⟩ := a
    obtain rfl := Option.some.inj (locG.symm.trans hg)
    obtain rfl := Option.some.inj (locTy.symm.trans hty)
    obtain ⟨fuel', d, q, hdi, he⟩ := array_elem Tryz.underlying137 hd i hi
    simp only [List.getElem?_map, List.getElem?_range hi, Option.map_some, Option.some.injEq] at hdi
    subst hdi
    rw [errw.cellsStr] at he
    obtain ⟨z, e0, f0⟩ := DataW.trod_string Tryz.underlying9 he
    have f1 : (DataW.lit (.string (tH i)) : DataW Unit) = _ := congrArg Prod.fst f0.1
    simp only [DataW.lit.injEq, Lit.string.injEq] at f1
    have e0 := congrArg (·[0]?) e0
    simp only [List.getElem?_take, List.getElem?_drop] at e0
    rw [World.var?_cell hg hvar i, ← Array.getElem?_toList]
    have : S (tH i) = .string z := congrArg Value.string (ba_ext f1)
    rw [this]
    simpa using e0
  intro j v hv
  have hj : j < 3 := by
    have := (List.getElem?_eq_some_iff.1 hv).1
    exact this
  match j, hj with
  | 0, _ => rw [← hv]; exact key 0 (by decide)
  | 1, _ => rw [← hv]; exact key 1 (by decide)
  | 2, _ => rw [← hv]; exact key 2 (by decide)

end Go.Proofs.YtimbhneegphhbaaGreatDoor.tm
