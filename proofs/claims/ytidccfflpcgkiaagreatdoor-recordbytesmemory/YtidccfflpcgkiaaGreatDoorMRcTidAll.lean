import Derived.Test.YtidccfflpcgkiaaGreatDoorMRcLoK
import Derived.Test.YtidccfflpcgkiaaGreatDoorMRcRows
namespace Go.Proofs.YtidccfflpcgkiaaGreatDoor.rc
open Go.ChangeShapes Go.WideShapes Go.ChangeAt Go.RowKit Go.Proofs.YtidccfflpcgkiaaGreatDoor.common Go.Proofs.YtidccfflpcgkiaaGreatDoor.ss
attribute [local go_sem ↓] Go.wp_at_zero Go.wp_at_succ

/-- what tidyAll answers: one to four records that may be, in rows of one's own -/
def TaOut (w : World) (e : Ending) (w' : World) : Prop := ∃ v' q s, e = .returned v' ∧ OwnR w.heap.size w' v' q s ∧ 0 < q.length ∧ q.length ≤ 4 ∧ (∀ r ∈ q, mayB r = true) ∧ Below w.heap.size w w'
abbrev zR0 : Rec := ⟨0, ⟨#[]⟩, ⟨#[]⟩, ⟨#[]⟩, ⟨#[]⟩, ⟨#[]⟩, ⟨#[]⟩, [], 0⟩
theorem lies_nil0 (w : World) : Lies w (.slice none 0 0) [] := ⟨none, 0, rfl, fun j hj => absurd hj (Nat.not_lt_zero j)⟩
set_option maxRecDepth 100000 in
set_option maxHeartbeats 6400000 in
theorem tidyAll_any (l : List Rec) (v : Value) (w : World) (hv : LiesR w v l) (hs : ∀ r ∈ l, TidIn r) (he : pk.Env w) :
    Calls Tryz.prog 17 #[v] w (TaOut w) := by
  obtain ⟨i0, hi, hz0, hz1, hz2⟩ := info_parts infoRc
  obtain ⟨ov, cv, hvv⟩ : ∃ ov cv, v = .slice ov l.length cv := by obtain ⟨a, b, h, _⟩ := hv; exact ⟨a, b, h⟩
  have HV : Hid (∀ X, Below w.heap.size w X → LiesR X v l) := fun X hX => hv.below hX
  have HE : Hid (∀ X, Below w.heap.size w X → pk.Env X) := fun X hX => he.below hX
  have HS := hide hs
  clear hv hs he
  subst hvv
  go_enter Tryz.func17, Tryz.ntmps17
  go_wp2_with fail
  go_loopw [3, 4] (fun vo i wr => ∃ (k : Nat) (q : List Rec) (s : List Value), k ≤ l.length ∧ k ≤ 4 ∧ i = .int .i64 k ∧ OwnR w.heap.size wr vo q s ∧ q.length = k ∧ (∀ r ∈ q, mayB r = true) ∧ Below w.heap.size w wr) (fun _ i _ => l.length - (intOf i).toNat)
  case atStart => exact ⟨0, [], [], Nat.zero_le _, Nat.zero_le _, rfl, OwnR.nil _ _, rfl, (fun _ h => (by cases h)), Below.refl _ _⟩
  case round =>
    obtain ⟨k, q, s, hk, hk4, rfl, hown, hql, hqm, hbl⟩ := hrel
    have hsz := hbl.size
    obtain ⟨oo, co, hvo⟩ := own_slice hown.row
    rw [hql] at hvo
    subst hvo
    have HO := hide hown
    have HBL := hide hbl
    have HQM := hide hqm
    have HQL := hide hql
    clear hqm hql
    by_cases hlt : k < l.length ∧ k < 4
    · obtain ⟨hlt, hf⟩ := hlt
      have j0 : (0 : Int) ≤ (k : Int) := Int.natCast_nonneg _
      have j1 : (k : Int) < (l.length : Int) := by omega
      have j2 : (k : Int) < 4 := by omega
      obtain ⟨_, _, hq, hcc⟩ := HV.out wr hbl
      cases hq
      obtain ⟨g, o, vi, rfl, hg, hrg, hli⟩ := hcc k hlt
      obtain ⟨os, cs, rfl⟩ := Lies.len hli
      have hin := HS.out _ (List.getElem_mem hlt)
      generalize l[k]'hlt = r0 at *
      obtain ⟨r, hm, hT⟩ := tidy_any r0 (.slice os r0.ss.length cs) wr hli hin (HE.out wr hbl)
      unfold TidOut at hT
      have HTW := hide hT
      have HMR := hide hm
      have HRG := hide hrg
      clear hown hbl hcc hrg hli hin hT hm
      go_wp2_with (refine wpList_load_mid rfl 24 (.tmp 19) rfl g (o + k * 9) rfl _ _ HRG.out Tryz.underlying24 rfl sizeRec ?_)
      refine HTW.out.mono ?_
      rintro x w1 ⟨u, rfl, own1, b1⟩
      obtain ⟨ou, cu, rfl⟩ := own_slice own1
      have bX : Below w1.heap.size w1 ((w1.alloc (.cells (rcs r (.slice ou r.ss.length cu)) 24)).alloc (.cells (rcs r (.slice ou r.ss.length cu)) 24)) := ((Below.refl _ _).alloc (Nat.le_refl _) _).alloc (by simp) _
      have HRX : Hid ((w1.alloc (.cells (rcs r (.slice ou r.ss.length cu)) 24)).rangeAt w1.heap.size 0 (rcl9 r (.slice ou r.ss.length cu))) := dk.range_of (t := 24) (heap_alloc_new w1 _)
      have HO2 := hide (HO.out.below (keepW b1 bX))
      have HU2 := hide (own_least (dk.own_below own1 bX) hsz)
      have HBX := hide (keepW HBL.out (keepW b1 bX))
      have HC9 := hide (cells9 (w1.alloc (.cells (rcs r (.slice ou r.ss.length cu)) 24)) r (.slice ou r.ss.length cu) 24)
      have hs1 : w.heap.size ≤ w1.heap.size := Nat.le_trans hsz b1.size
      have HROW := hide HO2.out.row
      rw [HQL.out] at HROW
      clear own1 b1 bX HTW HO
      go_wp2_with (first
        | (refine wpList_load_mid rfl 24 (.tmp 5) rfl w1.heap.size 0 rfl _ _ HRX.out Tryz.underlying24 rfl sizeRec ?_)
        | (at_builtin; refine wpList_append_own _ rfl _ _ 42 rfl w.heap.size 24 i0 (.agg zrec) 9 136 Tryz.underlying42 hi hz0 hz1 hz2 rfl (by decide) _ k _ rfl HROW.out ⟨(w1.alloc (.cells (rcs r (.slice ou r.ss.length cu)) 24)).heap.size, 0, none⟩ 1 1 (rcl9 r (.slice ou r.ss.length cu)) ?c0 rfl HC9.out (rcl_one _ _ _ _) ?c3 ?c4 ?c5 ?_))
      case c0 => first | rfl | (rw [World.size_alloc]; rfl)
      case c3 => unfold maxLen; omega
      case c4 => omega
      case c5 => first | omega | (simp; omega)
      intro v' w2 hown' hgrow _
      have HN : Hid (OwnR w.heap.size w2 v' (q ++ [r]) (s ++ [.slice ou r.ss.length cu])) := HO2.out.snoc r _ HU2.out (by rw [HQL.out]; exact hown') hgrow
      have HB2 : Hid (Below w.heap.size w w2) := HBX.out.grown hgrow (by simp; omega) (fun b hb => (HROW.out.lt b hb).1)
      have HNM : Hid ((q ++ [r]).length = k + 1 ∧ ∀ r' ∈ q ++ [r], mayB r' = true) := ⟨by rw [List.length_append, HQL.out]; rfl, fun r' hr' => by
        rcases List.mem_append.1 hr' with h | h
        · exact HQM.out r' h
        · rw [List.mem_singleton.1 h]; exact HMR.out⟩
      clear hown' hgrow HROW HC9 HU2 HO2 HRX HBX
      go_wp2_with fail
      go_roundw
      case rel => exact ⟨k + 1, q ++ [r], _, by omega, by omega, by go_num, HN.out, HNM.out.1, HNM.out.2, HB2.out⟩
      case measure => simp [intOf]; omega
    · by_cases h0 : k = 0
      · have hq0 : q = [] := List.eq_nil_of_length_eq_zero (by rw [HQL.out]; exact h0)
        have hl0 : l.length = 0 := by omega
        subst hq0
        subst h0
        obtain ⟨r, hm, hT⟩ := tidy_any zR0 (.slice none 0 0) wr (lies_nil0 wr) ⟨Nat.zero_le _, Nat.zero_le _, Nat.zero_le _, Nat.zero_le _, Nat.zero_le _, Nat.zero_le _, fun s hs => by cases hs⟩ (HE.out wr hbl)
        unfold TidOut at hT
        have HTW := hide hT
        have HMR := hide hm
        have j1 : ¬ ((0 : Nat) : Int) < (l.length : Int) := by omega
        clear hown hbl hT hm hl0
        go_wp2_with fail
        refine HTW.out.mono ?_
        rintro x w1 ⟨u, rfl, own1, b1⟩
        obtain ⟨ou, cu, rfl⟩ := own_slice own1
        have bX : Below w1.heap.size w1 ((w1.alloc (.cells (rcs r (.slice ou r.ss.length cu)) 24)).alloc (.cells (rcs r (.slice ou r.ss.length cu)) 24)) := ((Below.refl _ _).alloc (Nat.le_refl _) _).alloc (by simp) _
        have HRX : Hid ((w1.alloc (.cells (rcs r (.slice ou r.ss.length cu)) 24)).rangeAt w1.heap.size 0 (rcl9 r (.slice ou r.ss.length cu))) := dk.range_of (t := 24) (heap_alloc_new w1 _)
        have HO2 := hide (HO.out.below (keepW b1 bX))
        have HU2 := hide (own_least (dk.own_below own1 bX) hsz)
        have HBX := hide (keepW HBL.out (keepW b1 bX))
        have HC9 := hide (cells9 (w1.alloc (.cells (rcs r (.slice ou r.ss.length cu)) 24)) r (.slice ou r.ss.length cu) 24)
        have hs1 : w.heap.size ≤ w1.heap.size := Nat.le_trans hsz b1.size
        have HROW : Hid (World.ownsRow ((w1.alloc (.cells (rcs r (.slice ou r.ss.length cu)) 24)).alloc (.cells (rcs r (.slice ou r.ss.length cu)) 24)) w.heap.size 24 9 (.slice oo 0 co) 0 (rcc [] s)) := HO2.out.row
        clear own1 b1 bX HTW HO
        go_wp2_with (first
          | (refine wpList_load_mid rfl 24 (.tmp 6) rfl w1.heap.size 0 rfl _ _ HRX.out Tryz.underlying24 rfl sizeRec ?_)
          | (at_builtin; refine wpList_append_own _ rfl _ _ 42 rfl w.heap.size 24 i0 (.agg zrec) 9 136 Tryz.underlying42 hi hz0 hz1 hz2 rfl (by decide) _ 0 _ rfl HROW.out ⟨(w1.alloc (.cells (rcs r (.slice ou r.ss.length cu)) 24)).heap.size, 0, none⟩ 1 1 (rcl9 r (.slice ou r.ss.length cu)) ?d0 rfl HC9.out (rcl_one _ _ _ _) ?d3 ?d4 ?d5 ?_))
        case d0 => first | rfl | (rw [World.size_alloc]; rfl)
        case d3 => unfold maxLen; omega
        case d4 => omega
        case d5 => first | omega | (simp; omega)
        intro v' w2 hown' hgrow _
        have HN : Hid (OwnR w.heap.size w2 v' ([] ++ [r]) (s ++ [.slice ou r.ss.length cu])) := HO2.out.snoc r _ HU2.out hown' hgrow
        have HB2 : Hid (Below w.heap.size w w2) := HBX.out.grown hgrow (by simp; omega) (fun b hb => (HROW.out.lt b hb).1)
        clear hown' hgrow HROW HC9 HU2 HO2 HRX HBX
        go_wp2_with fail
        go_ret
        exact ⟨_, [r], _, rfl, HN.out, Nat.le_refl _, (by show 1 ≤ 4; decide), fun r' hr' => by rw [List.mem_singleton.1 hr']; exact HMR.out, HB2.out⟩
      · have hp : 0 < k := by omega
        have k0 : ¬ (k : Int) = 0 := by omega
        have k0b : ((k : Int) == 0) = false := beq_false_of_ne k0
        have HKP := hide hp
        by_cases hl : k < l.length
        · have j1 : (k : Int) < (l.length : Int) := by omega
          have j2 : ¬ (k : Int) < 4 := by omega
          clear hown hbl hlt h0 hp
          go_wp2_with fail
          go_ret
          exact ⟨_, q, s, rfl, HO.out, by rw [HQL.out]; exact HKP.out, by rw [HQL.out]; exact hk4, HQM.out, HBL.out⟩
        · have j1 : ¬ (k : Int) < (l.length : Int) := by omega
          clear hown hbl hlt h0 hp
          go_wp2_with fail
          go_ret
          exact ⟨_, q, s, rfl, HO.out, by rw [HQL.out]; exact HKP.out, by rw [HQL.out]; exact hk4, HQM.out, HBL.out⟩
end Go.Proofs.YtidccfflpcgkiaaGreatDoor.rc
