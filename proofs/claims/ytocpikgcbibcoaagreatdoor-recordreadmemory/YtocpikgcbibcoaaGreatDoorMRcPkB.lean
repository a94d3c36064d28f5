import Derived.Test.YtocpikgcbibcoaaGreatDoorMRcLoK
import Derived.Test.YtocpikgcbibcoaaGreatDoorMRcRows
import Derived.Test.YtocpikgcbibcoaaGreatDoorMRcKept
import Derived.Test.YtocpikgcbibcoaaGreatDoorMRdSameD
namespace Go.Proofs.YtocpikgcbibcoaaGreatDoor.rc
open Go.ChangeShapes Go.WideShapes Go.ChangeAt Go.RowKit Go.Proofs.YtocpikgcbibcoaaGreatDoor.common Go.Proofs.YtocpikgcbibcoaaGreatDoor.ss
attribute [local go_sem ↓] Go.wp_at_zero Go.wp_at_succ

/-- what tidyAll answers: one to four records that may be, in rows of one's own -/
def TaOut (w : World) (e : Ending) (w' : World) : Prop := ∃ v' q s, e = .returned v' ∧ OwnR w.heap.size w' v' q s ∧ 0 < q.length ∧ q.length ≤ 4 ∧ (∀ r ∈ q, mayB r = true) ∧ Below w.heap.size w w'
abbrev zR0 : Rec := ⟨0, ⟨#[]⟩, ⟨#[]⟩, ⟨#[]⟩, ⟨#[]⟩, ⟨#[]⟩, ⟨#[]⟩, [], 0⟩
theorem lies_nil0 (w : World) : Lies w (.slice none 0 0) [] := ⟨none, 0, rfl, fun j hj => absurd hj (Nat.not_lt_zero j)⟩
set_option maxRecDepth 100000 in
set_option maxHeartbeats 6400000 in
theorem tidyAll_any (l : List Rec) (v : Value) (w : World) (hv : LiesR w v l) (hs : ∀ r ∈ l, TidIn r) (he : pk.Env w) :
    Calls Tryz.prog 4 #[v] w (TaOut w) := by
  obtain ⟨i0, hi, hz0, hz1, hz2⟩ := info_parts infoRc
  obtain ⟨ov, cv, hvv⟩ : ∃ ov cv, v = .slice ov l.length cv := by obtain ⟨a, b, h, _⟩ := hv; exact ⟨a, b, h⟩
  have HV : Hid (∀ X, Below w.heap.size w X → LiesR X v l) := fun X hX => hv.below hX
  have HE : Hid (∀ X, Below w.heap.size w X → pk.Env X) := fun X hX => he.below hX
  have HS := hide hs
  clear hv hs he
  subst hvv
  go_enter Tryz.func4, Tryz.ntmps4
  go_wp2_with fail
  go_loopw [3, 4] (fun vo i wr => ∃ (k : Nat) (q : List Rec) (s : List Value), k ≤ l.length ∧ k ≤ 4 ∧ i = .int .i64 k ∧ OwnR w.heap.size wr vo q s ∧ q.length = k ∧ (∀ r ∈ q, mayB r = true) ∧ Below w.heap.size w wr) (fun _ i _ => l.length - (intOf i).toNat)
  case atStart => exact ⟨0, [], [], Nat.zero_le _, Nat.zero_le _, rfl, OwnR.nil _ _, rfl, (fun _ h => (by cases h)), Below.refl _ _⟩
  case round =>
    obtain ⟨k, q, s, hk, hk4, rfl, hown, hql, hqm, hbl⟩ := hrel
    have hsz := hbl.size
    obtain ⟨oo, co, hvo⟩ := own_slice hown.row
    rw [hql] at hvo
    subst hvo
    have HO := hide hown
    have HBL := hide hbl
    have HQM := hide hqm
    have HQL := hide hql
    clear hqm hql
    by_cases hlt : k < l.length ∧ k < 4
    · obtain ⟨hlt, hf⟩ := hlt
      have j0 : (0 : Int) ≤ (k : Int) := Int.natCast_nonneg _
      have j1 : (k : Int) < (l.length : Int) := by omega
      have j2 : (k : Int) < 4 := by omega
      obtain ⟨_, _, hq, hcc⟩ := HV.out wr hbl
      cases hq
      obtain ⟨g, o, vi, rfl, hg, hrg, hli⟩ := hcc k hlt
      obtain ⟨os, cs, rfl⟩ := Lies.len hli
      have hin := HS.out _ (List.getElem_mem hlt)
      generalize l[k]'hlt = r0 at *
      obtain ⟨r, hm, hT⟩ := tidy_any r0 (.slice os r0.ss.length cs) wr hli hin (HE.out wr hbl)
      unfold TidOut at hT
      have HTW := hide hT
      have HMR := hide hm
      have HRG := hide hrg
      clear hown hbl hcc hrg hli hin hT hm
      go_wp2_with (refine wpList_load_mid rfl 26 (.tmp 19) rfl g (o + k * 9) rfl _ _ HRG.out Tryz.underlying26 rfl sizeRec ?_)
      refine HTW.out.mono ?_
      rintro x w1 ⟨u, rfl, own1, b1⟩
      obtain ⟨ou, cu, rfl⟩ := own_slice own1
      have bX : Below w1.heap.size w1 ((w1.alloc (.cells (rcs r (.slice ou r.ss.length cu)) 26)).alloc (.cells (rcs r (.slice ou r.ss.length cu)) 26)) := ((Below.refl _ _).alloc (Nat.le_refl _) _).alloc (by simp) _
      have HRX : Hid ((w1.alloc (.cells (rcs r (.slice ou r.ss.length cu)) 26)).rangeAt w1.heap.size 0 (rcl9 r (.slice ou r.ss.length cu))) := dk.range_of (t := 26) (heap_alloc_new w1 _)
      have HO2 := hide (HO.out.below (keepW b1 bX))
      have HU2 := hide (own_least (dk.own_below own1 bX) hsz)
      have HBX := hide (keepW HBL.out (keepW b1 bX))
      have HC9 := hide (cells9 (w1.alloc (.cells (rcs r (.slice ou r.ss.length cu)) 26)) r (.slice ou r.ss.length cu) 26)
      have hs1 : w.heap.size ≤ w1.heap.size := Nat.le_trans hsz b1.size
      have HROW := hide HO2.out.row
      rw [HQL.out] at HROW
      clear own1 b1 bX HTW HO
      go_wp2_with (first
        | (refine wpList_load_mid rfl 26 (.tmp 5) rfl w1.heap.size 0 rfl _ _ HRX.out Tryz.underlying26 rfl sizeRec ?_)
        | (at_builtin; refine wpList_append_own _ rfl _ _ 22 rfl w.heap.size 26 i0 (.agg zrec) 9 136 Tryz.underlying22 hi hz0 hz1 hz2 rfl (by decide) _ k _ rfl HROW.out ⟨(w1.alloc (.cells (rcs r (.slice ou r.ss.length cu)) 26)).heap.size, 0, none⟩ 1 1 (rcl9 r (.slice ou r.ss.length cu)) ?c0 rfl HC9.out (rcl_one _ _ _ _) ?c3 ?c4 ?c5 ?_))
      case c0 => first | rfl | (rw [World.size_alloc]; rfl)
      case c3 => unfold maxLen; omega
      case c4 => omega
      case c5 => first | omega | (simp; omega)
      intro v' w2 hown' hgrow _
      have HN : Hid (OwnR w.heap.size w2 v' (q ++ [r]) (s ++ [.slice ou r.ss.length cu])) := HO2.out.snoc r _ HU2.out (by rw [HQL.out]; exact hown') hgrow
      have HB2 : Hid (Below w.heap.size w w2) := HBX.out.grown hgrow (by simp; omega) (fun b hb => (HROW.out.lt b hb).1)
      have HNM : Hid ((q ++ [r]).length = k + 1 ∧ ∀ r' ∈ q ++ [r], mayB r' = true) := ⟨by rw [List.length_append, HQL.out]; rfl, fun r' hr' => by
        rcases List.mem_append.1 hr' with h | h
        · exact HQM.out r' h
        · rw [List.mem_singleton.1 h]; exact HMR.out⟩
      clear hown' hgrow HROW HC9 HU2 HO2 HRX HBX
      go_wp2_with fail
      go_roundw
      case rel => exact ⟨k + 1, q ++ [r], _, by omega, by omega, by go_num, HN.out, HNM.out.1, HNM.out.2, HB2.out⟩
      case measure => simp [intOf]; omega
    · by_cases h0 : k = 0
      · have hq0 : q = [] := List.eq_nil_of_length_eq_zero (by rw [HQL.out]; exact h0)
        have hl0 : l.length = 0 := by omega
        subst hq0
        subst h0
        obtain ⟨r, hm, hT⟩ := tidy_any zR0 (.slice none 0 0) wr (lies_nil0 wr) ⟨Nat.zero_le _, Nat.zero_le _, Nat.zero_le _, Nat.zero_le _, Nat.zero_le _, Nat.zero_le _, fun s hs => by cases hs⟩ (HE.out wr hbl)
        unfold TidOut at hT
        have HTW := hide hT
        have HMR := hide hm
        have j1 : ¬ ((0 : Nat) : Int) < (l.length : Int) := by omega
        clear hown hbl hT hm hl0
        go_wp2_with fail
        refine HTW.out.mono ?_
        rintro x w1 ⟨u, rfl, own1, b1⟩
        obtain ⟨ou, cu, rfl⟩ := own_slice own1
        have bX : Below w1.heap.size w1 ((w1.alloc (.cells (rcs r (.slice ou r.ss.length cu)) 26)).alloc (.cells (rcs r (.slice ou r.ss.length cu)) 26)) := ((Below.refl _ _).alloc (Nat.le_refl _) _).alloc (by simp) _
        have HRX : Hid ((w1.alloc (.cells (rcs r (.slice ou r.ss.length cu)) 26)).rangeAt w1.heap.size 0 (rcl9 r (.slice ou r.ss.length cu))) := dk.range_of (t := 26) (heap_alloc_new w1 _)
        have HO2 := hide (HO.out.below (keepW b1 bX))
        have HU2 := hide (own_least (dk.own_below own1 bX) hsz)
        have HBX := hide (keepW HBL.out (keepW b1 bX))
        have HC9 := hide (cells9 (w1.alloc (.cells (rcs r (.slice ou r.ss.length cu)) 26)) r (.slice ou r.ss.length cu) 26)
        have hs1 : w.heap.size ≤ w1.heap.size := Nat.le_trans hsz b1.size
        have HROW : Hid (World.ownsRow ((w1.alloc (.cells (rcs r (.slice ou r.ss.length cu)) 26)).alloc (.cells (rcs r (.slice ou r.ss.length cu)) 26)) w.heap.size 26 9 (.slice oo 0 co) 0 (rcc [] s)) := HO2.out.row
        clear own1 b1 bX HTW HO
        go_wp2_with (first
          | (refine wpList_load_mid rfl 26 (.tmp 6) rfl w1.heap.size 0 rfl _ _ HRX.out Tryz.underlying26 rfl sizeRec ?_)
          | (at_builtin; refine wpList_append_own _ rfl _ _ 22 rfl w.heap.size 26 i0 (.agg zrec) 9 136 Tryz.underlying22 hi hz0 hz1 hz2 rfl (by decide) _ 0 _ rfl HROW.out ⟨(w1.alloc (.cells (rcs r (.slice ou r.ss.length cu)) 26)).heap.size, 0, none⟩ 1 1 (rcl9 r (.slice ou r.ss.length cu)) ?d0 rfl HC9.out (rcl_one _ _ _ _) ?d3 ?d4 ?d5 ?_))
        case d0 => first | rfl | (rw [World.size_alloc]; rfl)
        case d3 => unfold maxLen; omega
        case d4 => omega
        case d5 => first | omega | (simp; omega)
        intro v' w2 hown' hgrow _
        have HN : Hid (OwnR w.heap.size w2 v' ([] ++ [r]) (s ++ [.slice ou r.ss.length cu])) := HO2.out.snoc r _ HU2.out hown' hgrow
        have HB2 : Hid (Below w.heap.size w w2) := HBX.out.grown hgrow (by simp; omega) (fun b hb => (HROW.out.lt b hb).1)
        clear hown' hgrow HROW HC9 HU2 HO2 HRX HBX
        go_wp2_with fail
        go_ret
        exact ⟨_, [r], _, rfl, HN.out, Nat.le_refl _, (by show 1 ≤ 4; decide), fun r' hr' => by rw [List.mem_singleton.1 hr']; exact HMR.out, HB2.out⟩
      · have hp : 0 < k := by omega
        have k0 : ¬ (k : Int) = 0 := by omega
        have k0b : ((k : Int) == 0) = false := beq_false_of_ne k0
        have HKP := hide hp
        by_cases hl : k < l.length
        · have j1 : (k : Int) < (l.length : Int) := by omega
          have j2 : ¬ (k : Int) < 4 := by omega
          clear hown hbl hlt h0 hp
          go_wp2_with fail
          go_ret
          exact ⟨_, q, s, rfl, HO.out, by rw [HQL.out]; exact HKP.out, by rw [HQL.out]; exact hk4, HQM.out, HBL.out⟩
        · have j1 : ¬ (k : Int) < (l.length : Int) := by omega
          clear hown hbl hlt h0 hp
          go_wp2_with fail
          go_ret
          exact ⟨_, q, s, rfl, HO.out, by rw [HQL.out]; exact HKP.out, by rw [HQL.out]; exact hk4, HQM.out, HBL.out⟩
end Go.Proofs.YtocpikgcbibcoaaGreatDoor.rc

namespace Go.Proofs.YtocpikgcbibcoaaGreatDoor.rc
open Go.ChangeShapes Go.WideShapes Go.ChangeAt Go.RowKit Go.Proofs.YtocpikgcbibcoaaGreatDoor.common Go.Proofs.YtocpikgcbibcoaaGreatDoor.ss
attribute [local go_sem ↓] Go.wp_at_zero Go.wp_at_succ

set_option maxRecDepth 100000 in
set_option maxHeartbeats 6400000 in
theorem heldOf_any (l : List Rec) (v : Value) (w : World) (hv : LiesR w v l) (hs : ∀ r ∈ l, r.ss.length ≤ 16) (hn : l.length ≤ 4) :
    Calls Tryz.prog 5 #[v] w fun e w' => ∃ v' s, e = .returned v' ∧ OwnR w.heap.size w' v' l s ∧ Below w.heap.size w w' := by
  obtain ⟨i0, hi, hz0, hz1, hz2⟩ := info_parts infoRc
  obtain ⟨ov, cv, hvv⟩ : ∃ ov cv, v = .slice ov l.length cv := by obtain ⟨a, b, h, _⟩ := hv; exact ⟨a, b, h⟩
  have HV : Hid (∀ X, Below w.heap.size w X → LiesR X v l) := fun X hX => hv.below hX
  have HS := hide hs
  clear hv hs
  subst hvv
  go_enter Tryz.func5, Tryz.ntmps5
  go_wp2_with fail
  go_loopw [3, 4] (fun vo i wr => ∃ (k : Nat) (s : List Value), k ≤ l.length ∧ i = .int .i64 k ∧ OwnR w.heap.size wr vo (l.take k) s ∧ Below w.heap.size w wr) (fun _ i _ => l.length - (intOf i).toNat)
  case atStart => exact ⟨0, [], Nat.zero_le _, rfl, by rw [List.take_zero]; exact OwnR.nil _ _, Below.refl _ _⟩
  case round =>
    obtain ⟨k, s, hk, rfl, hown, hbl⟩ := hrel
    have hsz := hbl.size
    have htl : (l.take k).length = k := by rw [List.length_take]; omega
    obtain ⟨oo, co, rfl⟩ := own_slice hown.row
    rw [htl] at hown
    have HO := hide hown
    have HBL := hide hbl
    by_cases hlt : k < l.length
    · have j0 : (0 : Int) ≤ (k : Int) := Int.natCast_nonneg _
      have j1 : (k : Int) < (l.length : Int) := by omega
      obtain ⟨_, _, hq, hcc⟩ := HV.out wr hbl
      cases hq
      obtain ⟨g, o, vi, rfl, hg, hrg, hli⟩ := hcc k hlt
      obtain ⟨os, cs, rfl⟩ := Lies.len hli
      have hsm := HS.out _ (List.getElem_mem hlt)
      have HTK : Hid (l.take (k + 1) = l.take k ++ [l[k]]) := List.take_succ_eq_append_getElem hlt
      generalize l[k]'hlt = r at *
      -- the box, the empty list
      obtain ⟨X2, hX2⟩ : ∃ X2, X2 = (wr.alloc (.cells (rcs r (.slice os r.ss.length cs)) 26)).alloc (.cells #[] 9) := ⟨_, rfl⟩
      have b2 : Below wr.heap.size wr X2 := by rw [hX2]; exact ((Below.refl _ _).alloc (Nat.le_refl _) _).alloc (by simp) _
      have hE : X2.ownsRow (wr.heap.size + 1) 9 1 (.slice (some ⟨wr.heap.size + 1, 0, none⟩) 0 0) ([] : List ByteArray).length (sc []) := by
        have h1 := World.ownsRow_lit (base := wr.heap.size + 1) (e := 9) (size := 1) (wr.alloc (.cells (rcs r (.slice os r.ss.length cs)) 26)) #[] 0 (by simp) (by decide) rfl
        rw [World.size_alloc] at h1
        rw [hX2]
        simpa using h1
      have hbx : X2.heap[wr.heap.size]? = some (.cells (rcs r (.slice os r.ss.length cs)) 26 (0, 0)) := by rw [hX2]; exact (Below.heap_alloc _ _ _ (by simp)).trans (heap_alloc_new wr _)
      have c7 : X2.cell? ⟨g, o + k * 9 + 7, none⟩ = some (.slice os r.ss.length cs) := by
        have h1 := hrg 7 (.slice os r.ss.length cs) rfl
        rw [b2.cell (p := ⟨g, o + k * 9 + 7, none⟩) hg]
        exact h1
      have HE := hide hE
      have HLW := hide (hli.below b2)
      have HBX := hide hbx
      have HB2 := hide b2
      have HRG := hide hrg
      have HX2 := hide hX2
      have HZ2 : Hid (X2.heap.size = wr.heap.size + 2) := by show _ = _; rw [hX2]; simp
      rw [hX2] at HE HLW c7
      clear hown hbl hcc hrg hli hE hbx b2 hX2
      go_wp2_with (first
        | (refine wpList_load_mid rfl 26 (.tmp 14) rfl g (o + k * 9) rfl _ _ HRG.out Tryz.underlying26 rfl sizeRec ?_)
        | (at_builtin; refine append_strs _ rfl _ _ rfl (wr.heap.size + 1) _ [] rfl HE.out _ r.ss rfl HLW.out ?c3 ?c4 ?c5 ?_))
      case c3 => unfold maxLen; simp; omega
      case c4 => simp; omega
      case c5 => simp
      intro v1 w1 own1 hg1
      have hg1 : X2.grownBy w1 (Value.slice (some ⟨wr.heap.size + 1, 0, none⟩) 0 0).ownBlock := by rw [HX2.out]; exact hg1
      have own1 : w1.ownsRow (wr.heap.size + 1) 9 1 v1 r.ss.length (sc r.ss) := by simpa using own1
      obtain ⟨o1, c1, rfl⟩ := own_slice own1
      have Q1 := grown_blk hg1 HBX.out (fun k hk => by simp [Value.ownBlock] at hk; omega)
      have B1 : Below wr.heap.size wr w1 := HB2.out.grown hg1 (by have := HZ2.out; omega) (fun k hk => by simp [Value.ownBlock] at hk; omega)
      have q7 : w1.cell? ⟨wr.heap.size, 7, none⟩ = some (.slice os r.ss.length cs) := dk.cell_of Q1 7
      have z7 : w1.frozen? ⟨wr.heap.size, 7, none⟩ = false := dk.free_of Q1 7
      obtain ⟨X, hX⟩ : ∃ X, X = w1.setCell ⟨wr.heap.size, 7, none⟩ (.slice o1 r.ss.length c1) := ⟨_, rfl⟩
      have QX : X.heap[wr.heap.size]? = some (.cells (rcs r (.slice o1 r.ss.length c1)) 26 (0, 0)) := by
        rw [hX]
        simp [World.setCell, Array.getElem?_modify, Q1]
      have BX : Below wr.heap.size wr X := by rw [hX]; exact B1.setCell (p := ⟨wr.heap.size, 7, none⟩) (Nat.le_refl _) _
      have OX : X.ownsRow (wr.heap.size + 1) 9 1 (.slice o1 r.ss.length c1) r.ss.length (sc r.ss) := own_at own1 (fun g hg => by rw [hX]; exact dk.set_other _ _ _ _ (show g ≠ wr.heap.size by omega))
      obtain ⟨Z, hZ⟩ : ∃ Z, Z = X.alloc (.cells (rcs r (.slice o1 r.ss.length c1)) 26) := ⟨_, rfl⟩
      have bZ : Below X.heap.size X Z := by rw [hZ]; exact (Below.refl _ _).alloc (Nat.le_refl _) _
      have bWZ : Below wr.heap.size wr Z := BX.trans (bZ.mono BX.size)
      have HRX : Hid (X.rangeAt wr.heap.size 0 (rcl9 r (.slice o1 r.ss.length c1))) := dk.range_of (t := 26) QX
      have HO2 := hide (HO.out.below bWZ)
      have HU2 := hide (own_least (dk.own_below OX bZ) (by omega : w.heap.size ≤ wr.heap.size + 1))
      have HBZ := hide (keepW HBL.out bWZ)
      have HC9 := hide (cells9 X r (.slice o1 r.ss.length c1) 26)
      have HROW := hide HO2.out.row
      rw [htl] at HROW
      have hsX : w.heap.size ≤ X.heap.size := Nat.le_trans hsz BX.size
      have HZX : Hid (w.heap.size ≤ Z.heap.size) := HBZ.out.size
      have HX := hide hX
      have HZ := hide hZ
      have HXS : Hid (X.heap.size = w1.heap.size) := by show _ = _; rw [hX]; simp [World.setCell]
      have HZZ := hide hZ
      rw [hZ, hX] at HROW
      rw [hX] at HC9 HRX
      have hs1 : w.heap.size ≤ w1.heap.size := by have := HXS.out; omega
      clear own1 hg1 Q1 B1 QX BX OX bZ bWZ hX hZ hsX HO HE HLW
      go_wp2_with (first
        | (refine wpList_load_mid rfl 26 (.tmp 5) rfl wr.heap.size 0 rfl _ _ HRX.out Tryz.underlying26 rfl sizeRec ?_)
        | (at_builtin; refine wpList_append_own _ rfl _ _ 22 rfl w.heap.size 26 i0 (.agg zrec) 9 136 Tryz.underlying22 hi hz0 hz1 hz2 rfl (by decide) _ k _ rfl HROW.out ⟨(w1.setCell ⟨wr.heap.size, 7, none⟩ (.slice o1 r.ss.length c1)).heap.size, 0, none⟩ 1 1 (rcl9 r (.slice o1 r.ss.length c1)) ?d0 rfl HC9.out (rcl_one _ _ _ _) ?d3 ?d4 ?d5 ?_))
      case d0 => first | rfl | (rw [World.size_setCell]; rfl) | (rw [dk.size_set]; rfl) | simp [Act.eval]
      case d3 => unfold maxLen; omega
      case d4 => omega
      case d5 => first | omega | (simp; done) | (simp; omega)
      intro v' w2 hown' hgrow _
      have hgrow : Z.grownBy w2 (Value.slice oo k co).ownBlock := by rw [HZ.out, HX.out]; exact hgrow
      have HN : Hid (OwnR w.heap.size w2 v' (l.take (k + 1)) (s ++ [.slice o1 r.ss.length c1])) := by
        show OwnR _ _ _ _ _
        rw [HTK.out]
        exact HO2.out.snoc r _ HU2.out (by rw [htl]; exact hown') hgrow
      have HRZ : Hid (Z.ownsRow w.heap.size 26 9 (.slice oo k co) k (rcc (l.take k) s)) := by have := HO2.out.row; rw [htl] at this; exact this
      have HB3 : Hid (Below w.heap.size w w2) := HBZ.out.grown hgrow HZX.out (fun b hb => (HRZ.out.lt b hb).1)
      clear hown' hgrow HROW HC9 HU2 HO2 HRX HBZ
      go_wp2_with fail
      go_roundw
      case rel => exact ⟨k + 1, _, by omega, by go_num, HN.out, HB3.out⟩
      case measure => simp [intOf]; omega
    · obtain rfl : k = l.length := by omega
      rw [List.take_length] at HO
      clear hown hbl
      have j1 : ¬ (l.length : Int) < (l.length : Int) := by omega
      go_wp2_with fail
      go_ret
      exact ⟨_, rfl, ⟨s, HO.out⟩, HBL.out⟩
end Go.Proofs.YtocpikgcbibcoaaGreatDoor.rc

namespace Go.Proofs.YtocpikgcbibcoaaGreatDoor.rc
open Go.ChangeShapes Go.WideShapes Go.ChangeAt Go.RowKit Go.Proofs.YtocpikgcbibcoaaGreatDoor.common Go.Proofs.YtocpikgcbibcoaaGreatDoor.dk
attribute [local go_sem ↓] Go.wp_at_zero Go.wp_at_succ

theorem one_len {r : Rec} (h : mayB r = true) : 3 ≤ (oneL r).length ∧ (oneL r).length ≤ 1356 := by
  have h1 := rec_len h
  have h2 := num2 (n := (recL r).length) (by omega)
  have h3 := num_pos (recL r).length
  unfold oneL
  rw [List.length_append]
  omega
theorem ones_len : ∀ (q : List Rec), (∀ r ∈ q, mayB r = true) → q.length * 3 ≤ (q.flatMap oneL).length ∧ (q.flatMap oneL).length ≤ q.length * 1356
  | [], _ => by simp
  | r :: t, h => by
    have h1 := one_len (h r (List.mem_cons_self ..))
    have h2 := ones_len t (fun x hx => h x (List.mem_cons_of_mem _ hx))
    rw [List.flatMap_cons, List.length_append, List.length_cons]
    omega
theorem pk_good {q : List Rec} (h0 : 0 < q.length) (h4 : q.length ≤ 4) (h : ∀ r ∈ q, mayB r = true) : pkE q = 0 ∧ pkL q = numL q.length ++ q.flatMap oneL ∧ 3 ≤ (pkL q).length ∧ (pkL q).length ≤ 5425 := by
  have hok : pkOk q = true := List.all_eq_true.2 h
  have hE : pkE q = 0 := by unfold pkE; rw [if_neg (by omega), if_neg (by omega), if_pos hok]
  have hL : pkL q = numL q.length ++ q.flatMap oneL := by unfold pkL; rw [if_neg (by omega), if_neg (by omega), if_pos hok]
  have h1 := ones_len q h
  have h2 := num1 (n := q.length) (by omega)
  refine ⟨hE, hL, ?_⟩
  rw [hL, List.length_append]
  omega
theorem good_of {q : List Rec} (h : ∀ r ∈ q, mayB r = true) : GoodL q := fun r hr => ⟨h r hr, (may_sz (h r hr)).low, (may_sz (h r hr)).len⟩
theorem un_of {q : List Rec} (h0 : 0 < q.length) (h4 : q.length ≤ 4) (h : ∀ r ∈ q, mayB r = true) {o : Option (List Rec)} (hu : UnR (pkL q) o) : o = some q :=
  hu.on q h0 h4 (good_of h) (pk_good h0 h4 h).2.1.symm
/-- the row of records that lie there, with its block -/
theorem OwnR.slot {base : Nat} {w : World} {v : Value} {l : List Rec} {s : List Value} (h : OwnR base w v l s) (h0 : 0 < l.length) : ∃ g cap, v = .slice (some ⟨g, 0, none⟩) l.length cap ∧ base ≤ g ∧ g < w.heap.size ∧ l.length ≤ cap ∧ w.rangeAt g 0 (rcc l s) := by
  rcases h.row.2 with ⟨_, h1⟩ | ⟨g, cap, cur, rfl, hg, hh, hn, _⟩
  · omega
  · have hc := h.row.cells (g := g) rfl
    refine ⟨g, cap, rfl, hg, (Array.getElem?_eq_some_iff.1 hh).1, hn, fun j u hu => ?_⟩
    have := hc j u hu
    rw [Addr.add_mid] at this
    exact this
/-- the first m of them, copied behind nothing -/
theorem OwnR.copy {base m : Nat} {w w' : World} {vq v0 v' : Value} {q : List Rec} {sq : List Value} (h : OwnR base w vq q sq) (he : w.ownsRow base 26 9 v0 0 []) (hm : m ≤ q.length)
    (hr : w'.ownsRow base 26 9 v' (0 + m) ([] ++ rcc (q.take m) (sq.take m))) (hg : w.grownBy w' v0.ownBlock) : OwnR base w' v' (q.take m) (sq.take m) := by
  have hl := h.len
  have h1 : (q.take m).length = m := by rw [List.length_take]; omega
  have h2 : (sq.take m).length = m := by rw [List.length_take]; omega
  have hne : (9 : TypeId) ≠ 26 := by decide
  refine ⟨by omega, ?_, fun i hi => ?_⟩
  · rw [h1]
    rw [Nat.zero_add, List.nil_append] at hr
    exact hr
  · have hi1 : i < sq.length := by omega
    have e1 : (sq.take m)[i] = sq[i] := List.getElem_take ..
    have e2 : (q.take m)[i]'(by omega) = q[i]'(by omega) := List.getElem_take ..
    rw [e1, e2]
    exact (h.each i hi1).kept hg (rows_ne hne (h.each i hi1) he)
theorem OwnR.slices {base : Nat} {w : World} {v : Value} {l : List Rec} {s : List Value} (h : OwnR base w v l s) : ∀ u ∈ s, ∃ oa n c, u = .slice oa n c := fun u hu => by
  obtain ⟨i, hi, rfl⟩ := List.getElem_of_mem hu
  obtain ⟨oa, c, e⟩ := own_slice (h.each i hi)
  exact ⟨oa, _, c, e⟩
end Go.Proofs.YtocpikgcbibcoaaGreatDoor.rc
