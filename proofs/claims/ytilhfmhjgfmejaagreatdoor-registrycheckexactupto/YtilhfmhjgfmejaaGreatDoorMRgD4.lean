import Derived.Test.YtilhfmhjgfmejaaGreatDoorMRgD3
import Derived.Test.YtilhfmhjgfmejaaGreatDoorMRgReg
namespace Go.Proofs.YtilhfmhjgfmejaaGreatDoor.rg
open Go.ChangeShapes Go.WideShapes Go.ChangeAt Go.RowKit Go.Proofs.YtilhfmhjgfmejaaGreatDoor.common Go.Maps
attribute [local go_sem ↓] Go.wp_at_zero Go.wp_at_succ

theorem cnt_mono (x : ByteArray) (l : List ByteArray) (k : Nat) : cnt x (l.take k) ≤ cnt x l := by
  unfold cnt
  exact (List.Sublist.filter _ (List.take_sublist k l)).length_le
theorem rep_no {l : List ByteArray} (h : repB l = false) : ∀ k, k ≤ l.length → ∀ x, cnt x (l.take k) ≤ 1
  | 0, _, x => by simp [cnt]
  | k + 1, hk, x => by
    have ih := rep_no h k (by omega) x
    rw [cnt_snoc x l k (by omega)]
    by_cases e : l[k] = x
    · rw [if_pos e]
      have hh : ss.has (l.getD k ByteArray.empty) (l.take k) = false := by
        cases h9 : ss.has (l.getD k ByteArray.empty) (l.take k) with
        | false => rfl
        | true =>
          have := repK_up l (k + 1) l.length hk (by rw [repK_succ, h9, Bool.or_true])
          rw [show repK l l.length = repB l from rfl, h] at this
          cases this
      rw [rc.getD_at l k (by omega), e, ← cnt_has] at hh
      have := of_decide_eq_false hh
      omega
    · rw [if_neg e]; exact ih
theorem rep_yes {l : List ByteArray} {j : Nat} (h : j < l.length) (hc : 1 < cnt l[j] l) : repB l = true := by
  cases h9 : repB l with
  | true => rfl
  | false =>
    have := rep_no h9 l.length (Nat.le_refl _) l[j]
    rw [List.take_length] at this
    omega
theorem rep_cnt {l : List ByteArray} (h : ∀ j (_ : j < l.length), cnt l[j] l ≤ 1) : repB l = false := by
  cases h9 : repB l with
  | false => rfl
  | true =>
    obtain ⟨i, hi, hp⟩ := List.any_eq_true.1 h9
    have hi' := List.mem_range.1 hi
    rw [rc.getD_at l i hi', ← cnt_has] at hp
    have h1 := of_decide_eq_true hp
    have h2 := cnt_snoc l[i] l i hi'
    rw [if_pos rfl] at h2
    have h3 := cnt_mono l[i] l (i + 1)
    have h4 := h i hi'
    omega
theorem has_snoc (x : ByteArray) (l : List ByteArray) (k : Nat) (h : k < l.length) (h1 : ss.has x (l.take k) = false) (h2 : l[k] ≠ x) : ss.has x (l.take (k + 1)) = false := by
  cases h9 : ss.has x (l.take (k + 1)) with
  | false => rfl
  | true =>
    have hm := ss.has_iff.1 h9
    rw [List.take_succ_eq_append_getElem h, List.mem_append] at hm
    rcases hm with hm | hm
    · rw [ss.has_iff.2 hm] at h1; cases h1
    · simp at hm; exact absurd hm.symm h2
theorem has_at (x : ByteArray) (l : List ByteArray) (j k : Nat) (hj : j < l.length) (hk : j < k) (h : l[j] = x) : ss.has x (l.take k) = true :=
  ss.has_iff.2 (by rw [← h]; exact List.mem_iff_getElem.2 ⟨j, by rw [List.length_take]; omega, by rw [List.getElem_take]⟩)
/-- the name at a place is among those ahead of it -/
theorem rep_hit {l : List ByteArray} {k : Nat} (hk : k < l.length) {x : ByteArray} (hx : l[k] = x) (h : ss.has x (l.take k) = true) : repB l = true :=
  repK_up l (k + 1) l.length hk (by rw [repK_succ, rc.getD_at l k hk, hx, h, Bool.or_true])
theorem repK_next {l : List ByteArray} {k : Nat} (hk : k < l.length) {x : ByteArray} (hx : l[k] = x) (h0 : repK l k = false) (h : ss.has x (l.take k) = false) : repK l (k + 1) = false := by
  rw [repK_succ, rc.getD_at l k hk, hx, h, h0]; rfl
theorem twB_is (cs : List Cli) (us : List Usr) : twB cs us = (repB (cs.map Cli.id) || (repB (us.map Usr.name) || cs.any fun x => repB x.to)) := rfl
theorem ne_str {a b : ByteArray} (h : a ≠ b) : (a.toList == b.toList) = false := beq_false_of_ne (fun h' => h (ba_ext (by rw [ByteArray.toList_eq, ByteArray.toList_eq] at h'; exact h')))

set_option maxRecDepth 100000 in
set_option maxHeartbeats 6400000 in
theorem twice_any (w : World) (t : Ten) (vC vU : Value) (cs : List Cli) (us : List Usr) (hC : LiesC w vC cs) (hU : LiesU w vU us) (hz : SmallF cs us) :
    Calls Tryz.prog 18 #[.agg #[.int .i64 t.a0, .int .i64 t.a1, .int .i64 t.a2, .int .i64 t.a3, .int .i64 t.a4, .int .i64 t.a5, .int .i64 t.a6, .int .i64 t.a7, .int .i64 t.a8, .int .i64 t.a9, vC, vU]] w fun e w' => e = .returned (.bool (twB cs us)) ∧ Below w.heap.size w w' := by
  have HLC := hide hC
  have HLU := hide hU
  have HZ := hide hz
  obtain ⟨oC, cC, rfl, _⟩ := hC
  obtain ⟨oU, cU, rfl, _⟩ := hU
  have hncs := hz.nc
  have hnus := hz.nu
  have hb := heap_new w (.cells #[.int .i64 t.a0, .int .i64 t.a1, .int .i64 t.a2, .int .i64 t.a3, .int .i64 t.a4, .int .i64 t.a5, .int .i64 t.a6, .int .i64 t.a7, .int .i64 t.a8, .int .i64 t.a9, .slice oC cs.length cC, .slice oU us.length cU] 25)
  have HB : Hid (Below w.heap.size w (w.alloc (.cells #[.int .i64 t.a0, .int .i64 t.a1, .int .i64 t.a2, .int .i64 t.a3, .int .i64 t.a4, .int .i64 t.a5, .int .i64 t.a6, .int .i64 t.a7, .int .i64 t.a8, .int .i64 t.a9, .slice oC cs.length cC, .slice oU us.length cU] 25))) := (Below.refl _ _).alloc (Nat.le_refl _) _
  have HX : Hid (∀ Y, Below (w.alloc (.cells #[.int .i64 t.a0, .int .i64 t.a1, .int .i64 t.a2, .int .i64 t.a3, .int .i64 t.a4, .int .i64 t.a5, .int .i64 t.a6, .int .i64 t.a7, .int .i64 t.a8, .int .i64 t.a9, .slice oC cs.length cC, .slice oU us.length cU] 25)).heap.size (w.alloc (.cells #[.int .i64 t.a0, .int .i64 t.a1, .int .i64 t.a2, .int .i64 t.a3, .int .i64 t.a4, .int .i64 t.a5, .int .i64 t.a6, .int .i64 t.a7, .int .i64 t.a8, .int .i64 t.a9, .slice oC cs.length cC, .slice oU us.length cU] 25)) Y → Y.cell? ⟨w.heap.size, 10, none⟩ = some (.slice oC cs.length cC) ∧ Y.cell? ⟨w.heap.size, 11, none⟩ = some (.slice oU us.length cU)) := fun Y hY => by
    have h9 := (hY.block w.heap.size (Array.getElem?_eq_some_iff.1 hb).1).trans hb
    exact ⟨cell_of h9 10, cell_of h9 11⟩
  have HQ := hide (twB_is cs us)
  generalize twB cs us = r at *
  have HML : Hid (∀ k (h : k < cs.length), (cs.map Cli.id)[k]'(by rw [List.length_map]; exact h) = cs[k].id) := fun k h => by simp
  have HUL : Hid (∀ k (h : k < us.length), (us.map Usr.name)[k]'(by rw [List.length_map]; exact h) = us[k].name) := fun k h => by simp
  have HLN : Hid ((cs.map Cli.id).length = cs.length ∧ (us.map Usr.name).length = us.length) := ⟨by simp, by simp⟩
  clear hb hz
  go_enter Tryz.func18, Tryz.ntmps18
  go_wp2_with fail
  generalize w.alloc (.cells #[.int .i64 t.a0, .int .i64 t.a1, .int .i64 t.a2, .int .i64 t.a3, .int .i64 t.a4, .int .i64 t.a5, .int .i64 t.a6, .int .i64 t.a7, .int .i64 t.a8, .int .i64 t.a9, .slice oC cs.length cC, .slice oU us.length cU] 25) = V at *
  go_loopw [3] (fun i wr => ∃ k : Nat, k ≤ cs.length ∧ i = .int .i64 k ∧ Hid (repK (cs.map Cli.id) k = false) ∧ Hid (((cs.take k).any fun x => repB x.to) = false) ∧ Hid (Below V.heap.size V wr)) (fun i _ => cs.length - (intOf i).toNat)
  case atStart => exact ⟨0, Nat.zero_le _, rfl, rfl, rfl, Below.refl _ _⟩
  case round =>
    obtain ⟨k, hk, rfl, HR1, HR2, HBr⟩ := hrel
    obtain ⟨c10, c11⟩ := HX.out wr HBr.out
    by_cases hlt : k < cs.length
    · have k1 : (k : Int) < (cs.length : Int) := by omega
      have k0 : (0 : Int) ≤ (k : Int) := Int.natCast_nonneg _
      have HLW := hide (HLC.out.below (keepW HB.out HBr.out))
      generalize wr = W1 at *
      have HML2 : Hid (∀ j, j < cs.length → ∃ b o vR vS, oC = some ⟨b, o, none⟩ ∧ b < W1.heap.size ∧ ∃ x, cs[j]? = some x ∧ CAt W1 b (o + j * 6) x vR vS) := fun j hj => by
        obtain ⟨oa, ca, hv, hcc⟩ := HLW.out
        cases hv
        obtain ⟨b, o, vR, vS, ho, hbl, hca⟩ := hcc j hj
        exact ⟨b, o, vR, vS, ho, hbl, cs[j], List.getElem?_eq_getElem hj, hca⟩
      obtain ⟨b, o, vR, vS, rfl, hbl, x, hx, hca⟩ := HML2.out k hlt
      have hxk : cs[k] = x := by rw [List.getElem?_eq_getElem hlt] at hx; exact Option.some.inj hx
      have g0 := hca.1
      have g4 := hca.2.2.2.2.1
      have HLR := hide hca.2.2.2.2.2.2.1
      have hzx : x.to.length ≤ 1048576 := by have := (HZ.out.ci cs[k] (List.getElem_mem hlt)).2.1; rwa [hxk] at this
      have HXK := hide hxk
      clear hx hxk hca
      obtain ⟨oR, cR, hvR, hRc⟩ := HLR.out
      have HRC := hide hRc
      subst hvR
      clear hRc
      go_wp2_with fail
      go_loopw [4] (fun i wr => ∃ j : Nat, j ≤ k ∧ i = .int .i64 j ∧ Hid (ss.has x.id ((cs.map Cli.id).take j) = false) ∧ Hid (Below W1.heap.size W1 wr)) (fun i _ => k - (intOf i).toNat)
      case atStart => exact ⟨0, Nat.zero_le _, rfl, rfl, Below.refl _ _⟩
      case round =>
        obtain ⟨j, hj, rfl, HH, HBj⟩ := hrel
        have d10 := (HBj.out.cell (p := ⟨w.heap.size, 10, none⟩) (World.block_lt_of_cell? _ _ c10)).trans c10
        have d0 := (HBj.out.cell (p := ⟨b, o + k * 6, none⟩) hbl).trans g0
        have d4 := (HBj.out.cell (p := ⟨b, o + k * 6 + 4, none⟩) hbl).trans g4
        by_cases hjk : j < k
        · have j1 : (j : Int) < (k : Int) := by omega
          have j0 : (0 : Int) ≤ (j : Int) := Int.natCast_nonneg _
          have j2 : (j : Int) < (cs.length : Int) := by omega
          obtain ⟨b', o', _, _, ho', _, y, hy, hcb⟩ := HML2.out j (by omega)
          cases ho'
          have hyj : cs[j]'(by omega) = y := by rw [List.getElem?_eq_getElem (by omega)] at hy; exact Option.some.inj hy
          have e0 := (HBj.out.cell (p := ⟨b, o + j * 6, none⟩) hbl).trans hcb.1
          have HYI : Hid ((cs.map Cli.id)[j]'(by rw [HLN.out.1]; omega) = y.id) := by show _ = _; rw [HML.out j (by omega), hyj]
          clear hy hcb hyj
          by_cases he : y.id = x.id
          · have HT : Hid (r = true) := by
              have h1 : repB (cs.map Cli.id) = true := rep_hit (x := x.id) (by rw [HLN.out.1]; exact hlt) (by rw [HML.out k hlt, HXK.out]) (has_at x.id _ j k (by rw [HLN.out.1]; omega) hjk (by rw [HYI.out, he]))
              show _ = _
              rw [HQ.out, h1]; rfl
            rw [he] at e0
            clear he HYI
            go_wp2_with fail
            go_quiet (fail)
            go_wp2_with fail
            go_ret
            exact ⟨by rw [HT.out] <;> rfl, rc.bdN' (keepW HB.out (keepW HBr.out HBj.out)) nq⟩
          · have HN : Hid (ss.has x.id ((cs.map Cli.id).take (j + 1)) = false) := has_snoc _ _ j (by rw [HLN.out.1]; omega) HH.out (by rw [HYI.out]; exact he)
            have hne := ne_str he
            clear he HYI
            go_wp2_with fail
            go_quiet (fail)
            go_wp2_with fail
            go_roundw
            case rel => exact ⟨j + 1, by omega, by go_num, HN, rc.bdN' HBj.out nq⟩
            case measure => simp [intOf]; omega
        · have j1 : ¬ (j : Int) < (k : Int) := by omega
          have HN1 : Hid (repK (cs.map Cli.id) (k + 1) = false) := by
            obtain rfl : j = k := by omega
            exact repK_next (x := x.id) (by rw [HLN.out.1]; exact hlt) (by rw [HML.out j hlt, HXK.out]) HR1.out HH.out
          have HBw := hide (keepW HBr.out HBj.out)
          have HLX := hide (HLR.out.below HBj.out)
          generalize wr = W2 at *
          clear HH hj hjk
          go_wp2_with fail
          go_loopw [6] (fun i wr => ∃ j : Nat, j ≤ x.to.length ∧ i = .int .i64 j ∧ Hid (∀ m (h : m < x.to.length), m < j → cnt x.to[m] x.to ≤ 1) ∧ Hid (wr = W2)) (fun i _ => x.to.length - (intOf i).toNat)
          case atStart => exact ⟨0, Nat.zero_le _, rfl, fun m _ h => absurd h (Nat.not_lt_zero _), rfl⟩
          case round =>
            obtain ⟨j, hj, rfl, HM, hV⟩ := hrel
            obtain rfl := hV.out.symm
            clear hV
            by_cases hjk : j < x.to.length
            · have j1 : (j : Int) < (x.to.length : Int) := by omega
              have j0 : (0 : Int) ≤ (j : Int) := Int.natCast_nonneg _
              obtain ⟨_, _, hv, hcc⟩ := HLX.out
              cases hv
              obtain ⟨b', o', rfl, hb', e0⟩ := hcc j hjk
              have HTI := hide (times_any W2 _ x.to x.to[j] HLX.out (by omega))
              have HY := hide (rep_yes hjk)
              have HNX : Hid (cnt x.to[j] x.to ≤ 1 → ∀ m (h : m < x.to.length), m < j + 1 → cnt x.to[m] x.to ≤ 1) := fun h m h1 h2 => by
                by_cases hm : m < j
                · exact HM.out m h1 hm
                · obtain rfl : m = j := by omega
                  exact h
              have hcl := cnt_le x.to[j] x.to
              generalize cnt x.to[j] x.to = n at *
              generalize x.to[j] = s at *
              clear hcc
              by_cases hn : 1 < n
              · have n1 : (1 : Int) < (n : Int) := by omega
                have HT : Hid (r = true) := by
                  have h1 : (cs.any fun x => repB x.to) = true := any_at (fun x => repB x.to) cs k hlt (by rw [HXK.out]; exact HY.out hn)
                  show _ = _
                  rw [HQ.out, h1, Bool.or_true, Bool.or_true]
                go_wp2_with fail
                refine HTI.out.mono ?_
                rintro e w5 ⟨rfl, h5⟩
                obtain rfl := h5.symm
                clear h5
                go_wp2_with fail
                go_ret
                exact ⟨by rw [HT.out] <;> rfl, keepW HB.out HBw.out⟩
              · have n1 : ¬ (1 : Int) < (n : Int) := by omega
                have HNN := hide (HNX.out (by omega))
                clear HNX HY
                go_wp2_with fail
                refine HTI.out.mono ?_
                rintro e w5 ⟨rfl, h5⟩
                obtain rfl := h5.symm
                clear h5
                go_wp2_with fail
                go_roundw
                case rel => exact ⟨j + 1, by omega, by go_num, HNN, hide trivial⟩
                case measure => simp [intOf]; omega
            · have j1 : ¬ (j : Int) < (x.to.length : Int) := by omega
              have HN2 : Hid (((cs.take (k + 1)).any fun x => repB x.to) = false) := by
                have h1 : repB x.to = false := rep_cnt (fun m h => HM.out m h (by omega))
                show _ = _
                rw [any_take (fun x => repB x.to) cs k hlt, HR2.out, HXK.out, h1]; rfl
              go_wp2_with fail
              go_roundw
              case rel => exact ⟨k + 1, by omega, by go_num, HN1, HN2, HBw⟩
              case measure => simp [intOf]; omega
    · have k1 : ¬ (k : Int) < (cs.length : Int) := by omega
      have HQ2 : Hid (r = repB (us.map Usr.name)) := by
        obtain rfl : k = cs.length := by omega
        have h1 := HR2.out
        rw [List.take_length] at h1
        have h2 : repB (cs.map Cli.id) = false := by have := HR1.out; rw [← HLN.out.1] at this; exact this
        show _ = _
        rw [HQ.out, h1, h2, Bool.or_false, Bool.false_or]
      generalize wr = W1 at *
      clear HQ HR1 HR2 hk hlt
      go_wp2_with fail
      go_loopw [8] (fun i wr => ∃ k : Nat, k ≤ us.length ∧ i = .int .i64 k ∧ Hid (repK (us.map Usr.name) k = false) ∧ Hid (Below W1.heap.size W1 wr)) (fun i _ => us.length - (intOf i).toNat)
      case atStart => exact ⟨0, Nat.zero_le _, rfl, rfl, Below.refl _ _⟩
      case round =>
        obtain ⟨k, hk, rfl, HR1, HBs⟩ := hrel
        obtain ⟨h10, h11⟩ := HX.out wr (keepW HBr.out HBs.out)
        by_cases hlt : k < us.length
        · have k1 : (k : Int) < (us.length : Int) := by omega
          have k0 : (0 : Int) ≤ (k : Int) := Int.natCast_nonneg _
          have HLW := hide (HLU.out.below (keepW HB.out (keepW HBr.out HBs.out)))
          generalize wr = W2 at *
          have HML2 : Hid (∀ j (hj : j < us.length), ∃ b o, oU = some ⟨b, o, none⟩ ∧ b < W2.heap.size ∧ W2.cell? ⟨b, o + j * 3, none⟩ = some (.string us[j].name)) := fun j hj => by
            obtain ⟨oa, ca, hv, hcc⟩ := HLW.out
            cases hv
            obtain ⟨b, o, ho, hbl, c0, _⟩ := hcc j hj
            exact ⟨b, o, ho, hbl, c0⟩
          obtain ⟨b, o, rfl, hbl, g0⟩ := HML2.out k hlt
          have HXK := hide (HUL.out k hlt)
          generalize us[k].name = x at *
          go_wp2_with fail
          go_loopw [9] (fun i wr => ∃ j : Nat, j ≤ k ∧ i = .int .i64 j ∧ Hid (ss.has x ((us.map Usr.name).take j) = false) ∧ Hid (Below W2.heap.size W2 wr)) (fun i _ => k - (intOf i).toNat)
          case atStart => exact ⟨0, Nat.zero_le _, rfl, rfl, Below.refl _ _⟩
          case round =>
            obtain ⟨j, hj, rfl, HH, HBj⟩ := hrel
            have d11 := (HBj.out.cell (p := ⟨w.heap.size, 11, none⟩) (World.block_lt_of_cell? _ _ h11)).trans h11
            have d0 := (HBj.out.cell (p := ⟨b, o + k * 3, none⟩) hbl).trans g0
            by_cases hjk : j < k
            · have j1 : (j : Int) < (k : Int) := by omega
              have j0 : (0 : Int) ≤ (j : Int) := Int.natCast_nonneg _
              have j2 : (j : Int) < (us.length : Int) := by omega
              obtain ⟨b', o', ho', _, hcb⟩ := HML2.out j (by omega)
              cases ho'
              have e0 := (HBj.out.cell (p := ⟨b, o + j * 3, none⟩) hbl).trans hcb
              have HYI := hide (HUL.out j (by omega))
              generalize us[j].name = y at *
              clear hcb
              by_cases he : y = x
              · have HT : Hid (r = true) := by
                  show _ = _
                  rw [HQ2.out]
                  exact rep_hit (x := x) (by rw [HLN.out.2]; exact hlt) HXK.out (has_at x _ j k (by rw [HLN.out.2]; omega) hjk (by rw [HYI.out, he]))
                rw [he] at e0
                clear he HYI
                go_wp2_with fail
                go_quiet (fail)
                go_wp2_with fail
                go_ret
                exact ⟨by rw [HT.out] <;> rfl, rc.bdN' (keepW HB.out (keepW HBr.out (keepW HBs.out HBj.out))) nq⟩
              · have HN : Hid (ss.has x ((us.map Usr.name).take (j + 1)) = false) := has_snoc _ _ j (by rw [HLN.out.2]; omega) HH.out (by rw [HYI.out]; exact he)
                have hne := ne_str he
                clear he HYI
                go_wp2_with fail
                go_quiet (fail)
                go_wp2_with fail
                go_roundw
                case rel => exact ⟨j + 1, by omega, by go_num, HN, rc.bdN' HBj.out nq⟩
                case measure => simp [intOf]; omega
            · have j1 : ¬ (j : Int) < (k : Int) := by omega
              have HN1 : Hid (repK (us.map Usr.name) (k + 1) = false) := by
                obtain rfl : j = k := by omega
                exact repK_next (x := x) (by rw [HLN.out.2]; exact hlt) HXK.out HR1.out HH.out
              go_wp2_with fail
              go_roundw
              case rel => exact ⟨k + 1, by omega, by go_num, HN1, keepW HBs.out HBj.out⟩
              case measure => simp [intOf]; omega
        · have k1 : ¬ (k : Int) < (us.length : Int) := by omega
          have HF : Hid (r = false) := by
            obtain rfl : k = us.length := by omega
            have h1 := HR1.out
            rw [← HLN.out.2] at h1
            show _ = _
            rw [HQ2.out]; exact h1
          go_wp2_with fail
          go_ret
          exact ⟨by rw [HF.out] <;> rfl, keepW HB.out (keepW HBr.out HBs.out)⟩

set_option maxRecDepth 100000 in
set_option maxHeartbeats 3200000 in
theorem refCheck_any (w : World) (t : Ten) (vC vU : Value) (cs : List Cli) (us : List Usr) (hC : LiesC w vC cs) (hU : LiesU w vU us) (hz : SmallF cs us) (ht : RTab w) :
    Calls Tryz.prog 7 #[.agg #[.int .i64 t.a0, .int .i64 t.a1, .int .i64 t.a2, .int .i64 t.a3, .int .i64 t.a4, .int .i64 t.a5, .int .i64 t.a6, .int .i64 t.a7, .int .i64 t.a8, .int .i64 t.a9, vC, vU]] w fun x w' => x = .returned (.int .i64 (chI t cs us)) ∧ Below w.heap.size w w' := by
  have HMA := hide (fun Y (hY : Below w.heap.size w Y) => tooMany_any Y t vC vU cs us (hC.below hY) (hU.below hY))
  have HFI := hide (fun Y (hY : Below w.heap.size w Y) => mayBe_any Y t vC vU cs us (hC.below hY) (hU.below hY) hz (ht.below hY))
  have HTW := hide (fun Y (hY : Below w.heap.size w Y) => twice_any Y t vC vU cs us (hC.below hY) (hU.below hY) hz)
  obtain ⟨oC, cC, rfl, _⟩ := hC
  obtain ⟨oU, cU, rfl, _⟩ := hU
  have hb := heap_new w (.cells #[.int .i64 t.a0, .int .i64 t.a1, .int .i64 t.a2, .int .i64 t.a3, .int .i64 t.a4, .int .i64 t.a5, .int .i64 t.a6, .int .i64 t.a7, .int .i64 t.a8, .int .i64 t.a9, .slice oC cs.length cC, .slice oU us.length cU] 25)
  have HB : Hid (Below w.heap.size w (w.alloc (.cells #[.int .i64 t.a0, .int .i64 t.a1, .int .i64 t.a2, .int .i64 t.a3, .int .i64 t.a4, .int .i64 t.a5, .int .i64 t.a6, .int .i64 t.a7, .int .i64 t.a8, .int .i64 t.a9, .slice oC cs.length cC, .slice oU us.length cU] 25))) := (Below.refl _ _).alloc (Nat.le_refl _) _
  have HP : Hid (∀ Y, Below (w.alloc (.cells #[.int .i64 t.a0, .int .i64 t.a1, .int .i64 t.a2, .int .i64 t.a3, .int .i64 t.a4, .int .i64 t.a5, .int .i64 t.a6, .int .i64 t.a7, .int .i64 t.a8, .int .i64 t.a9, .slice oC cs.length cC, .slice oU us.length cU] 25)).heap.size (w.alloc (.cells #[.int .i64 t.a0, .int .i64 t.a1, .int .i64 t.a2, .int .i64 t.a3, .int .i64 t.a4, .int .i64 t.a5, .int .i64 t.a6, .int .i64 t.a7, .int .i64 t.a8, .int .i64 t.a9, .slice oC cs.length cC, .slice oU us.length cU] 25)) Y → Y.rangeAt w.heap.size 0 [.int .i64 t.a0, .int .i64 t.a1, .int .i64 t.a2, .int .i64 t.a3, .int .i64 t.a4, .int .i64 t.a5, .int .i64 t.a6, .int .i64 t.a7, .int .i64 t.a8, .int .i64 t.a9, .slice oC cs.length cC, .slice oU us.length cU]) := fun Y hY => range_of ((hY.block w.heap.size (Array.getElem?_eq_some_iff.1 hb).1).trans hb)
  obtain ⟨R, hR⟩ : ∃ R, R = chI t cs us := ⟨_, rfl⟩
  rw [← hR]
  unfold chI at hR
  have HR := hide hR
  generalize manyB cs us = q1 at *
  generalize fitB t cs us = q2 at *
  generalize twB cs us = q3 at *
  clear hb hz ht hR
  go_enter Tryz.func7, Tryz.ntmps7
  have HR0 := hide (HP.out _ (Below.refl _ _))
  go_wp2_with (refine wpList_load_mid rfl 25 _ rfl w.heap.size 0 rfl _ _ HR0.out Tryz.underlying25 rfl sizeCf ?_)
  generalize w.alloc (.cells #[.int .i64 t.a0, .int .i64 t.a1, .int .i64 t.a2, .int .i64 t.a3, .int .i64 t.a4, .int .i64 t.a5, .int .i64 t.a6, .int .i64 t.a7, .int .i64 t.a8, .int .i64 t.a9, .slice oC cs.length cC, .slice oU us.length cU] 25) = V at *
  refine (HMA.out V HB.out).mono ?_
  rintro x w1 ⟨rfl, b1⟩
  have HV1 := hide b1
  have HB1 := hide (keepW HB.out b1)
  have HR1 := hide (HP.out w1 b1)
  clear b1 HR0
  cases q1 with
  | true =>
    go_wp2_with fail
    go_ret
    exact ⟨by rw [HR.out] <;> rfl, HB1.out⟩
  | false =>
    go_wp2_with (refine wpList_load_mid rfl 25 _ rfl w.heap.size 0 rfl _ _ HR1.out Tryz.underlying25 rfl sizeCf ?_)
    refine (HFI.out w1 HB1.out).mono ?_
    rintro x w2 ⟨rfl, b2⟩
    have HV2 := hide (keepW HV1.out b2)
    have HB2 := hide (keepW HB1.out b2)
    have HR2 := hide (HP.out w2 HV2.out)
    clear b2 HR1
    cases q2 with
    | false =>
      go_wp2_with fail
      go_ret
      exact ⟨by rw [HR.out] <;> rfl, HB2.out⟩
    | true =>
      go_wp2_with (refine wpList_load_mid rfl 25 _ rfl w.heap.size 0 rfl _ _ HR2.out Tryz.underlying25 rfl sizeCf ?_)
      refine (HTW.out w2 HB2.out).mono ?_
      rintro x w3 ⟨rfl, b3⟩
      have HB3 := hide (keepW HB2.out b3)
      clear b3 HR2
      cases q3 with
      | true =>
        go_wp2_with fail
        go_ret
        exact ⟨by rw [HR.out] <;> rfl, HB3.out⟩
      | false =>
        go_wp2_with fail
        go_ret
        exact ⟨by rw [HR.out] <;> rfl, HB3.out⟩
end Go.Proofs.YtilhfmhjgfmejaaGreatDoor.rg
