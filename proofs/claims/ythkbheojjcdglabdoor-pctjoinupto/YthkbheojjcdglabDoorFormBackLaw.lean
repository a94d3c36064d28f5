import Derived.Test.YthkbheojjcdglabDoorPairsWalk
import Derived.Test.YthkbheojjcdglabDoorFormWalks
import Derived.Test.YthkbheojjcdglabDoorSameWalks
import Derived.Test.YthkbheojjcdglabDoorErrWalks
namespace Go.Proofs.YthkbheojjcdglabDoor.pctw
open Go.ChangeShapes Go.WideShapes Go.ChangeAt Go.RowKit Go.Proofs.YthkbheojjcdglabDoor.common
open Go.Proofs.YthkbheojjcdglabDoor.lst (PB Lies cl copied_any same_any lies_of_own own_below)
attribute [local go_sem ↓] Go.wp_at_zero Go.wp_at_succ

theorem txt_eql (w : World) (a : Addr) : (binOp .eql 30 (X a) (X a)).run Tryd.prog w = .ok (.bool true) w := by
  obtain ⟨info, hinfo, hcomp⟩ := Option.map_eq_some_iff.1 errw.compErr
  obtain ⟨jinfo, hj1, hj2⟩ := Option.map_eq_some_iff.1 errw.sizeErr
  exact run_eql_iface_ptr_same w a Tryd.underlying30 Tryd.underlying90 hinfo hcomp hj1

theorem mk_pr (p : PB) : mk (pr p) = p := rfl
theorem map_mk (l : List PB) : (l.map pr).map mk = l := by
  rw [List.map_map]; exact List.map_id' l |>.symm ▸ (List.map_congr_left fun p _ => rfl)

set_option maxRecDepth 100000 in
set_option maxHeartbeats 3200000 in
theorem lawFormBack (v : Value) (l : List PB) (w : World) (hl : Lies w v l) (ht : Tab w) (hs : tot l ≤ 1048576) (hn : l.length ≤ 1048576) (ea em : Addr) (he : Txt w ea) (hm : Mny w em) :
    Calls Tryd.prog 5 #[v] w fun e w' => e = .returned (.bool true) ∧ Below w.heap.size w w' := by
  have HL := hide hl
  have HT := hide ht
  have HE := hide he
  have HM := hide hm
  obtain ⟨ov, cv, rfl, _⟩ := hl
  clear ht he hm
  go_enter Tryd.func5, Tryd.ntmps5
  go_wp2_with fail
  refine (copied_any _ l w HL.out (by omega)).mono ?_
  rintro x w1 ⟨v1, rfl, ho1, hb1⟩
  have HO1 := hide ho1
  have HB1 := hide hb1
  clear ho1 hb1
  go_wp2_with fail
  refine (form_any _ l _ (HL.out.below HB1.out) (HT.out.below HB1.out (Nat.le_refl _)) (by omega) (by omega)).mono ?_
  rintro x w2 ⟨rfl, hb2⟩
  have HO2 := hide (own_below HO1.out hb2)
  have HB2 := hide (HB1.out.trans (hb2.mono HB1.out.size))
  clear hb2 HO1 HB1
  obtain ⟨Y, hY⟩ : ∃ Y : ByteArray, (⟨(Pct.form (l.map pr)).toArray⟩ : ByteArray) = Y := ⟨_, rfl⟩
  rw [show S (Pct.form (l.map pr)) = .string Y from congrArg Value.string hY]
  have HYS : Hid (Y.size ≤ reachBytes) := by
    show _ ≤ _
    rw [← hY, str_size]; have := form_len l; unfold reachBytes; omega
  have HYL : Hid (Y.data.toList = Pct.form (l.map pr)) := by show _ = _; rw [← hY]
  have HPL : Hid ((Pct.pieces Y.data.toList).length = l.length) := by show _ = _; rw [HYL.out, Pct.pieces_form, List.length_map, List.length_map]
  have HPA : Hid (Pct.pairAll (Pct.pieces Y.data.toList) = some (l.map pr)) := by show _ = _; rw [HYL.out, Pct.pairAll_form]
  clear hY
  go_wp2_with fail
  refine (pairs_any Y w2 HYS.out ea em (HE.out.below HB2.out) (HM.out.below HB2.out)).mono ?_
  rintro x w3 ⟨hb3, hx⟩
  have HO3 := hide (own_below HO2.out hb3)
  have HB3 := hide (HB2.out.trans (hb3.mono HB2.out.size))
  have HLO := hide (lies_of_own HO3.out)
  clear hb3 HO2
  obtain ⟨o1, c1, rfl, _⟩ : ∃ oa cap, v1 = .slice oa l.length cap ∧ True := by
    obtain ⟨oa, cap, hv, _⟩ := HLO.out
    exact ⟨oa, cap, hv, trivial⟩
  rcases hx with ⟨h33, rfl⟩ | ⟨h32, hno, rfl⟩ | ⟨h32, q, v, hq, rfl, hown⟩
  · rw [HPL.out] at h33
    have h33i : (32 : Int) < (l.length : Int) := by omega
    have ce : w3.cell? ⟨0, 0, none⟩ = some (X em) := HM.out.below HB3.out
    have hqe := fun W => txt_eql W em
    go_wp2_with fail
    go_ret
    exact ⟨by simp, HB3.out⟩
  · rw [HPA.out] at hno; cases hno
  · rw [HPL.out] at h32
    have h33i : ¬ (32 : Int) < (l.length : Int) := by omega
    obtain rfl : q = l.map pr := (Option.some.inj (HPA.out.symm.trans hq)).symm
    rw [map_mk] at hown
    have HLM := hide (lies_of_own hown)
    clear hq hown
    go_wp2_with fail
    refine (same_any _ _ l w3 HLM.out HLO.out (by omega)).mono ?_
    rintro x w4 ⟨rfl, hb4⟩
    have HB4 := hide (HB3.out.trans (hb4.mono HB3.out.size))
    clear hb4
    go_wp2_with fail
    go_ret
    exact ⟨by simp, HB4.out⟩

end Go.Proofs.YthkbheojjcdglabDoor.pctw
