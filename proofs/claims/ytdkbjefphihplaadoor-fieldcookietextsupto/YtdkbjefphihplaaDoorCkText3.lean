import Derived.Test.YtdkbjefphihplaaDoorCkText2
namespace Go.Proofs.YtdkbjefphihplaaDoor.fd
open Go.ChangeShapes Go.WideShapes Go.ChangeAt Go.RowKit Go.Proofs.YtdkbjefphihplaaDoor.common Go.Proofs.YtdkbjefphihplaaDoor.bk
open Go.Proofs.YtdkbjefphihplaaDoor.lst (PB Lies)
attribute [local go_sem ↓] Go.wp_at_zero Go.wp_at_succ

def refCkR (l : List PB) : Value := if 16 < l.length then .tuple #[.string ⟨#[]⟩, .int .i64 3] else if allCk l then .tuple #[.string (joinB l), .int .i64 0] else .tuple #[.string ⟨#[]⟩, .int .i64 2]

theorem joinB_first (l : List PB) (p : PB) (h : l = []) : joinB (l ++ [p]) = ((joinB l ++ p.1) ++ ⟨#[61]⟩) ++ p.2 := by
  subst h
  apply ba_ext
  unfold joinB
  rw [str_list, joinL_snoc, if_pos rfl, joinL_nil]
  unfold one ckB
  simp
theorem joinB_next (l : List PB) (p : PB) (h : l ≠ []) : joinB (l ++ [p]) = (((joinB l ++ ⟨#[59, 32]⟩) ++ p.1) ++ ⟨#[61]⟩) ++ p.2 := by
  apply ba_ext
  unfold joinB
  rw [str_list, joinL_snoc, if_neg h]
  unfold one ckB
  simp
theorem joinB_size (l : List PB) : (joinB l).size ≤ tot l := by unfold joinB; rw [str_size]; exact joinL_len l

set_option maxRecDepth 100000 in
set_option maxHeartbeats 6400000 in
theorem refCkText_any (v : Value) (l : List PB) (w : World) (hl : Lies w v l) (hs : tot l ≤ 140737488355328) :
    Calls Tryd.prog 21 #[v] w fun e w' => e = .returned (refCkR l) ∧ Below w.heap.size w w' := by
  obtain ⟨R, hR⟩ : ∃ R, R = refCkR l := ⟨_, rfl⟩
  rw [← hR]
  have HR := hide hR
  clear hR
  obtain ⟨oa, cap, rfl, hc⟩ := hl
  have HC := hide hc
  clear hc
  by_cases hbig : 16 < l.length
  · have hbi : (16 : Int) < (l.length : Int) := by omega
    have HR2 : Hid (R = .tuple #[.string ⟨#[]⟩, .int .i64 3]) := by show _ = _; rw [HR.out]; unfold refCkR; rw [if_pos hbig]
    go_enter Tryd.func21, Tryd.ntmps21
    go_wp2_with fail
    go_ret2
    exact ⟨by rw [HR2.out]; rfl, Below.refl _ _⟩
  · have hbi : ¬ (16 : Int) < (l.length : Int) := by omega
    have hle : l.length ≤ 16 := by omega
    have HR2 : Hid (R = if allCk l then .tuple #[.string (joinB l), .int .i64 0] else .tuple #[.string ⟨#[]⟩, .int .i64 2]) := by show _ = _; rw [HR.out]; unfold refCkR; rw [if_neg hbig]
    clear HR hbig
    go_enter Tryd.func21, Tryd.ntmps21
    go_wp2_with fail
    go_loopw [4, 5] (fun u i wr => ∃ k : Nat, k ≤ l.length ∧ i = .int .i64 k ∧ allCk (l.take k) = true ∧ u = .string (joinB (l.take k)) ∧ Below w.heap.size w wr) (fun _ i _ => l.length - (intOf i).toNat)
    case atStart => exact ⟨0, Nat.zero_le _, rfl, rfl, rfl, Below.refl _ _⟩
    case round =>
      obtain ⟨k, hk, rfl, hall, rfl, hnx⟩ := hrel
      have HALL := hide hall
      clear hall
      by_cases hlt : k < l.length
      · have hki : (k : Int) < (l.length : Int) := by omega
        have k0 : (0 : Int) ≤ (k : Int) := Int.natCast_nonneg _
        obtain ⟨b, o, rfl, hb, c0, c1⟩ := HC.out k hlt
        have d0 := (hnx.cell (p := ⟨b, o + k * 2, none⟩) hb).trans c0
        have d1 := (hnx.cell (p := ⟨b, o + k * 2 + 1, none⟩) hb).trans c1
        have HTK := hide (allCk_take l k hlt)
        have hpm := tot_mem (List.getElem_mem hlt)
        have hjs := Nat.le_trans (joinB_size (l.take k)) (tot_take l k)
        have HJF : Hid (l.take k = [] → joinB (l.take (k + 1)) = ((joinB (l.take k) ++ l[k].1) ++ ⟨#[61]⟩) ++ l[k].2) := fun h => by rw [lst.takeP l k hlt]; exact joinB_first _ _ h
        have HJN : Hid (l.take k ≠ [] → joinB (l.take (k + 1)) = (((joinB (l.take k) ++ ⟨#[59, 32]⟩) ++ l[k].1) ++ ⟨#[61]⟩) ++ l[k].2) := fun h => by rw [lst.takeP l k hlt]; exact joinB_next _ _ h
        have HFL : Hid (∀ k, allCk (l.take k) = false → allCk l = false) := fun k h => allCk_false h
        have HNE : Hid (k = 0 ↔ l.take k = []) := by
          constructor
          · rintro rfl; rfl
          · intro h
            have : (l.take k).length = 0 := by rw [h]; rfl
            rw [List.length_take] at this
            omega
        clear c0 c1
        generalize l[k] = p at *
        obtain ⟨pn, pv⟩ := p
        simp only [] at d0 d1 HTK hpm HJF HJN
        have HNX := hide hnx
        clear hnx
        have H1 : Hid (∀ W, Calls Tryd.prog 10 #[.string pn] W fun e w' => e = .returned (.bool (Fd.token pn.data.toList)) ∧ w' = W) := fun W => refToken_any pn W (by omega)
        have H2 : Hid (∀ W, Calls Tryd.prog 45 #[.string pv] W fun e w' => e = .returned (.bool (pv.data.toList.all Fd.ck)) ∧ w' = W) := fun W => refCkValue_any pv W (by omega)
        cases hck : isCk pn pv with
        | false =>
          have HRF : Hid (R = .tuple #[.string ⟨#[]⟩, .int .i64 2]) := by
            show _ = _
            rw [HR2.out, HFL.out (k + 1) (by rw [HTK.out, hck, Bool.and_false])]; rfl
          unfold isCk at hck
          generalize Fd.token pn.data.toList = a at *
          generalize pv.data.toList.all Fd.ck = c at *
          cases a <;> cases c
          all_goals first
            | (cases hck; done)
            | (clear hck
               go_wp2_with (first
                 | (go_at_call 10; refine (H1.out _).mono ?_; rintro x w4 ⟨rfl, rfl⟩)
                 | (go_at_call 45; refine (H2.out _).mono ?_; rintro x w4 ⟨rfl, rfl⟩))
               go_ret2
               exact ⟨by rw [HRF.out]; rfl, HNX.out⟩)
        | true =>
          have HAN : Hid (allCk (l.take (k + 1)) = true) := by show _ = _; rw [HTK.out, HALL.out, hck]; rfl
          unfold isCk at hck
          obtain ⟨ha, hc2⟩ := (Bool.and_eq_true _ _).mp hck
          rw [ha] at H1
          rw [hc2] at H2
          clear hck ha hc2
          by_cases hk0 : k = 0
          · have hki0 : ¬ (0 : Int) < (k : Int) := by omega
            have HJ := hide (HJF.out (HNE.out.1 hk0))
            clear HJF HJN HNE hk0
            generalize joinB (l.take k) = J at *
            have q1 : ∀ X : World, (Op.stringOp .add J pn).run Tryd.prog X = .ok (.string (J ++ pn)) X := fun X => run_string_add_sum X _ _ (by omega)
            have q2 : ∀ X : World, (Op.stringOp .add (J ++ pn) ⟨#[61]⟩).run Tryd.prog X = .ok (.string ((J ++ pn) ++ ⟨#[61]⟩)) X := fun X => run_string_add_sum X _ _ (by rw [ByteArray.size_append]; show _ + _ + 1 ≤ _; omega)
            have q3 : ∀ X : World, (Op.stringOp .add ((J ++ pn) ++ ⟨#[61]⟩) pv).run Tryd.prog X = .ok (.string (((J ++ pn) ++ ⟨#[61]⟩) ++ pv)) X := fun X => run_string_add_sum X _ _ (by rw [ByteArray.size_append, ByteArray.size_append]; show _ + _ + 1 + _ ≤ _; omega)
            go_wp2_with (first
              | (go_at_call 10; refine (H1.out _).mono ?_; rintro x w4 ⟨rfl, rfl⟩)
              | (go_at_call 45; refine (H2.out _).mono ?_; rintro x w4 ⟨rfl, rfl⟩))
            go_region_held3 (fun W => W.cell? ⟨b, o + k * 2, none⟩ = some (.string pn) ∧ W.cell? ⟨b, o + k * 2 + 1, none⟩ = some (.string pv)) (go_keep) (fail)
            all_goals
              go_wp2_with fail
              go_roundw
              case rel => exact ⟨k + 1, by omega, by go_num, HAN.out, by rw [HJ.out], HNX.out.drew⟩
              case measure => simp [intOf]; omega
          · have hki0 : (0 : Int) < (k : Int) := by omega
            have HJ := hide (HJN.out (fun e => hk0 (HNE.out.2 e)))
            clear HJF HJN HNE
            generalize joinB (l.take k) = J0 at *
            have hJ0 : J0.size + 2 ≤ 9223372036854775807 := by omega
            obtain ⟨J, hJ⟩ : ∃ J, J = J0 ++ (⟨#[59, 32]⟩ : ByteArray) := ⟨_, rfl⟩
            have hJs : J.size = J0.size + 2 := by rw [hJ, ByteArray.size_append]; rfl
            rw [← hJ] at HJ
            have q0 : ∀ X : World, (Op.stringOp .add J0 ⟨#[59, 32]⟩).run Tryd.prog X = .ok (.string J) X := fun X => by rw [hJ]; exact run_string_add_sum X _ _ hJ0
            have q1 : ∀ X : World, (Op.stringOp .add J pn).run Tryd.prog X = .ok (.string (J ++ pn)) X := fun X => run_string_add_sum X _ _ (by omega)
            have q2 : ∀ X : World, (Op.stringOp .add (J ++ pn) ⟨#[61]⟩).run Tryd.prog X = .ok (.string ((J ++ pn) ++ ⟨#[61]⟩)) X := fun X => run_string_add_sum X _ _ (by rw [ByteArray.size_append]; show _ + _ + 1 ≤ _; omega)
            have q3 : ∀ X : World, (Op.stringOp .add ((J ++ pn) ++ ⟨#[61]⟩) pv).run Tryd.prog X = .ok (.string (((J ++ pn) ++ ⟨#[61]⟩) ++ pv)) X := fun X => run_string_add_sum X _ _ (by rw [ByteArray.size_append, ByteArray.size_append]; show _ + _ + 1 + _ ≤ _; omega)
            clear hJ
            go_wp2_with (first
              | (go_at_call 10; refine (H1.out _).mono ?_; rintro x w4 ⟨rfl, rfl⟩)
              | (go_at_call 45; refine (H2.out _).mono ?_; rintro x w4 ⟨rfl, rfl⟩))
            go_region_held3 (fun W => W.cell? ⟨b, o + k * 2, none⟩ = some (.string pn) ∧ W.cell? ⟨b, o + k * 2 + 1, none⟩ = some (.string pv)) (go_keep) (fail)
            all_goals
              go_wp2_with fail
              go_roundw
              case rel => exact ⟨k + 1, by omega, by go_num, HAN.out, by rw [HJ.out], HNX.out.drew⟩
              case measure => simp [intOf]; omega
      · obtain rfl : k = l.length := by omega
        rw [List.take_length] at HALL
        have HRT : Hid (R = .tuple #[.string (joinB l), .int .i64 0]) := by show _ = _; rw [HR2.out, HALL.out]; rfl
        rw [List.take_length]
        have HNX := hide hnx
        clear hnx
        go_wp2_with fail
        go_ret2
        exact ⟨by rw [HRT.out]; rfl, HNX.out⟩

end Go.Proofs.YtdkbjefphihplaaDoor.fd
