import Derived.Test.YthhkhpgffamdhaaDoorCkPcs
namespace Go.Proofs.YthhkhpgffamdhaaDoor.fd
open Go.ChangeShapes Go.WideShapes Go.ChangeAt Go.RowKit Go.Proofs.YthhkhpgffamdhaaDoor.common Go.Proofs.YthhkhpgffamdhaaDoor.bk
attribute [local go_sem ↓] Go.wp_at_zero Go.wp_at_succ

theorem own_mv {w w' : World} {B b : Nat} {t : TypeId} {z : Nat} {v : Value} {n : Nat} {xs : List Value} (h : w.ownsRow B t z v n xs) (hm : Mv b w w') (hb : b < B) : w'.ownsRow B t z v n xs := by
  refine ⟨h.1, ?_⟩
  rcases h.2 with hn | ⟨g, cap, cur, hv, hg, hh, rest⟩
  · exact .inl hn
  · exact .inr ⟨g, cap, cur, hv, hg, (by rw [hm.others g (by omega)]; exact hh), rest⟩
theorem ne_nil_pc {l : List UInt8} (h : l ≠ []) : ((⟨l.toArray⟩ : ByteArray).toList == []) = false ∧ (⟨l.toArray⟩ : ByteArray).toList.isEmpty = false := by
  have e : (⟨l.toArray⟩ : ByteArray).toList = l := by rw [ByteArray.toList_eq]
  rw [e]
  exact ⟨beq_false_of_ne h, by cases l with | nil => exact absurd rfl h | cons _ _ => rfl⟩
theorem below_drewP {b : Nat} {a c : World} (h : Below b a c) (n : Nat) : Below b a (c.drewN n) := ⟨h.1, h.2, h.3, h.4, h.5⟩
theorem own_form {w : World} {B : Nat} {t : TypeId} {z : Nat} {v : Value} {n : Nat} {xs : List Value} (h : w.ownsRow B t z v n xs) : ∃ oa cap, v = .slice oa n cap := by
  rcases h.2 with ⟨rfl, rfl⟩ | ⟨g, cap, cur, rfl, _⟩
  · exact ⟨_, _, rfl⟩
  · exact ⟨_, _, rfl⟩
theorem own_drewN {w : World} {B : Nat} {t : TypeId} {z : Nat} {v : Value} {n : Nat} {xs : List Value} (h : w.ownsRow B t z v n xs) (m : Nat) : (w.drewN m).ownsRow B t z v n xs := ⟨h.1, h.2⟩
theorem At.keepB {w w' : World} {b B : Nat} {s : ByteArray} {l : List UInt8} (h : At w b s l) (hb : Below B w w') (hlt : b < B) : At w' b s l :=
  ⟨h.1, (hb.cell hlt).trans h.2.c0, (hb.cell hlt).trans h.2.c1, (hb.frozen (p := ⟨b, 1, none⟩) hlt).trans h.2.f1, fun j u hu => (hb.cell hlt).trans (h.2.tab j u hu)⟩
theorem pcAdd_no {acc : List (List UInt8)} {l : List UInt8} (h : Fd.trim (l.takeWhile isPc) = []) : pcAdd acc l = acc := if_pos h
theorem pcAdd_yes {acc : List (List UInt8)} {l : List UInt8} (h : ¬ Fd.trim (l.takeWhile isPc) = []) : pcAdd acc l = acc ++ [Fd.trim (l.takeWhile isPc)] := if_neg h
theorem infoStr : (Tryd.prog.info? 9).map (fun i => (i.zero, i.size, i.bytes)) = some (some (.string ⟨#[]⟩), 1, 16) := by kernel_rfl

set_option maxRecDepth 100000 in
set_option maxHeartbeats 1600000 in
theorem pieces_any (b : Nat) (s : ByteArray) (l0 : List UInt8) (w : World) (h : At w b s l0) (hs : s.size ≤ 140737488355328) :
    Calls Tryd.prog 40 #[ptr b] w fun e w' => ∃ v, e = .returned v ∧ w'.ownsRow w.heap.size 9 1 v (pcsL l0 []).length ((pcsL l0 []).map S) ∧ Tab w' b 2 ∧ Below b w w' := by
  obtain ⟨i0, hi, hz0, hz1, hz2⟩ := info_parts infoStr
  have HBW : Hid (b < w.heap.size) := World.block_lt_of_cell? w _ h.2.c0
  have HA := hide h
  clear h
  go_enter Tryd.func40, Tryd.ntmps40
  go_wp2_with fail
  go_loopw [3, 4] (fun v _ wr => ∃ l acc, At wr b s l ∧ wr.ownsRow w.heap.size 9 1 v acc.length (acc.map S) ∧ pcsL l acc = pcsL l0 [] ∧ acc.length ≤ 17 ∧ Below b w wr) (fun _ _ wr => s.size - place wr b)
  case atStart => exact ⟨l0, [], HA.out, World.ownsRow_nil _ _ _ _, rfl, by decide, Below.refl _ _⟩
  case round =>
    obtain ⟨l, acc, ha, hown, heq, hac, hbl⟩ := hrel
    obtain ⟨oa, cap, rfl⟩ := own_form hown
    have hll := ha.len
    cases l with
    | nil =>
      have HM0 := more_any b s _ _ ha.2
      rw [show decide (s.size - ([] : List UInt8).length < s.size) = false by simp] at HM0
      have HM := hide HM0
      rw [pcsL_nil] at heq
      have HEQ := hide heq
      have HBL := hide hbl
      have HOW := hide hown
      have HTB := hide ha.2.tab
      clear ha heq hbl HM0 hown
      go_wp2_with fail
      refine HM.out.mono ?_
      rintro x w1 ⟨rfl, m, rfl⟩
      go_wp2_with fail
      go_ret
      refine ⟨_, rfl, ?_, HTB.out, ⟨HBL.out.1, HBL.out.2, HBL.out.3, HBL.out.4, HBL.out.5⟩⟩
      rw [← HEQ.out]; exact own_drewN HOW.out _
    | cons x r =>
      have HM0 := more_any b s _ _ ha.2
      rw [show decide (s.size - (x :: r).length < s.size) = true by rw [List.length_cons] at hll ⊢; exact decide_eq_true (by omega)] at HM0
      have HM := hide HM0
      by_cases hfull : acc.length ≤ 16
      · have hfi : (acc.length : Int) ≤ 16 := by omega
        have HNX := hide (pcsL_next x r acc hfull)
        have HAL := hide ha
        have HEQ := hide heq
        have HBL := hide hbl
        have HOW := hide hown
        clear ha heq hbl HM0 hown
        go_wp2_with fail
        refine HM.out.mono ?_
        rintro y w1 ⟨rfl, m, rfl⟩
        go_wp2_with fail
        refine (takeWhile_p b s (x :: r) _ isPc _ (HAL.out.drewN _) (by omega) enters_piece (fun W c => isPieceByte_any c W)).mono ?_
        rintro y w2 ⟨rfl, ha2, hm2⟩
        have HA2 := hide ha2
        have HO2 := hide (own_mv (own_drewN HOW.out m) hm2 HBW.out)
        have HB2 : Hid (Below b w w2) := (below_drewP HBL.out m).trans hm2.below
        have htl : ((x :: r).takeWhile isPc).length ≤ s.size := Nat.le_trans (List.takeWhile_prefix _).length_le hll
        have HTL := hide htl
        clear ha2 hm2 htl
        go_wp2_with fail
        refine (trim_any ⟨((x :: r).takeWhile isPc).toArray⟩ w2 (by rw [str_size]; have := HTL.out; omega)).mono ?_
        rintro y w3 ⟨rfl, hb3⟩
        rw [str_list]
        have HA3 := hide (HA2.out.keep hb3)
        have HO3 := hide (bk.own_below HO2.out hb3)
        have HB3 : Hid (Below b w w3) := HB2.out.trans (hb3.mono (Nat.le_trans (Nat.le_of_lt HBW.out) HB2.out.size))
        have HP0 := hide HAL.out.place
        have HRL := hide (pcRest_len x r)
        have HLL : Hid ((x :: r).length ≤ s.size) := hll
        clear hb3
        by_cases hte : Fd.trim ((x :: r).takeWhile isPc) = []
        · have HAD := hide (pcAdd_no (acc := acc) hte)
          rw [hte]
          clear hte
          go_wp2_with fail
          refine (takeL_any b s _ 59 _ HA3.out (by omega)).mono ?_
          rintro y w6 ⟨rfl, ha6, hm6⟩
          have HA6 : Hid (At w6 b s (pcRest (x :: r))) := ha6
          have HO6 := hide (own_mv HO3.out hm6 HBW.out)
          have HB6 := hide (HB3.out.trans hm6.below)
          have HP6 := hide HA6.out.place
          clear ha6 hm6
          go_wp2_with fail
          go_roundw
          case rel => exact ⟨pcRest (x :: r), _, HA6.out, HO6.out, by rw [← HEQ.out, HNX.out, HAD.out], hac, HB6.out⟩
          case measure =>
            have h0 := HP0.out
            have h6 := HP6.out
            have h1 := HRL.out
            have h2 := HLL.out
            rw [List.length_cons] at h0 h2
            rw [h0, h6]
            omega
        · have HAD := hide (pcAdd_yes (acc := acc) hte)
          obtain ⟨hne1, hne2⟩ := ne_nil_pc hte
          generalize Fd.trim ((x :: r).takeWhile isPc) = T at *
          have hne3 : T.isEmpty = false := by cases T with | nil => exact absurd rfl hte | cons _ _ => rfl
          have hown := HO3.out
          have hsz3 := HB3.out.size
          go_wp2_with (at_builtin; refine wpList_append_own _ rfl _ _ 71 rfl w.heap.size 9 i0 (.string ⟨#[]⟩) 1 16 Tryd.underlying71 hi hz0 hz1 hz2 rfl (by decide) _ _ _ rfl (hown.alloc _) ⟨_, 0, none⟩ 1 1 [_] rfl rfl (bk.cell_one_new _ _ _) ?d2 ?d3 ?d4 ?d5 ?_)
          case d2 => first | rfl | (intro u hu; simp at hu; subst hu; rfl)
          case d3 => unfold maxLen; omega
          case d4 => omega
          case d5 => first | omega | (simp; omega)
          intro v' w5 hown' hgrow _
          have HO5 : Hid (w5.ownsRow w.heap.size 9 1 v' (acc ++ [T]).length ((acc ++ [T]).map S)) := by
            show w5.ownsRow _ _ _ _ _ _
            rw [List.length_append, List.map_append]; exact hown'
          have hb5 : Below w.heap.size w3 w5 := ((Below.refl w.heap.size w3).alloc hsz3 _).grown hgrow (by simp; omega) (own_ge hown)
          have HA5 := hide (HA3.out.keepB hb5 HBW.out)
          have HB5 := hide (HB3.out.trans (hb5.mono (Nat.le_of_lt HBW.out)))
          clear hown' hgrow hown hb5
          go_wp2_with fail
          refine (takeL_any b s _ 59 _ HA5.out (by omega)).mono ?_
          rintro y w6 ⟨rfl, ha6, hm6⟩
          have HA6 : Hid (At w6 b s (pcRest (x :: r))) := ha6
          have HO6 := hide (own_mv HO5.out hm6 HBW.out)
          have HB6 := hide (HB5.out.trans hm6.below)
          have HP6 := hide HA6.out.place
          clear ha6 hm6
          go_wp2_with fail
          go_roundw
          case rel => exact ⟨pcRest (x :: r), _, HA6.out, HO6.out, by rw [← HEQ.out, HNX.out, HAD.out], by simp; omega, HB6.out⟩
          case measure =>
            have h0 := HP0.out
            have h6 := HP6.out
            have h1 := HRL.out
            have h2 := HLL.out
            rw [List.length_cons] at h0 h2
            rw [h0, h6]
            omega
      · have hfi : ¬ (acc.length : Int) ≤ 16 := by omega
        rw [pcsL_full _ _ (by omega)] at heq
        have HEQ := hide heq
        have HBL := hide hbl
        have HOW := hide hown
        have HTB := hide ha.2.tab
        clear ha heq hbl HM0 hown
        go_wp2_with fail
        refine HM.out.mono ?_
        rintro x w1 ⟨rfl, m, rfl⟩
        go_wp2_with fail
        go_ret
        refine ⟨_, rfl, ?_, HTB.out, ⟨HBL.out.1, HBL.out.2, HBL.out.3, HBL.out.4, HBL.out.5⟩⟩
        rw [← HEQ.out]; exact own_drewN HOW.out _

end Go.Proofs.YthhkhpgffamdhaaDoor.fd
