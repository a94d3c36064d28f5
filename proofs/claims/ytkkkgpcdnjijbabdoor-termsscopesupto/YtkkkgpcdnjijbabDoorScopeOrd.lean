import Derived.Test.YtkkkgpcdnjijbabDoorScopeOrdM
import Derived.Test.YtkkkgpcdnjijbabDoorErrWalks
import Derived.Test.YtkkkgpcdnjijbabDoorStrSame
namespace Go.Proofs.YtkkkgpcdnjijbabDoor.tm
open Go.ChangeShapes Go.WideShapes Go.ChangeAt Go.RowKit Go.Proofs.YtkkkgpcdnjijbabDoor.common Go.Proofs.YtkkkgpcdnjijbabDoor.bk
open Go.Proofs.YtkkkgpcdnjijbabDoor.ss (joinS tot Lies Room sc)
attribute [local go_sem ↓] Go.wp_at_zero Go.wp_at_succ

theorem tot_rev (l : List ByteArray) : tot (l.reverse ++ l) = 2 * tot l := by
  rw [ss.tot_app]
  have e : tot l.reverse = tot l := by simp [tot, List.sum_reverse]
  omega
theorem drop_rev (l : List ByteArray) (k : Nat) (h : k < l.length) : (l.drop k).reverse = (l.drop (k + 1)).reverse ++ [l[k]] := by
  rw [List.drop_eq_getElem_cons h, List.reverse_cons]
theorem errs_env {w : World} {e : Nat → Addr} (h : errw.Errs w e) (hm : ∃ m : Int, w.cell? ⟨15, 0, none⟩ = some (.int .i64 m)) : SEnv (errw.E e 1) (errw.E e 2) w := ⟨h.cell 1 (by decide), h.cell 2 (by decide), hm⟩
/-- the number of what Scopes answers -/
theorem num_sc (s : ByteArray) (w : World) (e : Nat → Addr) (h : errw.Errs w e) : ∃ k : Int, Calls Tryd.prog 14 #[scE (errw.E e 1) (errw.E e 2) s] w fun x w' => x = .returned (.int .i64 k) ∧ w' = w := by
  unfold scE
  cases areSc s with
  | false => exact ⟨2, errw.num_1 w e h⟩
  | true => cases many s with
    | false => exact ⟨0, errw.num_nil w⟩
    | true => exact ⟨3, errw.num_2 w e h⟩

set_option maxRecDepth 100000 in
set_option maxHeartbeats 6400000 in
theorem lawScopeOrder (v : Value) (l : List ByteArray) (w : World) (hl : Lies w v l) (hr : Room v) (ht : tot l ≤ 1048600) (e : Nat → Addr) (he : errw.Errs w e) (hm : ∃ m : Int, w.cell? ⟨15, 0, none⟩ = some (.int .i64 m)) :
    Calls Tryd.prog 6 #[v] w fun e w' => e = .returned (.bool true) ∧ Below w.heap.size w w' := by
  obtain ⟨i0, hi, hz0, hz1, hz2⟩ := info_parts ss.infoS
  have HE := hide he
  have HS := hide (errs_env he hm)
  have HL := hide hl
  have HR := hide hr
  obtain ⟨ov, cv, rfl, hc⟩ := hl
  have HC := hide hc
  have hn := ss.len_tot l
  have htr := tot_rev l
  have HX := hide (scopes_any (errw.E e 1) (errw.E e 2) ⟨#[120]⟩ w HS.out (by decide))
  rw [(one_x _ _).1, (one_x (errw.E e 1) (errw.E e 2)).2] at HX
  clear hc hr he hm
  go_enter Tryd.func6, Tryd.ntmps6
  go_wp2_with fail
  refine HX.out.mono ?_
  rintro x w1 ⟨v1, rfl, ho1, hb1⟩
  obtain ⟨o1, c1, rfl, hc1⟩ := ss.lies_of_own ho1
  obtain ⟨b1, p1, rfl, _, d1⟩ := hc1 0 (by decide)
  have d1' : w1.cell? ⟨b1, p1, none⟩ = some (.string ⟨#[120]⟩) := by simpa using d1
  have B1 := hide hb1
  clear hc1 d1 ho1 hb1 HX
  have hq : (((⟨#[120]⟩ : ByteArray).toList == [120]) = true) := by rw [ByteArray.toList_eq]; rfl
  have ww : IntKind.i64.wrap ((l.length : Int) - 1) = (l.length : Int) - 1 := by
    by_cases h0 : l.length = 0
    · rw [h0]; rfl
    · exact wrap_le _ (by omega) (by omega)
  go_wp2_with fail
  go_loopw [5, 6] (fun u i wr => ∃ k : Nat, k ≤ l.length ∧ i = .int .i64 ((k : Int) - 1) ∧ Hid (wr.ownsRow w.heap.size 9 1 u (l.drop k).reverse.length (sc (l.drop k).reverse)) ∧ Hid (Below w.heap.size w wr)) (fun _ i _ => (intOf i + 1).toNat)
  case atStart => exact ⟨l.length, Nat.le_refl _, rfl, by rw [List.drop_length]; exact World.ownsRow_nil _ _ _ _, B1⟩
  case round =>
    obtain ⟨k, hk, rfl, HO, HB⟩ := hrel
    cases k with
    | zero =>
      have hneg : ¬ (0 : Int) ≤ ((0 : Nat) : Int) - 1 := by decide
      have hgd : ((0 : Nat) : Int) - 1 = -1 := by decide
      have OO : Hid (wr.ownsRow w.heap.size 9 1 u5 l.reverse.length (sc l.reverse)) := by have := HO.out; rw [List.drop_zero] at this; exact this
      obtain ⟨oo, on, oc, rfl⟩ : ∃ oa n cap, u5 = .slice oa n cap := by
        rcases OO.out.2 with ⟨h, _⟩ | ⟨g, cap, cur, h, _⟩
        · exact ⟨none, 0, 0, h⟩
        · exact ⟨_, _, cap, h⟩
      clear HO
      rw [hgd]
      go_wp2_with (at_builtin; refine ss.append_strs _ rfl _ _ rfl w.heap.size _ l.reverse rfl OO.out (.slice ov l.length cv) l rfl (HL.out.below HB.out) (by unfold maxLen; rw [List.length_reverse]; omega) (by rw [List.length_reverse]; omega) HB.out.size ?_)
      intro v2 w2 ho2 hg2
      have O2 : Hid (w2.ownsRow w.heap.size 9 1 v2 (l.reverse ++ l).length (sc (l.reverse ++ l))) := by
        show w2.ownsRow _ _ _ _ _ _
        rw [List.length_append, List.length_reverse]; simpa [sc] using ho2
      have B2 : Hid (Below w.heap.size w w2) := HB.out.grown hg2 HB.out.size (own_ge OO.out)
      clear ho2 hg2 OO HB
      obtain ⟨oo, on, oc, rfl⟩ : ∃ oa n cap, v2 = .slice oa n cap := by
        rcases O2.out.2 with ⟨h, _⟩ | ⟨g, cap, cur, h, _⟩
        · exact ⟨none, 0, 0, h⟩
        · exact ⟨_, _, cap, h⟩
      have HSO := hide (scope_order l (errw.E e 1) (errw.E e 2))
      have RM := hide (ss.room_own O2.out)
      have LM := hide (ss.lies_of_own O2.out)
      have jl1 : (joinS l).length ≤ 1048600 := Nat.le_trans (ss.joinS_len l) ht
      have jl2 : (joinS (l.reverse ++ l)).length ≤ 2097200 := Nat.le_trans (ss.joinS_len _) (by omega)
      have HT1 : Hid (∀ X, Below w.heap.size w X → Calls Tryd.prog 12 #[S (joinS l)] X fun x X' => ∃ v, x = .returned (.tuple #[v, scE (errw.E e 1) (errw.E e 2) ⟨(joinS l).toArray⟩]) ∧ X'.ownsRow X.heap.size 9 1 v (scL ⟨(joinS l).toArray⟩).length (sc (scL ⟨(joinS l).toArray⟩)) ∧ Below X.heap.size X X') := fun X hX => scopes_any _ _ _ X (HS.out.below hX) (by rw [str_size]; omega)
      have HT2 : Hid (∀ X, Below w.heap.size w X → Calls Tryd.prog 12 #[S (joinS (l.reverse ++ l))] X fun x X' => ∃ v, x = .returned (.tuple #[v, scE (errw.E e 1) (errw.E e 2) ⟨(joinS l).toArray⟩]) ∧ X'.ownsRow X.heap.size 9 1 v (scL ⟨(joinS l).toArray⟩).length (sc (scL ⟨(joinS l).toArray⟩)) ∧ Below X.heap.size X X') := fun X hX => by
        have h := scopes_any (errw.E e 1) (errw.E e 2) ⟨(joinS (l.reverse ++ l)).toArray⟩ X (HS.out.below hX) (by rw [str_size]; omega)
        rw [HSO.out.1, HSO.out.2] at h
        exact h
      have HN : Hid (∀ X, Below w.heap.size w X → ∃ k : Int, Calls Tryd.prog 14 #[scE (errw.E e 1) (errw.E e 2) ⟨(joinS l).toArray⟩] X fun x w' => x = .returned (.int .i64 k) ∧ w' = X) := fun X hX => num_sc _ X e (HE.out.below hX)
      have HLL : Hid ((scL ⟨(joinS l).toArray⟩).length ≤ 4611686018427387904) := by
        show _ ≤ _
        unfold scL many
        split
        · rename_i hh
          simp at hh
          have := hh.2
          omega
        · simp
      have HTT2 : Hid (tot (l.reverse ++ l) ≤ 140737488355328) := by show _ ≤ _; omega
      clear HSO jl1 jl2 hgd hneg htr
      generalize scL ⟨(joinS l).toArray⟩ = R at *
      generalize scE (errw.E e 1) (errw.E e 2) ⟨(joinS l).toArray⟩ = E at *
      go_wp2_with fail
      refine (ss.text_any _ l w2 (HL.out.below B2.out) HR.out (by omega)).mono ?_
      rintro x w3 ⟨rfl, hb3⟩
      have B3 := hide (keepD B2.out hb3)
      have LM3 := hide (LM.out.below hb3)
      clear hb3 LM B2 O2
      go_wp2_with fail
      refine (HT1.out _ B3.out).mono ?_
      rintro x w4 ⟨v4, rfl, ho4, hb4⟩
      have B4 := hide (keepD B3.out hb4)
      have LM4 := hide (LM3.out.below hb4)
      have L4 := hide (ss.lies_of_own ho4)
      clear hb4 ho4 LM3 B3
      go_wp2_with fail
      refine (ss.text_any _ (l.reverse ++ l) w4 LM4.out RM.out HTT2.out).mono ?_
      rintro x w5 ⟨rfl, hb5⟩
      have B5 := hide (keepD B4.out hb5)
      have L5 := hide (L4.out.below hb5)
      clear hb5 LM4 B4 L4
      go_wp2_with fail
      refine (HT2.out _ B5.out).mono ?_
      rintro x w6 ⟨v6, rfl, ho6, hb6⟩
      have B6 := hide (keepD B5.out hb6)
      have LA := hide (L5.out.below hb6)
      have LB := hide (ss.lies_of_own ho6)
      clear hb6 ho6 L5 B5
      obtain ⟨k, hk⟩ := HN.out w6 B6.out
      have HK := hide hk
      clear hk HN HT1 HT2
      go_wp2_with (first
        | (go_at_call 14; refine HK.out.mono ?_; rintro x w7 ⟨rfl, rfl⟩)
        | (go_at_call 15; refine (ss.same_any _ _ R _ LA.out LB.out HLL.out).mono ?_; rintro x w8 ⟨rfl, hb8⟩; have B8 := hide (keepD B6.out hb8); clear hb8))
      go_ret
      exact ⟨rfl, B8.out⟩
    | succ k =>
      have hlt : k < l.length := by omega
      have hki : (k : Int) < (l.length : Int) := by omega
      have k0 : (0 : Int) ≤ (k : Int) := Int.natCast_nonneg _
      have hgd : ((k + 1 : Nat) : Int) - 1 = (k : Int) := by omega
      obtain ⟨b, o, rfl, hb, c0⟩ := HC.out k hlt
      have d0 := (HB.out.cell (p := ⟨b, o + k, none⟩) hb).trans c0
      have HD := hide (drop_rev l k hlt)
      have hnn : (l.drop (k + 1)).reverse.length + 1 ≤ 1048600 := by rw [List.length_reverse, List.length_drop]; omega
      have hown := HO.out
      generalize (l.drop (k + 1)).reverse = q at *
      generalize l[k] = p at *
      obtain ⟨oo, on, oc, rfl⟩ : ∃ oa n cap, u5 = .slice oa n cap := by
        rcases hown.2 with ⟨h, _⟩ | ⟨g, cap, cur, h, _⟩
        · exact ⟨none, 0, 0, h⟩
        · exact ⟨_, _, cap, h⟩
      rw [hgd]
      have hsz := HB.out.size
      go_wp2_with (at_builtin; refine wpList_append_own _ rfl _ _ 25 rfl w.heap.size 9 i0 (.string ⟨#[]⟩) 1 16 Tryd.underlying25 hi hz0 hz1 hz2 rfl (by decide) _ _ _ rfl (hown.alloc _) ⟨wr.heap.size, 0, none⟩ 1 1 [.string p] rfl rfl (bk.cell_one_new _ _ _) ?c2 ?c3 ?c4 ?c5 ?_)
      case c2 => first | rfl | (intro u hu; simp at hu; rcases hu with rfl; rfl)
      case c3 => unfold maxLen; omega
      case c4 => omega
      case c5 => first | omega | (simp; omega)
      intro v' w2 hown' hgrow _
      have R1 : Hid (w2.ownsRow w.heap.size 9 1 v' (l.drop k).reverse.length (sc (l.drop k).reverse)) := by
        show w2.ownsRow _ _ _ _ _ _
        rw [HD.out, List.length_append]
        show w2.ownsRow _ _ _ _ _ (List.map Value.string (q ++ [p]))
        rw [List.map_append]; exact hown'
      have R2 : Hid (Below w.heap.size w w2) := (HB.out.alloc hsz _).grown hgrow (by simp; omega) (own_ge hown)
      clear hown' hgrow hown
      go_wp2
      go_roundw
      case rel => exact ⟨k, by omega, by go_num, R1, R2⟩
      case measure => simp [intOf]

end Go.Proofs.YtkkkgpcdnjijbabDoor.tm
