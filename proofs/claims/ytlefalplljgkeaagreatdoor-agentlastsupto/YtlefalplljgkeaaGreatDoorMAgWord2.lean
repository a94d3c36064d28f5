import Derived.Test.YtlefalplljgkeaaGreatDoorMAgGo
import Derived.Test.YtlefalplljgkeaaGreatDoorMAgPlace
import Derived.Test.YtlefalplljgkeaaGreatDoorMAgMath
namespace Go.Proofs.YtlefalplljgkeaaGreatDoor.ag
open Go.ChangeShapes Go.WideShapes Go.ChangeAt Go.RowKit Go.Proofs.YtlefalplljgkeaaGreatDoor.common Go.Maps Go.WideElems
open Go.Proofs.YtlefalplljgkeaaGreatDoor.lst (PB Lies cl cl_app cl_len infoP lies_of_own cl_get0 cl_get1)
attribute [local go_sem ↓] Go.wp_at_zero Go.wp_at_succ

set_option maxRecDepth 100000 in
set_option maxHeartbeats 3200000 in
theorem jar_any (p mb : Nat) (x : Ax) (R : List Ck) (now : Int) (w : World) (hp : w.heap[p]? = some (agO x mb)) (hJ : Jar w mb R) (hc : ∀ c ∈ R, Cfit c) (hn : Rng64 (max now x.t)) (h1 : (still R (max now x.t)).length ≤ 1) :
    Calls Tryz.prog 13 #[ptr p, .int .i64 now] w fun e w' => ∃ v, e = .returned v ∧ w'.ownsRow w.heap.size 37 2 v ((still R (max now x.t)).map pc).length (cl ((still R (max now x.t)).map pc)) ∧ Below w.heap.size w w' := by
  obtain ⟨c0, c1, _⟩ := ag_cells hp
  have HT := hide (timeOf_any p mb x now w.drew hp)
  have HL := hide (list_any mb R (max now x.t) w.drew (hJ.turn (S := fun _ => False) ((Tn.refl _ _).drew) (fun h => h)) hc hn h1)
  clear hp hJ hc hn h1
  generalize max now x.t = t at *
  generalize (still R t).map pc = SL at *
  go_enter Tryz.func13, Tryz.ntmps13
  go_upto_region 1 with fail
  go_region_held3 (fun X => X.cell? ⟨p, 1, none⟩ = some (.map (some mb)))
    (first
      | assumption
      | exact c1)
    (first
      | (go_at_call 30; refine HT.out.mono ?_; rintro y wa ⟨rfl, h0⟩; rw [h0])
      | (go_at_call 29; refine HL.out.mono ?_; rintro y wb ⟨v, rfl, ho, bb⟩; have hS : wb.cell? ⟨p, 1, none⟩ = some (.map (some mb)) := (bb.cell (p := ⟨p, 1, none⟩) (World.block_lt_of_cell? w _ c1)).trans c1))
  have HF := hide (show wb.ownsRow w.heap.size 37 2 v SL.length (cl SL) ∧ Below w.heap.size w wb from ⟨ho, Below.trans ((Below.refl _ _).drew) bb⟩)
  clear ho bb
  go_wp2_with fail
  go_ret
  exact ⟨_, rfl, HF.out.1, HF.out.2⟩
end Go.Proofs.YtlefalplljgkeaaGreatDoor.ag

namespace Go.Proofs.YtlefalplljgkeaaGreatDoor.ag
open Go.ChangeShapes Go.WideShapes Go.ChangeAt Go.RowKit Go.Proofs.YtlefalplljgkeaaGreatDoor.common
attribute [local go_sem ↓] Go.wp_at_zero Go.wp_at_succ

/-- a word of small letters -/
def Letters (l : List UInt8) : Prop := ∀ c ∈ l, 97 ≤ c.toNat ∧ c.toNat ≤ 122
theorem place_word (W : ByteArray) (h : Letters W.data.toList) : place ((⟨#[47]⟩ : ByteArray) ++ W).data.toList = true := by
  have e : ((⟨#[47]⟩ : ByteArray) ++ W).data.toList = 47 :: W.data.toList := by rw [ByteArray.data_append]; simp
  rw [e, place_eq]
  have h3 : (47 :: W.data.toList).all okc = true := by
    rw [List.all_cons, List.all_eq_true.2 fun c hc => ?_]
    · rfl
    · have := h c hc
      unfold okc
      rw [decide_eq_true (show 33 ≤ c.toNat by omega), decide_eq_true (show c.toNat ≤ 126 by omega)]; rfl
  rw [h3]
  cases hl : W.data.toList with
  | nil => rfl
  | cons c r =>
    have := h c (by rw [hl]; simp)
    have c1 : c ≠ 47 := fun e => by rw [e] at this; revert this; decide
    have c2 : c ≠ 92 := fun e => by rw [e] at this; revert this; decide
    show (_ && (_ || (decide (c ≠ 47) && decide (c ≠ 92))) && true) = true
    rw [decide_eq_true c1, decide_eq_true c2]
    simp
theorem u8_of (c : UInt8) : Go.Proofs.YtlefalplljgkeaaGreatDoor.bk.B c = .int .u8 (c.toNat : Int) := rfl
end Go.Proofs.YtlefalplljgkeaaGreatDoor.ag

namespace Go.Proofs.YtlefalplljgkeaaGreatDoor.ag
open Go.ChangeShapes Go.WideShapes Go.ChangeAt Go.RowKit Go.Proofs.YtlefalplljgkeaaGreatDoor.common Go.Proofs.YtlefalplljgkeaaGreatDoor.bk
attribute [local go_sem ↓] Go.wp_at_zero Go.wp_at_succ

theorem info8w : (Tryz.prog.info? 5).map (fun i => (i.zero, i.size, i.bytes)) = some (some (.int .u8 0), 1, 1) := by kernel_rfl
set_option maxRecDepth 100000 in
set_option maxHeartbeats 1600000 in
theorem word_any (s : ByteArray) (w : World) (hs : s.size ≤ reachBytes) :
    Calls Tryz.prog 6 #[.string s] w fun e w' => ∃ W : ByteArray, e = .returned (.string W) ∧ Letters W.data.toList ∧ W.size ≤ s.size + 1 ∧ 0 < W.size ∧ Below w.heap.size w w' := by
  unfold reachBytes at hs
  obtain ⟨i0, hi, hz0, hz1, hz2⟩ := info_parts info8w
  go_enter Tryz.func6, Tryz.ntmps6
  go_wp2_with fail
  go_loopw [3, 4] (fun v i wr => ∃ (k : Nat) (l : List UInt8) (u : Value), k ≤ s.size ∧ i = .int .i64 k ∧ u = v ∧ wr.ownsRow w.heap.size 5 1 u l.length (l.map B) ∧ Hid (Letters l) ∧ l.length ≤ k ∧ Below w.heap.size w wr) (fun _ i _ => s.size - (intOf i).toNat)
  case atStart => exact ⟨0, [], _, Nat.zero_le _, rfl, rfl, World.ownsRow_nil _ _ _ _, (fun c hc => absurd hc (by simp)), Nat.le_refl _, Below.refl _ _⟩
  case round =>
    obtain ⟨k, l, u, hk, rfl, hu, hown, HL, hlk, hnx⟩ := hrel
    subst hu
    have hsz := hnx.size
    by_cases hlt : k < s.size
    · have hki : (k : Int) < (s.size : Int) := by omega
      have k0 : (0 : Int) ≤ (k : Int) := Int.natCast_nonneg _
      by_cases hc : 97 ≤ s[k].toNat ∧ s[k].toNat ≤ 122
      · obtain ⟨h1, h2⟩ := hc
        have d1 : decide (97 ≤ (s[k].toNat : Int)) = true := decide_eq_true (by omega)
        have d2 : decide ((s[k].toNat : Int) ≤ 122) = true := decide_eq_true (by omega)
        have e1 : 97 ≤ (s[k].toNat : Int) := by omega
        have e2 : (s[k].toNat : Int) ≤ 122 := by omega
        have HL1 : Hid (Letters (l ++ [s[k]])) := fun c hc => by
          rcases List.mem_append.1 hc with hc | hc
          · exact HL.out c hc
          · simp at hc; rw [hc]; exact ⟨h1, h2⟩
        go_wp2_with (at_builtin; refine wpList_append_own _ rfl _ _ 60 rfl w.heap.size 5 i0 (.int .u8 0) 1 1 Tryz.underlying60 hi hz0 hz1 hz2 rfl (by decide) _ _ _ rfl (hown.alloc _) ⟨wr.heap.size, 0, none⟩ 1 1 [B s[k]] rfl rfl ?c1 ?c2 ?c3 ?c4 ?c5 ?_)
        case c1 => exact cell_one_new _ _ _
        case c2 => intro u hu; simp at hu; subst hu; rfl
        case c3 => unfold maxLen; omega
        case c4 => omega
        case c5 => simp; omega
        intro v' w1 hown' hgrow _
        have R1 : w1.ownsRow w.heap.size 5 1 v' (l ++ [s[k]]).length ((l ++ [s[k]]).map B) := by
          rw [List.map_append, List.length_append]; exact hown'
        have R2 : Below w.heap.size w w1 := by
          refine (hnx.alloc hsz _).grown hgrow (by simp; omega) ?_
          exact own_ge hown
        clear hown' hgrow hown
        have H1 := hide R1
        have H2 := hide R2
        clear R1 R2
        go_wp2
        go_roundw
        case rel => exact ⟨k + 1, l ++ [s[k]], _, by omega, by go_num, rfl, H1.out, HL1, by simp; omega, H2.out⟩
        case measure => simp [intOf]; omega
      · have H1 := hide hown
        have H2 := hide hnx
        clear hown hnx
        have hcase : ¬ 97 ≤ (s[k].toNat : Int) ∨ (97 ≤ (s[k].toNat : Int) ∧ ¬ (s[k].toNat : Int) ≤ 122) := by omega
        rcases hcase with e1 | ⟨e1, e2⟩
        · have d1 : decide (97 ≤ (s[k].toNat : Int)) = false := decide_eq_false e1
          go_wp2_with fail
          go_roundw
          case rel => exact ⟨k + 1, l, _, by omega, by go_num, rfl, H1.out, HL, by omega, H2.out⟩
          case measure => simp [intOf]; omega
        · have d1 : decide (97 ≤ (s[k].toNat : Int)) = true := decide_eq_true e1
          have d2 : decide ((s[k].toNat : Int) ≤ 122) = false := decide_eq_false e2
          go_wp2_with fail
          go_roundw
          case rel => exact ⟨k + 1, l, _, by omega, by go_num, rfl, H1.out, HL, by omega, H2.out⟩
          case measure => simp [intOf]; omega
    · obtain rfl : k = s.size := by omega
      obtain ⟨oa, cap, rfl⟩ : ∃ oa cap, u = .slice oa l.length cap := by
        rcases hown.2 with ⟨rfl, h0⟩ | ⟨g, cap, cur, rfl, _⟩
        · exact ⟨none, 0, by rw [h0]⟩
        · exact ⟨_, cap, rfl⟩
      have H2 := hide hnx
      by_cases hz : l.length = 0
      · have hzi : (l.length : Int) = 0 := by omega
        clear hown hnx
        go_wp2_with fail
        go_ret
        exact ⟨⟨#[97]⟩, rfl, fun c hc => by simp at hc; rw [hc]; decide, by show 1 ≤ _; omega, by decide, H2.out⟩
      · have hzi : ¬ (l.length : Int) = 0 := by omega
        have hconv := conv_own hown rfl
        clear hown hnx
        go_wp2_with fail
        go_ret
        exact ⟨_, rfl, HL.out, by show l.toArray.size ≤ _; simp; omega, by show 0 < l.toArray.size; simp; omega, H2.out⟩
end Go.Proofs.YtlefalplljgkeaaGreatDoor.ag
