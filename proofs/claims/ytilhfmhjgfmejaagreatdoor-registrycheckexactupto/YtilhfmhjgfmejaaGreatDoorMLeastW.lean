import Derived.Test.YtilhfmhjgfmejaaGreatDoorMScopeWords
import Derived.Test.YtilhfmhjgfmejaaGreatDoorMTmNames
import Derived.Laws.Cover1
import Derived.Sort.Walk0
namespace Go.Proofs.YtilhfmhjgfmejaaGreatDoor.tm
open Go.ChangeShapes Go.WideShapes Go.ChangeAt Go.RowKit Go.Proofs.YtilhfmhjgfmejaaGreatDoor.common Go.Proofs.YtilhfmhjgfmejaaGreatDoor.bk
open Go.Proofs.YtilhfmhjgfmejaaGreatDoor.ss (sc)
attribute [local go_sem ↓] Go.wp_at_zero Go.wp_at_succ

/-- what stands from f up to k -/
def cutB (s : ByteArray) (f k : Nat) : ByteArray := s.extract f k
theorem cut_list (s : ByteArray) (f k : Nat) : (cutB s f k).data.toList = (s.data.toList.drop f).take (k - f) := by
  unfold cutB; simp
theorem cut_snoc (s : ByteArray) (f k : Nat) (hf : f ≤ k) (h : k < s.size) : (cutB s f (k + 1)).data.toList = (cutB s f k).data.toList ++ [s[k]] := by
  rw [cut_list, cut_list, show k + 1 - f = (k - f) + 1 by omega]
  have hl : k - f < (s.data.toList.drop f).length := by rw [List.length_drop, len_list]; omega
  rw [List.take_succ_eq_append_getElem hl, List.getElem_drop]
  congr 2
  have : f + (k - f) = k := by omega
  simp only [this]; rfl
theorem cut_none (s : ByteArray) (k : Nat) : (cutB s k k).data.toList = [] := by rw [cut_list, Nat.sub_self, List.take_zero]

set_option maxRecDepth 100000 in
set_option maxHeartbeats 3200000 in
theorem refParts_any (s : ByteArray) (w : World) (hs : s.size ≤ 4294967200) :
    Calls Tryz.prog 100 #[.string s] w fun e w' => ∃ v, e = .returned v ∧ w'.ownsRow w.heap.size 9 1 v (tsq.parts 32 s).length (sc (tsq.parts 32 s)) ∧ Below w.heap.size w w' := by
  obtain ⟨i0, hi, hz0, hz1, hz2⟩ := info_parts ss.infoS
  have HP : Hid (tsq.parts 32 s = (Tm.split 32 s.data.toList).map fun l => ⟨l.toArray⟩) := rfl
  go_enter Tryz.func100, Tryz.ntmps100
  go_wp2_with fail
  go_loopw [3, 4, 5] (fun v x i wr => ∃ (k f : Nat) (L : List ByteArray), k ≤ s.size ∧ i = .int .i64 k ∧ x = .int .i64 f ∧ f ≤ k ∧ L.length ≤ k ∧
      Hid (tsq.parts 32 s = L ++ (pre (cutB s f k).data.toList (Tm.split 32 (s.data.toList.drop k))).map fun l => ⟨l.toArray⟩) ∧ Hid (wr.ownsRow w.heap.size 9 1 v L.length (sc L)) ∧ Hid (Below w.heap.size w wr)) (fun _ _ i _ => s.size - (intOf i).toNat)
  case atStart => exact ⟨0, 0, [], Nat.zero_le _, rfl, rfl, Nat.le_refl _, Nat.le_refl _, by show _ = _; rw [HP.out, List.drop_zero, cut_none]; show _ = [] ++ _; rw [List.nil_append, pre_nil], World.ownsRow_nil _ _ _ _, Below.refl _ _⟩
  case round =>
    obtain ⟨k, f, L, hk, rfl, rfl, hq, hL, HI, HO, HB⟩ := hrel
    obtain ⟨oo, on, oc, rfl⟩ : ∃ oa n cap, u3 = .slice oa n cap := by
      rcases HO.out.2 with ⟨h, _⟩ | ⟨g, cap, cur, h, _⟩
      · exact ⟨none, 0, 0, h⟩
      · exact ⟨_, _, cap, h⟩
    have hsz := HB.out.size
    have hown := HO.out
    have k0 : (0 : Int) ≤ (k : Int) := Int.natCast_nonneg _
    have f0 : (0 : Int) ≤ (f : Int) := Int.natCast_nonneg _
    have fk : (f : Int) ≤ (k : Int) := by omega
    have ks : (k : Int) ≤ (s.size : Int) := by omega
    have fs : (f : Int) ≤ (s.size : Int) := by omega
    by_cases hlt : k < s.size
    · have hki : (k : Int) < (s.size : Int) := by omega
      have HD := hide (drop_at s k hlt)
      by_cases hb : s[k].toNat = 32
      · have hbi : (s[k].toNat : Int) = 32 := by omega
        have hb8 : s[k] = 32 := UInt8.toNat_inj.1 hb
        have HN : Hid (tsq.parts 32 s = (L ++ [s.extract f k]) ++ (pre (cutB s (k + 1) (k + 1)).data.toList (Tm.split 32 (s.data.toList.drop (k + 1)))).map fun l => ⟨l.toArray⟩) := by
          show _ = _
          rw [HI.out, HD.out, hb8, pre_sep, List.map_cons, cut_none, List.append_assoc]; rfl
        clear hb8 HI
        go_wp2_with (at_builtin; refine wpList_append_own _ rfl _ _ 43 rfl w.heap.size 9 i0 (.string ⟨#[]⟩) 1 16 Tryz.underlying43 hi hz0 hz1 hz2 rfl (by decide) _ _ _ rfl (hown.alloc _) ⟨wr.heap.size, 0, none⟩ 1 1 [.string (s.extract f k)] rfl rfl (bk.cell_one_new _ _ _) ?c2 ?c3 ?c4 ?c5 ?_)
        case c2 => first | rfl | (intro u hu; simp at hu; rcases hu with rfl; rfl)
        case c3 => unfold maxLen; omega
        case c4 => omega
        case c5 => first | omega | (simp; omega)
        intro v' w2 hown' hgrow _
        have R1 : Hid (w2.ownsRow w.heap.size 9 1 v' (L ++ [s.extract f k]).length (sc (L ++ [s.extract f k]))) := by
          show w2.ownsRow _ _ _ _ _ _
          rw [List.length_append]
          show w2.ownsRow _ _ _ _ _ (List.map Value.string (L ++ [s.extract f k]))
          rw [List.map_append]; exact hown'
        have R2 : Hid (Below w.heap.size w w2) := (HB.out.alloc hsz _).grown hgrow (by simp; omega) (own_ge hown)
        clear hown' hgrow hown
        go_wp2
        go_roundw
        case rel => exact ⟨k + 1, k + 1, L ++ [s.extract f k], by omega, by go_num, by go_num, Nat.le_refl _, by rw [List.length_append]; simp; omega, HN, R1, R2⟩
        case measure => simp [intOf]; omega
      · have hbi : ¬ (s[k].toNat : Int) = 32 := by omega
        have hb8 : s[k] ≠ 32 := fun e => hb (by rw [e]; rfl)
        have HN : Hid (tsq.parts 32 s = L ++ (pre (cutB s f (k + 1)).data.toList (Tm.split 32 (s.data.toList.drop (k + 1)))).map fun l => ⟨l.toArray⟩) := by
          show _ = _
          rw [HI.out, HD.out, pre_not 32 _ hb8, cut_snoc s f k hq hlt]
        clear hb8 HI hown
        go_wp2_with fail
        go_roundw
        case rel => exact ⟨k + 1, f, L, by omega, by go_num, rfl, by omega, by omega, HN, HO, HB⟩
        case measure => simp [intOf]; omega
    · obtain rfl : k = s.size := by omega
      have HN : Hid (tsq.parts 32 s = L ++ [s.extract f s.size]) := by
        show _ = _
        rw [HI.out, List.drop_eq_nil_of_le (by rw [len_list]; exact Nat.le_refl _), pre_end]; rfl
      clear HI
      go_wp2_with (at_builtin; refine wpList_append_own _ rfl _ _ 43 rfl w.heap.size 9 i0 (.string ⟨#[]⟩) 1 16 Tryz.underlying43 hi hz0 hz1 hz2 rfl (by decide) _ _ _ rfl (hown.alloc _) ⟨wr.heap.size, 0, none⟩ 1 1 [.string (s.extract f s.size)] rfl rfl (bk.cell_one_new _ _ _) ?c2 ?c3 ?c4 ?c5 ?_)
      case c2 => first | rfl | (intro u hu; simp at hu; rcases hu with rfl; rfl)
      case c3 => unfold maxLen; omega
      case c4 => omega
      case c5 => first | omega | (simp; omega)
      intro v' w2 hown' hgrow _
      have R1 : Hid (w2.ownsRow w.heap.size 9 1 v' (tsq.parts 32 s).length (sc (tsq.parts 32 s))) := by
        show w2.ownsRow _ _ _ _ _ _
        rw [HN.out, List.length_append]
        show w2.ownsRow _ _ _ _ _ (List.map Value.string (L ++ [s.extract f s.size]))
        rw [List.map_append]; exact hown'
      have R2 : Hid (Below w.heap.size w w2) := (HB.out.alloc hsz _).grown hgrow (by simp; omega) (own_ge hown)
      clear hown' hgrow hown
      go_wp2
      go_ret
      exact ⟨_, rfl, R1.out, R2.out⟩

theorem all_both (l : List UInt8) (p q : UInt8 → Bool) : (l.all p && l.all q) = l.all fun b => p b && q b := by
  induction l with
  | nil => rfl
  | cons x r ih => simp only [List.all_cons, ← ih]; cases p x <;> cases q x <;> cases r.all p <;> cases r.all q <;> rfl
def noQ (b : UInt8) : Bool := decide (b.toNat ≠ 34) && decide (b.toNat ≠ 92)
theorem isSc_eq (s : ByteArray) : isSc s = (s.data.toList.all noQ && Tm.word 32 (Tm.btw 33 126) s.data.toList) := by
  unfold isSc Tm.word
  have e : s.data.toList.all scB = (s.data.toList.all (Tm.btw 33 126) && s.data.toList.all noQ) := by
    rw [all_both]
    congr 1
    funext b
    unfold scB noQ
    rw [Bool.and_assoc]
  rw [e]
  cases s.data.toList.all noQ <;> cases s.data.toList.all (Tm.btw 33 126) <;> simp

set_option maxRecDepth 100000 in
set_option maxHeartbeats 1600000 in
theorem refScope_any (s : ByteArray) (w : World) (hs : s.size ≤ 4611686018427387904) :
    Calls Tryz.prog 101 #[.string s] w fun e w' => e = .returned (.bool (isSc s)) ∧ w' = w := by
  have HT : Hid (∀ k (_ : k < s.size), (s.data.toList.take (k + 1)).all noQ = ((s.data.toList.take k).all noQ && noQ s[k])) := fun k h => Tm.all_take _ _ k (by simpa using h)
  have HE : Hid (s.data.toList.take s.size = s.data.toList) := take_all s
  have HA : Hid (∀ k, (s.data.toList.take k).all noQ = false → s.data.toList.all noQ = false) := fun k h => Tm.all_short _ _ k h
  have HQ := hide (isSc_eq s)
  have HW := hide (fun W => refWithin_any s 32 33 126 W hs)
  generalize Tm.word 32 (Tm.btw 33 126) s.data.toList = t at *
  go_enter Tryz.func101, Tryz.ntmps101
  go_wp2_with fail
  go_loopw [3] (fun i wr => ∃ k : Nat, k ≤ s.size ∧ i = .int .i64 k ∧ Hid ((s.data.toList.take k).all noQ = true) ∧ wr = w) (fun i _ => s.size - (intOf i).toNat)
  case atStart => exact ⟨0, Nat.zero_le _, rfl, by show _ = _; simp, rfl⟩
  case round =>
    obtain ⟨k, hk, rfl, HAK, rfl⟩ := hrel
    by_cases hlt : k < s.size
    · have hki : (k : Int) < (s.size : Int) := by omega
      have HTK := hide (HT.out k hlt)
      have eb : ∀ c : UInt8, noQ c = (decide (c.toNat ≠ 34) && decide (c.toNat ≠ 92)) := fun _ => rfl
      have HB := hide (eb s[k])
      clear eb
      by_cases h1 : s[k].toNat = 34
      · have h1i : (s[k].toNat : Int) = 34 := by omega
        have HR : Hid (s.data.toList.all noQ = false) := HA.out (k + 1) (by rw [HTK.out, HB.out, h1]; simp)
        go_wp2_with fail
        go_ret
        exact ⟨by rw [HQ.out, HR.out]; rfl, rfl⟩
      · have h1i : ¬ (s[k].toNat : Int) = 34 := by omega
        have h1b : ((s[k].toNat : Int) == 34) = false := beq_false_of_ne h1i
        by_cases h2 : s[k].toNat = 92
        · have h2i : (s[k].toNat : Int) = 92 := by omega
          have HR : Hid (s.data.toList.all noQ = false) := HA.out (k + 1) (by rw [HTK.out, HB.out, h2]; simp)
          go_wp2_with fail
          go_ret
          exact ⟨by rw [HQ.out, HR.out]; rfl, rfl⟩
        · have h2i : ¬ (s[k].toNat : Int) = 92 := by omega
          have h2b : ((s[k].toNat : Int) == 92) = false := beq_false_of_ne h2i
          have HR : Hid ((s.data.toList.take (k + 1)).all noQ = true) := by
            show _ = _
            rw [HTK.out, HB.out, HAK.out, decide_eq_true h1, decide_eq_true h2]; rfl
          go_wp2_with fail
          go_roundw
          case rel => exact ⟨k + 1, by omega, by go_num, HR, by trivial⟩
          case measure => simp [intOf]; omega
    · obtain rfl : k = s.size := by omega
      rw [HE.out] at HAK
      go_wp2_with (go_at_call 75; refine (HW.out _).mono ?_; rintro x w2 ⟨rfl, rfl⟩)
      go_ret
      exact ⟨by rw [HQ.out, HAK.out]; rfl, rfl⟩

end Go.Proofs.YtilhfmhjgfmejaaGreatDoor.tm

namespace Go.Proofs.YtilhfmhjgfmejaaGreatDoor.tm
open Go.ChangeShapes Go.WideShapes Go.ChangeAt Go.RowKit Go.Proofs.YtilhfmhjgfmejaaGreatDoor.common Go.Proofs.YtilhfmhjgfmejaaGreatDoor.bk
open Go.Proofs.YtilhfmhjgfmejaaGreatDoor.ss (sc Lies)
attribute [local go_sem ↓] Go.wp_at_zero Go.wp_at_succ

/-- which texts are above the last one -/
def above (last : ByteArray) (first : Bool) (x : ByteArray) : Bool := first || decide (last.data.toList < x.data.toList)
/-- what is known of the least: none is above, or it is one of them, and none of them is below it -/
structure Least (l : List ByteArray) (last : ByteArray) (first : Bool) (best : ByteArray) (found : Bool) : Prop where
  no : found = false → ∀ x ∈ l, above last first x = false
  mem : found = true → best ∈ l
  ab : found = true → above last first best = true
  low : found = true → ∀ x ∈ l, above last first x = true → ¬ x.data.toList < best.data.toList

theorem less_eq (a b : ByteArray) : Op.bytesLess a.toList b.toList = decide (a.data.toList < b.data.toList) := by
  rw [Go.Proofs.bytesLess_eq, ByteArray.toList_eq, ByteArray.toList_eq]
theorem gtr_eq (a b : ByteArray) : (Op.bytesLess a.toList b.toList || a.toList == b.toList) = !decide (b.data.toList < a.data.toList) := by
  rw [less_eq, ByteArray.toList_eq, ByteArray.toList_eq]
  by_cases h : b.data.toList < a.data.toList
  · rw [decide_eq_true h]
    have h1 : ¬ a.data.toList < b.data.toList := fun k => Tm.lt_irr _ (Tm.lt_tr h k)
    have h2 : a.data.toList ≠ b.data.toList := fun e => by rw [e] at h; exact Tm.lt_irr _ h
    rw [decide_eq_false h1, beq_false_of_ne h2]; rfl
  · rw [decide_eq_false h]
    by_cases e : a.data.toList = b.data.toList
    · simp [e]
    · have : a.data.toList < b.data.toList := Tm.lt_of (List.not_lt.1 h) e
      rw [decide_eq_true this]; rfl

theorem Least.take_no {l : List ByteArray} {last best : ByteArray} {first found : Bool} {k : Nat} (h : k < l.length) (H : Least (l.take k) last first best found) (hx : above last first l[k] = false ∨ (found = true ∧ ¬ l[k].data.toList < best.data.toList)) : Least (l.take (k + 1)) last first best found := by
  have ht := ss.takeS l k h
  refine ⟨fun hf x hx' => ?_, fun hf => ?_, H.ab, fun hf x hx' ha => ?_⟩
  · rw [ht] at hx'
    rcases List.mem_append.1 hx' with m | m
    · exact H.no hf x m
    · obtain rfl : x = l[k] := by simpa using m
      rcases hx with h1 | ⟨h1, _⟩
      · exact h1
      · rw [hf] at h1; cases h1
  · rw [ht]; exact List.mem_append_left _ (H.mem hf)
  · rw [ht] at hx'
    rcases List.mem_append.1 hx' with m | m
    · exact H.low hf x m ha
    · obtain rfl : x = l[k] := by simpa using m
      rcases hx with h1 | ⟨_, h1⟩
      · rw [ha] at h1; cases h1
      · exact h1
theorem Least.take_yes {l : List ByteArray} {last best : ByteArray} {first found : Bool} {k : Nat} (h : k < l.length) (H : Least (l.take k) last first best found) (ha : above last first l[k] = true) (hb : found = false ∨ l[k].data.toList < best.data.toList) : Least (l.take (k + 1)) last first l[k] true := by
  have ht := ss.takeS l k h
  refine ⟨fun hf => (by cases hf), fun _ => (by rw [ht]; exact List.mem_append_right _ (List.mem_singleton.2 rfl)), fun _ => ha, fun _ x hx' hax => ?_⟩
  rw [ht] at hx'
  rcases List.mem_append.1 hx' with m | m
  · cases found with
    | false => rw [H.no rfl x m] at hax; cases hax
    | true =>
      rcases hb with hb | hb
      · cases hb
      · intro hlt
        exact H.low rfl x m hax (Tm.lt_tr hlt hb)
  · obtain rfl : x = l[k] := by simpa using m
    exact Tm.lt_irr _

set_option maxRecDepth 100000 in
set_option maxHeartbeats 6400000 in
theorem least_any (v : Value) (l : List ByteArray) (last : ByteArray) (first : Bool) (w : World) (hl : Lies w v l) (hs : l.length ≤ 4611686018427387904) :
    Calls Tryz.prog 102 #[v, .string last, .bool first] w fun e w' => ∃ best found, e = .returned (.tuple #[.string best, .bool found]) ∧ Least l last first best found ∧ w' = w := by
  obtain ⟨oa, cap, rfl, hc⟩ := hl
  have HC := hide hc
  clear hc
  go_enter Tryz.func102, Tryz.ntmps102
  go_wp2_with fail
  go_loopw [8, 9, 10] (fun f b i wr => ∃ (k : Nat) (best : ByteArray) (found : Bool), k ≤ l.length ∧ i = .int .i64 k ∧ b = .string best ∧ f = .bool found ∧ Hid (Least (l.take k) last first best found) ∧ wr = w) (fun _ _ i _ => l.length - (intOf i).toNat)
  case atStart => exact ⟨0, ⟨#[]⟩, false, Nat.zero_le _, rfl, rfl, rfl, ⟨fun _ x h => (by simp at h), fun h => (by cases h), fun h => (by cases h), fun h => (by cases h)⟩, rfl⟩
  case round =>
    obtain ⟨k, best, found, hk, rfl, rfl, rfl, HL, rfl⟩ := hrel
    by_cases hlt : k < l.length
    · have hki : (k : Int) < (l.length : Int) := by omega
      obtain ⟨b, o, rfl, hb, c0⟩ := HC.out k hlt
      have HY : Hid (above last first l[k] = true → (found = false ∨ l[k].data.toList < best.data.toList) → Least (l.take (k + 1)) last first l[k] true) := fun h1 h2 => Least.take_yes hlt HL.out h1 h2
      have HN : Hid ((above last first l[k] = false ∨ (found = true ∧ ¬ l[k].data.toList < best.data.toList)) → Least (l.take (k + 1)) last first best found) := fun h => Least.take_no hlt HL.out h
      have HG := hide (gtr_eq l[k] last)
      have HS := hide (less_eq l[k] best)
      generalize l[k] = p at *
      clear HL
      have HAB : Hid (above last first p = (first || decide (last.data.toList < p.data.toList))) := rfl
      cases first with
      | true =>
        cases found with
        | false =>
          have R := hide (HY.out rfl (Or.inl rfl))
          go_wp2_with fail
          go_roundw
          case rel => exact ⟨k + 1, p, true, by omega, by go_num, rfl, rfl, R, by trivial⟩
          case measure => simp [intOf]; omega
        | true =>
          by_cases hlb : p.data.toList < best.data.toList
          · have R := hide (HY.out rfl (Or.inr hlb))
            have hq : Op.bytesLess p.toList best.toList = true := by rw [HS.out]; exact decide_eq_true hlb
            clear hlb
            go_wp2_with fail
            go_roundw
            case rel => exact ⟨k + 1, p, true, by omega, by go_num, rfl, rfl, R, by trivial⟩
            case measure => simp [intOf]; omega
          · have R := hide (HN.out (Or.inr ⟨rfl, hlb⟩))
            have hq : Op.bytesLess p.toList best.toList = false := by rw [HS.out]; exact decide_eq_false hlb
            clear hlb
            go_wp2_with fail
            go_roundw
            case rel => exact ⟨k + 1, best, true, by omega, by go_num, rfl, rfl, R, by trivial⟩
            case measure => simp [intOf]; omega
      | false =>
        by_cases hla : last.data.toList < p.data.toList
        · have hg : (Op.bytesLess p.toList last.toList || p.toList == last.toList) = false := by rw [HG.out, decide_eq_true hla]; rfl
          have hg1 : Op.bytesLess p.toList last.toList = false := (Bool.or_eq_false_iff.1 hg).1
          have hg2 : (p.toList == last.toList) = false := (Bool.or_eq_false_iff.1 hg).2
          have ha : above last false p = true := by rw [HAB.out]; exact decide_eq_true hla
          have HAT := hide ha
          clear ha hla hg
          cases found with
          | false =>
            have R := hide (HY.out HAT.out (Or.inl rfl))
            go_wp2_with fail
            go_roundw
            case rel => exact ⟨k + 1, p, true, by omega, by go_num, rfl, rfl, R, by trivial⟩
            case measure => simp [intOf]; omega
          | true =>
            by_cases hlb : p.data.toList < best.data.toList
            · have R := hide (HY.out HAT.out (Or.inr hlb))
              have hq : Op.bytesLess p.toList best.toList = true := by rw [HS.out]; exact decide_eq_true hlb
              clear hlb
              go_wp2_with fail
              go_roundw
              case rel => exact ⟨k + 1, p, true, by omega, by go_num, rfl, rfl, R, by trivial⟩
              case measure => simp [intOf]; omega
            · have R := hide (HN.out (Or.inr ⟨rfl, hlb⟩))
              have hq : Op.bytesLess p.toList best.toList = false := by rw [HS.out]; exact decide_eq_false hlb
              clear hlb
              go_wp2_with fail
              go_roundw
              case rel => exact ⟨k + 1, best, true, by omega, by go_num, rfl, rfl, R, by trivial⟩
              case measure => simp [intOf]; omega
        · have hg : (Op.bytesLess p.toList last.toList || p.toList == last.toList) = true := by rw [HG.out, decide_eq_false hla]; rfl
          have ha : above last false p = false := by rw [HAB.out]; exact decide_eq_false hla
          have R := hide (HN.out (Or.inl ha))
          clear ha hla
          go_wp2_with fail
          go_roundw
          case rel => exact ⟨k + 1, best, found, by omega, by go_num, rfl, rfl, R, by trivial⟩
          case measure => simp [intOf]; omega
    · obtain rfl : k = l.length := by omega
      have R : Hid (Least l last first best found) := by have := HL.out; rw [List.take_length] at this; exact this
      clear HL
      go_wp2_with fail
      exact bodyPost_ret (results_tmp2 rfl _ _ _) rfl ⟨best, found, rfl, R.out, rfl⟩

end Go.Proofs.YtilhfmhjgfmejaaGreatDoor.tm
