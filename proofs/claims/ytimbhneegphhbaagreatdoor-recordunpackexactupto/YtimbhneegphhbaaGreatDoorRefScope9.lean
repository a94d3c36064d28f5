import Derived.Test.YtimbhneegphhbaaGreatDoorScopeOrdM
import Derived.Test.YtimbhneegphhbaaGreatDoorTmNames
namespace Go.Proofs.YtimbhneegphhbaaGreatDoor.tm
open Go.RowKit Go.Proofs.YtimbhneegphhbaaGreatDoor.common Go.Proofs.YtimbhneegphhbaaGreatDoor.bk
open Go.Proofs.YtimbhneegphhbaaGreatDoor.ss (joinS tot)

/-- a word ahead of the first -/
def pre (w : List UInt8) : List (List UInt8) → List (List UInt8)
  | h :: t => (w ++ h) :: t
  | [] => [w]
theorem pre_nil (c : UInt8) (l : List UInt8) : pre [] (Tm.split c l) = Tm.split c l := by
  cases h : Tm.split c l with
  | nil => exact absurd h (Tm.split_ne c l)
  | cons u t => rfl
theorem pre_sep (c : UInt8) (w r : List UInt8) : pre w (Tm.split c (c :: r)) = w :: pre [] (Tm.split c r) := by
  rw [pre_nil, Tm.split_cons, if_pos rfl]
  show (w ++ []) :: _ = _
  rw [List.append_nil]
theorem pre_not (c x : UInt8) (h : x ≠ c) (w r : List UInt8) : pre w (Tm.split c (x :: r)) = pre (w ++ [x]) (Tm.split c r) := by
  rw [Tm.split_cons, if_neg h]
  cases hs : Tm.split c r with
  | nil => exact absurd hs (Tm.split_ne c r)
  | cons u t => show (w ++ x :: u) :: t = (w ++ [x] ++ u) :: t; simp
theorem pre_end (c : UInt8) (w : List UInt8) : pre w (Tm.split c []) = [w] := by
  show [w ++ []] = _; rw [List.append_nil]

theorem mem_riseB {zs : List ByteArray} {x : ByteArray} : x ∈ riseB zs ↔ x ∈ zs := by
  unfold riseB
  rw [List.mem_map]
  constructor
  · rintro ⟨y, hy, rfl⟩
    have := ((Tm.rise_spec (raw zs)).2 y).1 hy
    unfold raw at this
    obtain ⟨z, hz, rfl⟩ := List.mem_map.1 this
    exact hz
  · intro h
    refine ⟨x.data.toList, ((Tm.rise_spec (raw zs)).2 _).2 ?_, rfl⟩
    unfold raw
    exact List.mem_map.2 ⟨x, h, rfl⟩
theorem riseB_lt (zs : List ByteArray) : (riseB zs).Pairwise fun a b => a.data.toList < b.data.toList := by
  unfold riseB
  rw [List.pairwise_map]
  exact (Tm.rise_spec (raw zs)).1
/-- what is known of scopes that were read -/
structure Good (s : ByteArray) (l : List ByteArray) : Prop where
  pos : 1 ≤ l.length
  most : l.length ≤ 16
  lt : l.Pairwise fun a b => a.data.toList < b.data.toList
  sc : ∀ x ∈ l, isSc x = true
  mem : ∀ x, x ∈ l ↔ x ∈ tsq.parts 32 s
end Go.Proofs.YtimbhneegphhbaaGreatDoor.tm

namespace Go.Proofs.YtimbhneegphhbaaGreatDoor.tm
open Go.ChangeShapes Go.WideShapes Go.ChangeAt Go.RowKit Go.Proofs.YtimbhneegphhbaaGreatDoor.common Go.Proofs.YtimbhneegphhbaaGreatDoor.bk
open Go.Proofs.YtimbhneegphhbaaGreatDoor.ss (sc)
attribute [local go_sem ↓] Go.wp_at_zero Go.wp_at_succ

theorem drop_at (s : ByteArray) (k : Nat) (h : k < s.size) : s.data.toList.drop k = s[k] :: s.data.toList.drop (k + 1) := List.drop_eq_getElem_cons (by simpa using h)
end Go.Proofs.YtimbhneegphhbaaGreatDoor.tm

namespace Go.Proofs.YtimbhneegphhbaaGreatDoor.tm
open Go.ChangeShapes Go.WideShapes Go.ChangeAt Go.RowKit Go.Proofs.YtimbhneegphhbaaGreatDoor.common Go.Proofs.YtimbhneegphhbaaGreatDoor.bk
open Go.Proofs.YtimbhneegphhbaaGreatDoor.ss (sc)
attribute [local go_sem ↓] Go.wp_at_zero Go.wp_at_succ

/-- what stands from f up to k -/
def cutB (s : ByteArray) (f k : Nat) : ByteArray := s.extract f k
theorem cut_list (s : ByteArray) (f k : Nat) : (cutB s f k).data.toList = (s.data.toList.drop f).take (k - f) := by
  unfold cutB; simp
theorem cut_snoc (s : ByteArray) (f k : Nat) (hf : f ≤ k) (h : k < s.size) : (cutB s f (k + 1)).data.toList = (cutB s f k).data.toList ++ [s[k]] := by
  rw [cut_list, cut_list, show k + 1 - f = (k - f) + 1 by omega]
  have hl : k - f < (s.data.toList.drop f).length := by rw [List.length_drop, len_list]; omega
  rw [List.take_succ_eq_append_getElem hl, List.getElem_drop]
  congr 2
  have : f + (k - f) = k := by omega
  simp only [this]; rfl
theorem cut_none (s : ByteArray) (k : Nat) : (cutB s k k).data.toList = [] := by rw [cut_list, Nat.sub_self, List.take_zero]

set_option maxRecDepth 100000 in
set_option maxHeartbeats 3200000 in
theorem refParts_any (s : ByteArray) (w : World) (hs : s.size ≤ 4294967200) :
    Calls Tryz.prog 94 #[.string s] w fun e w' => ∃ v, e = .returned v ∧ w'.ownsRow w.heap.size 9 1 v (tsq.parts 32 s).length (sc (tsq.parts 32 s)) ∧ Below w.heap.size w w' := by
  obtain ⟨i0, hi, hz0, hz1, hz2⟩ := info_parts ss.infoS
  have HP : Hid (tsq.parts 32 s = (Tm.split 32 s.data.toList).map fun l => ⟨l.toArray⟩) := rfl
  go_enter Tryz.func94, Tryz.ntmps94
  go_wp2_with fail
  go_loopw [3, 4, 5] (fun v x i wr => ∃ (k f : Nat) (L : List ByteArray), k ≤ s.size ∧ i = .int .i64 k ∧ x = .int .i64 f ∧ f ≤ k ∧ L.length ≤ k ∧
      Hid (tsq.parts 32 s = L ++ (pre (cutB s f k).data.toList (Tm.split 32 (s.data.toList.drop k))).map fun l => ⟨l.toArray⟩) ∧ Hid (wr.ownsRow w.heap.size 9 1 v L.length (sc L)) ∧ Hid (Below w.heap.size w wr)) (fun _ _ i _ => s.size - (intOf i).toNat)
  case atStart => exact ⟨0, 0, [], Nat.zero_le _, rfl, rfl, Nat.le_refl _, Nat.le_refl _, by show _ = _; rw [HP.out, List.drop_zero, cut_none]; show _ = [] ++ _; rw [List.nil_append, pre_nil], World.ownsRow_nil _ _ _ _, Below.refl _ _⟩
  case round =>
    obtain ⟨k, f, L, hk, rfl, rfl, hq, hL, HI, HO, HB⟩ := hrel
    obtain ⟨oo, on, oc, rfl⟩ : ∃ oa n cap, u3 = .slice oa n cap := by
      rcases HO.out.2 with ⟨h, _⟩ | ⟨g, cap, cur, h, _⟩
      · exact ⟨none, 0, 0, h⟩
      · exact ⟨_, _, cap, h⟩
    have hsz := HB.out.size
    have hown := HO.out
    have k0 : (0 : Int) ≤ (k : Int) := Int.natCast_nonneg _
    have f0 : (0 : Int) ≤ (f : Int) := Int.natCast_nonneg _
    have fk : (f : Int) ≤ (k : Int) := by omega
    have ks : (k : Int) ≤ (s.size : Int) := by omega
    have fs : (f : Int) ≤ (s.size : Int) := by omega
    by_cases hlt : k < s.size
    · have hki : (k : Int) < (s.size : Int) := by omega
      have HD := hide (drop_at s k hlt)
      by_cases hb : s[k].toNat = 32
      · have hbi : (s[k].toNat : Int) = 32 := by omega
        have hb8 : s[k] = 32 := UInt8.toNat_inj.1 hb
        have HN : Hid (tsq.parts 32 s = (L ++ [s.extract f k]) ++ (pre (cutB s (k + 1) (k + 1)).data.toList (Tm.split 32 (s.data.toList.drop (k + 1)))).map fun l => ⟨l.toArray⟩) := by
          show _ = _
          rw [HI.out, HD.out, hb8, pre_sep, List.map_cons, cut_none, List.append_assoc]; rfl
        clear hb8 HI
        go_wp2_with (at_builtin; refine wpList_append_own _ rfl _ _ 24 rfl w.heap.size 9 i0 (.string ⟨#[]⟩) 1 16 Tryz.underlying24 hi hz0 hz1 hz2 rfl (by decide) _ _ _ rfl (hown.alloc _) ⟨wr.heap.size, 0, none⟩ 1 1 [.string (s.extract f k)] rfl rfl (bk.cell_one_new _ _ _) ?c2 ?c3 ?c4 ?c5 ?_)
        case c2 => first | rfl | (intro u hu; simp at hu; rcases hu with rfl; rfl)
        case c3 => unfold maxLen; omega
        case c4 => omega
        case c5 => first | omega | (simp; omega)
        intro v' w2 hown' hgrow _
        have R1 : Hid (w2.ownsRow w.heap.size 9 1 v' (L ++ [s.extract f k]).length (sc (L ++ [s.extract f k]))) := by
          show w2.ownsRow _ _ _ _ _ _
          rw [List.length_append]
          show w2.ownsRow _ _ _ _ _ (List.map Value.string (L ++ [s.extract f k]))
          rw [List.map_append]; exact hown'
        have R2 : Hid (Below w.heap.size w w2) := (HB.out.alloc hsz _).grown hgrow (by simp; omega) (own_ge hown)
        clear hown' hgrow hown
        go_wp2
        go_roundw
        case rel => exact ⟨k + 1, k + 1, L ++ [s.extract f k], by omega, by go_num, by go_num, Nat.le_refl _, by rw [List.length_append]; simp; omega, HN, R1, R2⟩
        case measure => simp [intOf]; omega
      · have hbi : ¬ (s[k].toNat : Int) = 32 := by omega
        have hb8 : s[k] ≠ 32 := fun e => hb (by rw [e]; rfl)
        have HN : Hid (tsq.parts 32 s = L ++ (pre (cutB s f (k + 1)).data.toList (Tm.split 32 (s.data.toList.drop (k + 1)))).map fun l => ⟨l.toArray⟩) := by
          show _ = _
          rw [HI.out, HD.out, pre_not 32 _ hb8, cut_snoc s f k hq hlt]
        clear hb8 HI hown
        go_wp2_with fail
        go_roundw
        case rel => exact ⟨k + 1, f, L, by omega, by go_num, rfl, by omega, by omega, HN, HO, HB⟩
        case measure => simp [intOf]; omega
    · obtain rfl : k = s.size := by omega
      have HN : Hid (tsq.parts 32 s = L ++ [s.extract f s.size]) := by
        show _ = _
        rw [HI.out, List.drop_eq_nil_of_le (by rw [len_list]; exact Nat.le_refl _), pre_end]; rfl
      clear HI
      go_wp2_with (at_builtin; refine wpList_append_own _ rfl _ _ 24 rfl w.heap.size 9 i0 (.string ⟨#[]⟩) 1 16 Tryz.underlying24 hi hz0 hz1 hz2 rfl (by decide) _ _ _ rfl (hown.alloc _) ⟨wr.heap.size, 0, none⟩ 1 1 [.string (s.extract f s.size)] rfl rfl (bk.cell_one_new _ _ _) ?c2 ?c3 ?c4 ?c5 ?_)
      case c2 => first | rfl | (intro u hu; simp at hu; rcases hu with rfl; rfl)
      case c3 => unfold maxLen; omega
      case c4 => omega
      case c5 => first | omega | (simp; omega)
      intro v' w2 hown' hgrow _
      have R1 : Hid (w2.ownsRow w.heap.size 9 1 v' (tsq.parts 32 s).length (sc (tsq.parts 32 s))) := by
        show w2.ownsRow _ _ _ _ _ _
        rw [HN.out, List.length_append]
        show w2.ownsRow _ _ _ _ _ (List.map Value.string (L ++ [s.extract f s.size]))
        rw [List.map_append]; exact hown'
      have R2 : Hid (Below w.heap.size w w2) := (HB.out.alloc hsz _).grown hgrow (by simp; omega) (own_ge hown)
      clear hown' hgrow hown
      go_wp2
      go_ret
      exact ⟨_, rfl, R1.out, R2.out⟩

theorem all_both (l : List UInt8) (p q : UInt8 → Bool) : (l.all p && l.all q) = l.all fun b => p b && q b := by
  induction l with
  | nil => rfl
  | cons x r ih => simp only [List.all_cons, ← ih]; cases p x <;> cases q x <;> cases r.all p <;> cases r.all q <;> rfl
def noQ (b : UInt8) : Bool := decide (b.toNat ≠ 34) && decide (b.toNat ≠ 92)
theorem isSc_eq (s : ByteArray) : isSc s = (s.data.toList.all noQ && Tm.word 32 (Tm.btw 33 126) s.data.toList) := by
  unfold isSc Tm.word
  have e : s.data.toList.all scB = (s.data.toList.all (Tm.btw 33 126) && s.data.toList.all noQ) := by
    rw [all_both]
    congr 1
    funext b
    unfold scB noQ
    rw [Bool.and_assoc]
  rw [e]
  cases s.data.toList.all noQ <;> cases s.data.toList.all (Tm.btw 33 126) <;> simp

set_option maxRecDepth 100000 in
set_option maxHeartbeats 1600000 in
theorem refScope_any (s : ByteArray) (w : World) (hs : s.size ≤ 4611686018427387904) :
    Calls Tryz.prog 95 #[.string s] w fun e w' => e = .returned (.bool (isSc s)) ∧ w' = w := by
  have HT : Hid (∀ k (_ : k < s.size), (s.data.toList.take (k + 1)).all noQ = ((s.data.toList.take k).all noQ && noQ s[k])) := fun k h => Tm.all_take _ _ k (by simpa using h)
  have HE : Hid (s.data.toList.take s.size = s.data.toList) := take_all s
  have HA : Hid (∀ k, (s.data.toList.take k).all noQ = false → s.data.toList.all noQ = false) := fun k h => Tm.all_short _ _ k h
  have HQ := hide (isSc_eq s)
  have HW := hide (fun W => refWithin_any s 32 33 126 W hs)
  generalize Tm.word 32 (Tm.btw 33 126) s.data.toList = t at *
  go_enter Tryz.func95, Tryz.ntmps95
  go_wp2_with fail
  go_loopw [3] (fun i wr => ∃ k : Nat, k ≤ s.size ∧ i = .int .i64 k ∧ Hid ((s.data.toList.take k).all noQ = true) ∧ wr = w) (fun i _ => s.size - (intOf i).toNat)
  case atStart => exact ⟨0, Nat.zero_le _, rfl, by show _ = _; simp, rfl⟩
  case round =>
    obtain ⟨k, hk, rfl, HAK, rfl⟩ := hrel
    by_cases hlt : k < s.size
    · have hki : (k : Int) < (s.size : Int) := by omega
      have HTK := hide (HT.out k hlt)
      have eb : ∀ c : UInt8, noQ c = (decide (c.toNat ≠ 34) && decide (c.toNat ≠ 92)) := fun _ => rfl
      have HB := hide (eb s[k])
      clear eb
      by_cases h1 : s[k].toNat = 34
      · have h1i : (s[k].toNat : Int) = 34 := by omega
        have HR : Hid (s.data.toList.all noQ = false) := HA.out (k + 1) (by rw [HTK.out, HB.out, h1]; simp)
        go_wp2_with fail
        go_ret
        exact ⟨by rw [HQ.out, HR.out]; rfl, rfl⟩
      · have h1i : ¬ (s[k].toNat : Int) = 34 := by omega
        have h1b : ((s[k].toNat : Int) == 34) = false := beq_false_of_ne h1i
        by_cases h2 : s[k].toNat = 92
        · have h2i : (s[k].toNat : Int) = 92 := by omega
          have HR : Hid (s.data.toList.all noQ = false) := HA.out (k + 1) (by rw [HTK.out, HB.out, h2]; simp)
          go_wp2_with fail
          go_ret
          exact ⟨by rw [HQ.out, HR.out]; rfl, rfl⟩
        · have h2i : ¬ (s[k].toNat : Int) = 92 := by omega
          have h2b : ((s[k].toNat : Int) == 92) = false := beq_false_of_ne h2i
          have HR : Hid ((s.data.toList.take (k + 1)).all noQ = true) := by
            show _ = _
            rw [HTK.out, HB.out, HAK.out, decide_eq_true h1, decide_eq_true h2]; rfl
          go_wp2_with fail
          go_roundw
          case rel => exact ⟨k + 1, by omega, by go_num, HR, by trivial⟩
          case measure => simp [intOf]; omega
    · obtain rfl : k = s.size := by omega
      rw [HE.out] at HAK
      go_wp2_with (go_at_call 67; refine (HW.out _).mono ?_; rintro x w2 ⟨rfl, rfl⟩)
      go_ret
      exact ⟨by rw [HQ.out, HAK.out]; rfl, rfl⟩

end Go.Proofs.YtimbhneegphhbaaGreatDoor.tm
