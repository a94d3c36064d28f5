import Derived.Test.YtaejlcffimkopaaDoorRdDoc2
import Derived.BigQuiet
namespace Go.Proofs.YtaejlcffimkopaaDoor.pg
open Go.ChangeShapes Go.WideShapes Go.ChangeAt Go.RowKit Go.Proofs.YtaejlcffimkopaaDoor.common Go.Maps
attribute [local go_sem ↓] Go.wp_at_zero Go.wp_at_succ

/-- the place of the document's reader -/
def Pl (w : World) (p : Nat) (s : ByteArray) (a : Nat) (lost : Bool) : Prop := w.heap[p]? = some (.cells #[.string s, .int .i64 a, .bool lost] 71)
theorem below_drewN' {b : Nat} {a c : World} (h : Below b a c) (n : Nat) : Below b a (c.drewN n) := ⟨h.1, h.2, h.3, h.4, h.5⟩
theorem beq_dec (x y : List UInt8) : (x == y) = decide (x = y) := by
  by_cases h : x = y
  · rw [decide_eq_true h, h]; exact beq_self_eq_true _
  · rw [decide_eq_false h]; exact beq_false_of_ne h
theorem skp_at (s m : ByteArray) (a : Nat) : (skp m.data.toList (s.data.toList.drop a)).isSome = decide ((s.extract a (a + m.size)).data.toList = m.data.toList) := by
  have h : (s.extract a (a + m.size)).data.toList = (s.data.toList.drop a).take m.data.toList.length := by
    rw [ext_list, len_list, Nat.add_sub_cancel_left]
  unfold skp
  rw [h]
  split
  · rename_i e; rw [decide_eq_true e]; rfl
  · rename_i e; rw [decide_eq_false e]; rfl

set_option maxRecDepth 100000 in
set_option maxHeartbeats 1600000 in
theorem begins_any (p : Nat) (s m : ByteArray) (a : Nat) (lost : Bool) (w : World) (h : Pl w p s a lost) (ha : a ≤ s.size) (hs : s.size ≤ 1099511627776) (hm : m.size ≤ 1000) :
    Calls Tryd.prog 51 #[ptr p, .string m] w fun e w' => e = .returned (.bool (skp m.data.toList (s.data.toList.drop a)).isSome) ∧ Below w.heap.size w w' := by
  have h' : w.heap[p]? = some (.cells #[.string s, .int .i64 a, .bool lost] 71) := h
  have c0 : w.cell? ⟨p, 0, none⟩ = some (.string s) := by simp [World.cell?, h']
  have c1 : w.cell? ⟨p, 1, none⟩ = some (.int .i64 a) := by simp [World.cell?, h']
  have HK := hide (skp_at s m a)
  have a0 : (0 : Int) ≤ (a : Int) := Int.natCast_nonneg _
  clear h h'
  by_cases hle : a + m.size ≤ s.size
  · have l1 : (a : Int) + (m.size : Int) ≤ (s.size : Int) := by omega
    have l2 : (a : Int) ≤ (a : Int) + (m.size : Int) := by omega
    go_enter Tryd.func51, Tryd.ntmps51
    go_wp2_with fail
    go_quiet (fail)
    go_wp2
    go_ret
    refine ⟨?_, below_drewN' (Below.refl _ _) _⟩
    rw [HK.out, ← ByteArray.toList_eq, ← ByteArray.toList_eq, ← beq_dec]
    rfl
  · have l1 : decide ((a : Int) + (m.size : Int) ≤ (s.size : Int)) = false := by rw [decide_eq_false_iff_not]; omega
    have hne : (skp m.data.toList (s.data.toList.drop a)).isSome = false := by
      cases hk : skp m.data.toList (s.data.toList.drop a) with
      | none => rfl
      | some r =>
        have := skp_len hk
        rw [List.length_drop, len_list, len_list] at this
        omega
    rw [hne]
    clear hne HK
    go_enter Tryd.func51, Tryd.ntmps51
    go_wp2_with fail
    go_quiet (fail)
    go_wp2
    go_ret
    exact ⟨rfl, below_drewN' (Below.refl _ _) _⟩
/-- where the place is: what is left -/
def rest (s : ByteArray) (a : Nat) : List UInt8 := s.data.toList.drop a
theorem Pl.at1 {w : World} {p : Nat} {s : ByteArray} {a : Nat} {lost : Bool} (h : Pl w p s a lost) (k : Nat) : Pl (w.setCell ⟨p, 1, none⟩ (.int .i64 k)) p s k lost := by
  have h' : w.heap[p]? = some (.cells #[.string s, .int .i64 a, .bool lost] 71) := h
  unfold Pl
  simp [World.setCell, Array.getElem?_modify, h']
theorem Pl.lose {w : World} {p : Nat} {s : ByteArray} {a : Nat} {lost : Bool} (h : Pl w p s a lost) : Pl (w.setCell ⟨p, 2, none⟩ (.bool true)) p s a true := by
  have h' : w.heap[p]? = some (.cells #[.string s, .int .i64 a, .bool lost] 71) := h
  unfold Pl
  simp [World.setCell, Array.getElem?_modify, h']
theorem Pl.below {w w' : World} {p : Nat} {s : ByteArray} {a : Nat} {lost : Bool} (h : Pl w p s a lost) (hb : Below w.heap.size w w') : Pl w' p s a lost := by
  unfold Pl; rw [hb.block p (Array.getElem?_eq_some_iff.1 h).1]; exact h

set_option maxRecDepth 100000 in
set_option maxHeartbeats 1600000 in
theorem pass_any (p : Nat) (s m : ByteArray) (a : Nat) (lost : Bool) (w : World) (h : Pl w p s a lost) (ha : a ≤ s.size) (hs : s.size ≤ 1099511627776) (hm : m.size ≤ 1000) :
    Calls Tryd.prog 49 #[ptr p, .string m] w fun e w' => e = .returned (.tuple #[]) ∧ Kr p w w' ∧
      ((skp m.data.toList (rest s a) = some (rest s (a + m.size)) ∧ a + m.size ≤ s.size ∧ Pl w' p s (a + m.size) lost) ∨ (skp m.data.toList (rest s a) = none ∧ Pl w' p s a true)) := by
  have HB := hide (begins_any p s m a lost w h ha hs hm)
  have HP := hide h
  clear h
  cases hk : skp m.data.toList (s.data.toList.drop a) with
  | none =>
    have HK := hide hk
    rw [hk] at HB
    clear hk
    go_enter Tryd.func49, Tryd.ntmps49
    go_wp2_with fail
    refine HB.out.mono ?_
    rintro e w1 ⟨rfl, b1⟩
    have hP1 := HP.out.below b1
    have h1 : w1.heap[p]? = some (.cells #[.string s, .int .i64 a, .bool lost] 71) := hP1
    have c2 : w1.cell? ⟨p, 2, none⟩ = some (.bool lost) := by simp [World.cell?, h1]
    have y2 : w1.frozen? ⟨p, 2, none⟩ = false := by simp [World.frozen?, h1]
    have HE := hide hP1.lose
    have HR := hide ((Kr.of (rb := p) b1).trans (Kr.set p w1 2 (.bool true)))
    clear b1 hP1 h1
    go_wp2
    go_end0
    exact ⟨rfl, HR.out, Or.inr ⟨HK.out, HE.out⟩⟩
  | some r =>
    have hlen := skp_len hk
    rw [List.length_drop, len_list, len_list] at hlen
    have HK : Hid (skp m.data.toList (rest s a) = some (rest s (a + m.size))) := by
      show _ = _
      have e := skp_is hk
      have e2 : rest s (a + m.size) = r := by
        unfold rest
        rw [← List.drop_drop, e, ← len_list, List.drop_left]
      rw [e2]; exact hk
    rw [hk] at HB
    have hle : a + m.size ≤ s.size := by omega
    clear hk hlen
    go_enter Tryd.func49, Tryd.ntmps49
    go_wp2_with fail
    refine HB.out.mono ?_
    rintro e w1 ⟨rfl, b1⟩
    have hP1 := HP.out.below b1
    have h1 : w1.heap[p]? = some (.cells #[.string s, .int .i64 a, .bool lost] 71) := hP1
    have c1 : w1.cell? ⟨p, 1, none⟩ = some (.int .i64 a) := by simp [World.cell?, h1]
    have y1 : w1.frozen? ⟨p, 1, none⟩ = false := by simp [World.frozen?, h1]
    have HE := hide (hP1.at1 (a + m.size))
    have HR := hide ((Kr.of (rb := p) b1).trans (Kr.set p w1 1 (.int .i64 ((a + m.size : Nat) : Int))))
    have i1 : (a : Int) + (m.size : Int) ≤ 1099511627776 := by omega
    have i2 : ((a + m.size : Nat) : Int) = (a : Int) + (m.size : Int) := by omega
    rw [i2] at HE HR
    clear b1 hP1 h1 i2
    go_wp2
    first | go_ret | (refine bodyPost_ret (results_none rfl _ _ _) rfl ?_)
    exact ⟨rfl, HR.out, Or.inl ⟨HK.out, hle, HE.out⟩⟩
end Go.Proofs.YtaejlcffimkopaaDoor.pg
