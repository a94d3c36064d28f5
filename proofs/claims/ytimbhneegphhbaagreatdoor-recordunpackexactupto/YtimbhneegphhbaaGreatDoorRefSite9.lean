import Derived.Test.YtimbhneegphhbaaGreatDoorRows
import Derived.Test.YtimbhneegphhbaaGreatDoorStrBase
import Derived.Test.YtimbhneegphhbaaGreatDoorPctMath
import Derived.Deep.MidRow
import Derived.WalkKit
import Derived.WalkSpells
import Derived.WalkLawsBesides
import Derived.Outline
import Derived.Laws.BitsAllLaws
import Derived.Laws.IdiomStrings
import Derived.Deep.OwnRows
import Derived.Maps.AppendAt
import Derived.Below
import Derived.Test.YtimbhneegphhbaaGreatDoorRedEq
namespace Go.Proofs.YtimbhneegphhbaaGreatDoor.pctw
open Go.ChangeShapes Go.WideShapes Go.ChangeAt Go.RowKit Go.Proofs.YtimbhneegphhbaaGreatDoor.common

abbrev B (c : UInt8) : Value := .int .u8 (c.toNat : Int)
abbrev S (l : List UInt8) : Value := .string ⟨l.toArray⟩

theorem info8 : (Tryz.prog.info? 5).map (fun i => (i.zero, i.size, i.bytes)) = some (some (.int .u8 0), 1, 1) := by kernel_rfl

theorem own_ge {w : World} {base : Nat} {e : TypeId} {size : Nat} {v : Value} {n : Nat} {xs : List Value} (h : w.ownsRow base e size v n xs) : ∀ b, v.ownBlock = some b → base ≤ b := by
  intro b hb
  exact (h.lt b hb).1

theorem conv_own {w : World} {base : Nat} {e : TypeId} {v : Value} {l : List UInt8} {n : Nat} (h : w.ownsRow base e 1 v n (l.map B)) (hn : l.length = n) :
    (convert 27 9 v).run Tryz.prog w = .ok (S l) w := by
  subst hn
  rcases h.2 with ⟨rfl, h0⟩ | ⟨g, cap, cur, rfl, hg, hh, hn, _, hsz, htk⟩
  · rw [run_convert_bytes_nil (P := Tryz.prog) w 27 5 Tryz.underlying27 Tryz.underlying5 0 0 9 Tryz.underlying9]
    obtain rfl : l = [] := List.eq_nil_of_length_eq_zero h0
    rfl
  · refine run_convert_bytes_back (P := Tryz.prog) w 27 9 5 ⟨g, 0, none⟩ cap l Tryz.underlying27 Tryz.underlying5 Tryz.underlying9 ?_
    intro j hj
    rw [Addr.add_mid, Nat.zero_add]
    have : (cur.toList.take (l.length * 1))[j]? = (l.map B)[j]? := by rw [htk]
    rw [List.getElem?_take_of_lt (by omega)] at this
    simp only [World.cell?, hh]
    simp [hj] at this
    simpa using this

theorem toNat_of {n : Nat} (h : n < 256) : (UInt8.ofNat n).toNat = n := by simp [Nat.mod_eq_of_lt h]
theorem getD_list (s : ByteArray) (k : Nat) (h : k < s.size) : s.data.toList.getD k 0 = s[k] := by
  rw [List.getD_eq_getElem?_getD, List.getElem?_eq_getElem (by simpa using h)]; rfl
theorem len_list (s : ByteArray) : s.data.toList.length = s.size := by simp

theorem ba_ext {a b : ByteArray} (h : a.data.toList = b.data.toList) : a = b := by
  apply ByteArray.ext; apply Array.toList_inj.1; exact h
theorem ne_list {a b : ByteArray} (h : a ≠ b) : (a.toList == b.toList) = false := by
  rw [ByteArray.toList_eq, ByteArray.toList_eq]
  exact beq_false_of_ne fun e => h (ba_ext e)
theorem eq_list {a b : ByteArray} (h : a = b) : (a.toList == b.toList) = true := by subst h; simp
theorem str_eq (l : List UInt8) (s : ByteArray) (h : l = s.data.toList) : (⟨l.toArray⟩ : ByteArray) = s := by
  subst h; rfl
theorem str_size (l : List UInt8) : (⟨l.toArray⟩ : ByteArray).size = l.length := by
  show l.toArray.size = _; simp
theorem cells_new (w : World) (l : List Value) (t : TypeId) : ∀ j u, l[j]? = some u → (w.alloc (.cells l.toArray t)).cell? ((⟨w.heap.size, 0, none⟩ : Addr).add j) = some u := by
  intro j u h
  rw [Addr.add_mid]
  exact range_new w l.toArray t j u h

end Go.Proofs.YtimbhneegphhbaaGreatDoor.pctw

namespace Go.Proofs.YtimbhneegphhbaaGreatDoor.pctw
open Go.ChangeShapes Go.WideShapes Go.ChangeAt Go.RowKit Go.Proofs.YtimbhneegphhbaaGreatDoor.common
attribute [local go_sem ↓] Go.wp_at_zero Go.wp_at_succ

set_option maxHeartbeats 800000 in
theorem refUnreserved_any (c : UInt8) (w : World) :
    Calls Tryz.prog 89 #[B c] w fun e w' => w' = w ∧ e = .returned (.bool (Pct.unres c)) := by
  have hc := c.toNat_lt
  obtain ⟨u, hu⟩ : ∃ u, Pct.unres c = u := ⟨_, rfl⟩
  rw [hu]
  have HU := hide hu
  clear hu
  go_enter Tryz.func89, Tryz.ntmps89
  go_wp2
  all_goals (go_ret; refine ⟨rfl, ?_⟩; rw [← HU.out])
  all_goals (simp only [Array.getD_eq_getD_getElem?]; simp; try rw [Bool.eq_iff_iff]; try simp [Pct.unres]; try omega)

end Go.Proofs.YtimbhneegphhbaaGreatDoor.pctw

namespace Go.Proofs.YtimbhneegphhbaaGreatDoor.pctw
open Go.ChangeShapes Go.WideShapes Go.ChangeAt Go.RowKit Go.Proofs.YtimbhneegphhbaaGreatDoor.common
attribute [local go_sem ↓] Go.wp_at_zero Go.wp_at_succ

theorem hexv_cases (c : UInt8) : (48 ≤ c.toNat ∧ c.toNat ≤ 57 ∧ Pct.hexv c = c.toNat - 48) ∨ (65 ≤ c.toNat ∧ c.toNat ≤ 70 ∧ Pct.hexv c = c.toNat - 55) ∨ (97 ≤ c.toNat ∧ c.toNat ≤ 102 ∧ Pct.hexv c = c.toNat - 87) ∨
    (Pct.hexv c = 16 ∧ ¬ (48 ≤ c.toNat ∧ c.toNat ≤ 57) ∧ ¬ (65 ≤ c.toNat ∧ c.toNat ≤ 70) ∧ ¬ (97 ≤ c.toNat ∧ c.toNat ≤ 102)) := by
  unfold Pct.hexv
  split
  · omega
  · split
    · omega
    · split <;> omega

end Go.Proofs.YtimbhneegphhbaaGreatDoor.pctw

namespace Go.Proofs.YtimbhneegphhbaaGreatDoor.pctw
open Go.ChangeShapes Go.WideShapes Go.ChangeAt Go.RowKit Go.Proofs.YtimbhneegphhbaaGreatDoor.common
attribute [local go_sem ↓] Go.wp_at_zero Go.wp_at_succ

set_option maxHeartbeats 800000 in
theorem refHexValue_any (c : UInt8) (w : World) :
    Calls Tryz.prog 91 #[B c] w fun e w' => w' = w ∧ e = .returned (.int .i64 (if Pct.hexv c < 16 then (Pct.hexv c : Int) else -1)) := by
  have HC := hide (hexv_cases c)
  have hc := c.toNat_lt
  generalize Pct.hexv c = v at *
  obtain ⟨r, hr⟩ : ∃ r : Int, (if v < 16 then (v : Int) else -1) = r := ⟨_, rfl⟩
  rw [hr]
  have HR := hide hr
  clear hr
  go_enter Tryz.func91, Tryz.ntmps91
  go_wp2
  all_goals (go_ret; refine ⟨rfl, ?_⟩; have := HC.out; have hr := HR.out)
  all_goals first
    | (exfalso; omega)
    | (simp; split at hr <;> omega)

end Go.Proofs.YtimbhneegphhbaaGreatDoor.pctw

namespace Go.Proofs.YtimbhneegphhbaaGreatDoor.tm
open Go.ChangeShapes Go.WideShapes Go.ChangeAt Go.RowKit Go.Proofs.YtimbhneegphhbaaGreatDoor.common Go.Proofs.YtimbhneegphhbaaGreatDoor.bk
attribute [local go_sem ↓] Go.wp_at_zero Go.wp_at_succ

def mrkB (b : UInt8) : Bool := [33, 36, 38, 39, 40, 41, 42, 43, 44, 59, 61].contains b
theorem byte_eq (p q : UInt8 → Bool) (h : (List.range 256).all (fun n => p (UInt8.ofNat n) == q (UInt8.ofNat n)) = true) (b : UInt8) : p b = q b := by
  have := List.all_eq_true.1 h b.toNat (List.mem_range.2 b.toNat_lt)
  rw [UInt8.ofNat_toNat] at this
  exact beq_iff_eq.1 this
theorem mrk_cases (c : UInt8) : (mrkB c = true ∧ (c.toNat = 33 ∨ c.toNat = 36 ∨ c.toNat = 38 ∨ c.toNat = 39 ∨ c.toNat = 40 ∨ c.toNat = 41 ∨ c.toNat = 42 ∨ c.toNat = 43 ∨ c.toNat = 44 ∨ c.toNat = 59 ∨ c.toNat = 61)) ∨ (mrkB c = false ∧ c.toNat ≠ 33 ∧ c.toNat ≠ 36 ∧ c.toNat ≠ 38 ∧ c.toNat ≠ 39 ∧ c.toNat ≠ 40 ∧ c.toNat ≠ 41 ∧ c.toNat ≠ 42 ∧ c.toNat ≠ 43 ∧ c.toNat ≠ 44 ∧ c.toNat ≠ 59 ∧ c.toNat ≠ 61) := by
  have h : mrkB c = decide (c.toNat = 33 ∨ c.toNat = 36 ∨ c.toNat = 38 ∨ c.toNat = 39 ∨ c.toNat = 40 ∨ c.toNat = 41 ∨ c.toNat = 42 ∨ c.toNat = 43 ∨ c.toNat = 44 ∨ c.toNat = 59 ∨ c.toNat = 61) := byte_eq mrkB (fun c => decide (c.toNat = 33 ∨ c.toNat = 36 ∨ c.toNat = 38 ∨ c.toNat = 39 ∨ c.toNat = 40 ∨ c.toNat = 41 ∨ c.toNat = 42 ∨ c.toNat = 43 ∨ c.toNat = 44 ∨ c.toNat = 59 ∨ c.toNat = 61)) (by decide +kernel) c
  by_cases hd : c.toNat = 33 ∨ c.toNat = 36 ∨ c.toNat = 38 ∨ c.toNat = 39 ∨ c.toNat = 40 ∨ c.toNat = 41 ∨ c.toNat = 42 ∨ c.toNat = 43 ∨ c.toNat = 44 ∨ c.toNat = 59 ∨ c.toNat = 61
  · exact Or.inl ⟨by rw [h, decide_eq_true hd], hd⟩
  · refine Or.inr ⟨by rw [h, decide_eq_false hd], ?_⟩
    omega

set_option maxHeartbeats 1600000 in
theorem refMark_any (c : UInt8) (w : World) :
    Calls Tryz.prog 90 #[B c] w fun e w' => e = .returned (.bool (mrkB c)) ∧ w' = w := by
  rcases mrk_cases c with ⟨e, h⟩ | ⟨e, h⟩
  · rw [e]
    clear e
    rcases h with h | h | h | h | h | h | h | h | h | h | h
    all_goals
      have hi : (c.toNat : Int) = _ := congrArg Int.ofNat h
      clear h
      go_enter Tryz.func90, Tryz.ntmps90
      go_wp2
      go_ret
      exact ⟨rfl, rfl⟩
  · rw [e]
    clear e
    have q33 : ((c.toNat : Int) == 33) = false := beq_false_of_ne (by omega)
    have p33 : ¬ (c.toNat : Int) = 33 := by omega
    have q36 : ((c.toNat : Int) == 36) = false := beq_false_of_ne (by omega)
    have p36 : ¬ (c.toNat : Int) = 36 := by omega
    have q38 : ((c.toNat : Int) == 38) = false := beq_false_of_ne (by omega)
    have p38 : ¬ (c.toNat : Int) = 38 := by omega
    have q39 : ((c.toNat : Int) == 39) = false := beq_false_of_ne (by omega)
    have p39 : ¬ (c.toNat : Int) = 39 := by omega
    have q40 : ((c.toNat : Int) == 40) = false := beq_false_of_ne (by omega)
    have p40 : ¬ (c.toNat : Int) = 40 := by omega
    have q41 : ((c.toNat : Int) == 41) = false := beq_false_of_ne (by omega)
    have p41 : ¬ (c.toNat : Int) = 41 := by omega
    have q42 : ((c.toNat : Int) == 42) = false := beq_false_of_ne (by omega)
    have p42 : ¬ (c.toNat : Int) = 42 := by omega
    have q43 : ((c.toNat : Int) == 43) = false := beq_false_of_ne (by omega)
    have p43 : ¬ (c.toNat : Int) = 43 := by omega
    have q44 : ((c.toNat : Int) == 44) = false := beq_false_of_ne (by omega)
    have p44 : ¬ (c.toNat : Int) = 44 := by omega
    have q59 : ((c.toNat : Int) == 59) = false := beq_false_of_ne (by omega)
    have p59 : ¬ (c.toNat : Int) = 59 := by omega
    have q61 : ((c.toNat : Int) == 61) = false := beq_false_of_ne (by omega)
    have p61 : ¬ (c.toNat : Int) = 61 := by omega
    clear h
    go_enter Tryz.func90, Tryz.ntmps90
    go_wp2
    go_ret
    exact ⟨rfl, rfl⟩

theorem hexB_val (c : UInt8) : hexB c = decide (Pct.hexv c < 16) := byte_eq hexB (fun c => decide (Pct.hexv c < 16)) (by decide +kernel) c
/-- what a digit stands for, as a whole number -/
def hvI (c : UInt8) : Int := if Pct.hexv c < 16 then (Pct.hexv c : Int) else -1
theorem refHex_any (c : UInt8) (w : World) : Calls Tryz.prog 91 #[B c] w fun e w' => e = .returned (.int .i64 (hvI c)) ∧ w' = w := by
  refine (pctw.refHexValue_any c w).mono ?_
  rintro e w' ⟨rfl, rfl⟩
  exact ⟨rfl, rfl⟩
theorem hv_cases (c : UInt8) : (hexB c = true ∧ ¬ hvI c < 0) ∨ (hexB c = false ∧ hvI c < 0) := by
  rw [hexB_val]
  unfold hvI
  by_cases h : Pct.hexv c < 16
  · rw [if_pos h]
    exact Or.inl ⟨decide_eq_true h, by omega⟩
  · rw [if_neg h]
    exact Or.inr ⟨decide_eq_false h, by decide⟩
theorem ok_val (c : UInt8) : okB [47] c = (Pct.unres c || (mrkB c || (decide (c.toNat = 58) || (decide (c.toNat = 64) || decide (c.toNat = 47))))) := byte_eq (okB [47]) (fun c => Pct.unres c || (mrkB c || (decide (c.toNat = 58) || (decide (c.toNat = 64) || decide (c.toNat = 47))))) (by decide +kernel) c
theorem ok_val2 (c : UInt8) : okB [47, 63] c = (Pct.unres c || (mrkB c || (decide (c.toNat = 58) || (decide (c.toNat = 64) || (decide (c.toNat = 47) || decide (c.toNat = 63)))))) := byte_eq (okB [47, 63]) (fun c => Pct.unres c || (mrkB c || (decide (c.toNat = 58) || (decide (c.toNat = 64) || (decide (c.toNat = 47) || decide (c.toNat = 63)))))) (by decide +kernel) c
def moreB (ask : Bool) : List UInt8 := if ask then [47, 63] else [47]
theorem ok_is (ask : Bool) (c : UInt8) : okB (moreB ask) c = (Pct.unres c || (mrkB c || (decide (c.toNat = 58) || (decide (c.toNat = 64) || (decide (c.toNat = 47) || (ask && decide (c.toNat = 63))))))) := by
  cases ask with
  | false =>
    rw [show moreB false = [47] from rfl, ok_val, Bool.false_and, Bool.or_false]
  | true =>
    rw [show moreB true = [47, 63] from rfl, ok_val2, Bool.true_and]
theorem pct_no (ask : Bool) : okB (moreB ask) 37 = false := by cases ask <;> decide
theorem hasD_at (s : ByteArray) (k : Nat) (h : k + 2 < s.size) : hasD (s.data.toList.drop k) = (hexB (s[k + 1]'(by omega)) && hexB (s[k + 2]'h)) := by
  unfold hasD
  rw [decide_eq_true (by rw [List.length_drop, len_list]; omega), Bool.true_and, List.drop_drop, drop_at2 s (k + 1) (by omega), drop_at2 s (k + 2) h]
  simp
theorem hasD_no (s : ByteArray) (k : Nat) (h : ¬ k + 2 < s.size) : hasD (s.data.toList.drop k) = false := by
  unfold hasD
  rw [decide_eq_false (by rw [List.length_drop, len_list]; omega), Bool.false_and]

end Go.Proofs.YtimbhneegphhbaaGreatDoor.tm

namespace Go.Proofs.YtimbhneegphhbaaGreatDoor.tm
open Go.ChangeShapes Go.WideShapes Go.ChangeAt Go.RowKit Go.Proofs.YtimbhneegphhbaaGreatDoor.common Go.Proofs.YtimbhneegphhbaaGreatDoor.bk
attribute [local go_sem ↓] Go.wp_at_zero Go.wp_at_succ

def ldB (b : UInt8) : Bool := letB b || Tm.btw 48 57 b
theorem ld_nat (c : UInt8) : ldB c = decide (65 ≤ c.toNat ∧ c.toNat ≤ 90 ∨ 97 ≤ c.toNat ∧ c.toNat ≤ 122 ∨ 48 ≤ c.toNat ∧ c.toNat ≤ 57) := byte_eq ldB (fun c => decide (65 ≤ c.toNat ∧ c.toNat ≤ 90 ∨ 97 ≤ c.toNat ∧ c.toNat ≤ 122 ∨ 48 ≤ c.toNat ∧ c.toNat ≤ 57)) (by decide +kernel) c
theorem lab_ld (c : UInt8) : labB c = (ldB c || decide (c.toNat = 45)) := rfl

set_option maxHeartbeats 1600000 in
theorem refLetter_any (c : UInt8) (w : World) :
    Calls Tryz.prog 151 #[B c] w fun e w' => e = .returned (.bool (ldB c)) ∧ w' = w := by
  have hc := c.toNat_lt
  have HU := hide (ld_nat c)
  generalize ldB c = u at *
  go_enter Tryz.func151, Tryz.ntmps151
  go_wp2
  all_goals (go_ret; refine ⟨?_, rfl⟩; rw [HU.out])
  all_goals
    simp only [Array.getD_eq_getD_getElem?]
    simp
    try (rw [Bool.eq_iff_iff])
    try (simp)
    try (omega)

set_option maxRecDepth 100000 in
set_option maxHeartbeats 6400000 in
theorem refLabel_any (s : ByteArray) (w : World) (hs : s.size ≤ 4611686018427387904) :
    Calls Tryz.prog 133 #[.string s] w fun e w' => e = .returned (.bool (isLab s)) ∧ w' = w := by
  obtain ⟨R, hR⟩ : ∃ R, R = isLab s := ⟨_, rfl⟩
  have HW : Hid (R = ((!s.data.toList.isEmpty && decide (s.size ≤ 63) && s.data.toList.all labB) && edge s.data.toList)) := by
    show _ = _
    rw [hR]
    unfold isLab Tm.word
    rw [len_list]
  rw [← hR]
  clear hR
  by_cases he : s = ⟨#[]⟩
  · subst he
    have HQ : Hid (R = false) := HW.out
    go_enter Tryz.func133, Tryz.ntmps133
    go_wp2_with fail
    go_ret
    exact ⟨by rw [HQ.out]; rfl, rfl⟩
  · obtain ⟨h1, h2, h3⟩ := word_ne he
    by_cases hm : 63 < s.size
    · have hmi : (63 : Int) < (s.size : Int) := by omega
      have HQ : Hid (R = false) := by show _ = _; rw [HW.out, decide_eq_false (by omega), Bool.and_false, Bool.false_and, Bool.false_and]
      go_enter Tryz.func133, Tryz.ntmps133
      go_wp2_with fail
      go_ret
      exact ⟨by rw [HQ.out]; rfl, rfl⟩
    · have hmi : ¬ (63 : Int) < (s.size : Int) := by omega
      have hp : 0 < s.size := by
        cases hz : s.size with
        | zero => exact absurd (str_nil s (List.eq_nil_of_length_eq_zero (by rw [len_list]; exact hz))) he
        | succ n => omega
      have hpi : (0 : Int) < (s.size : Int) := by omega
      obtain ⟨n, hn⟩ : ∃ n, s.size = n + 1 := ⟨s.size - 1, by omega⟩
      have hln : n < s.size := by omega
      have hlni : (n : Int) < (s.size : Int) := by omega
      have HHd := head_is s hp
      have HLs : s.data.toList.getLastD 0 = s[n] := by
        have := last_is s hp
        have e : s.size - 1 = n := by omega
        simp only [e] at this
        exact this
      have w1 : IntKind.i64.wrap ((s.size : Int) - 1) = (n : Int) := by rw [wrap_le _ (by omega) (by omega)]; omega
      have w64 : wrap64 ((s.size : Int) - 1) = (n : Int) := by rw [IntWalk.wrap64_in _ (by omega)]; omega
      have HE : Hid (edge s.data.toList = (decide (s[0].toNat ≠ 45) && decide (s[n].toNat ≠ 45))) := by
        show _ = _
        unfold edge
        rw [HHd, HLs]
      rw [h2, decide_eq_true (show s.size ≤ 63 by omega)] at HW
      have HT : Hid (∀ k (_ : k < s.size), (s.data.toList.take (k + 1)).all labB = ((s.data.toList.take k).all labB && labB s[k])) := fun k h => Tm.all_take _ _ k (by simpa using h)
      have HTE : Hid (s.data.toList.take s.size = s.data.toList) := take_all s
      have HA : Hid (∀ k, (s.data.toList.take k).all labB = false → s.data.toList.all labB = false) := fun k h => Tm.all_short _ _ k h
      have HN := hide hn
      clear HHd HLs hn he
      rcases is_cases 45 45 rfl s[0] with ⟨u1, a1, a2⟩ | ⟨u1, a1, a2⟩
      · have HQ : Hid (R = false) := by
          show _ = _
          rw [HW.out, HE.out, decide_eq_false (by have := of_decide_eq_true u1; omega), Bool.false_and, Bool.and_false]
        go_enter Tryz.func133, Tryz.ntmps133
        go_wp2_with fail
        go_ret
        exact ⟨by rw [HQ.out]; rfl, rfl⟩
      rcases is_cases 45 45 rfl s[n] with ⟨v1, b1, b2⟩ | ⟨v1, b1, b2⟩
      · have HQ : Hid (R = false) := by
          show _ = _
          rw [HW.out, HE.out, decide_eq_false (p := s[n].toNat ≠ 45) (by have := of_decide_eq_true v1; omega), Bool.and_false, Bool.and_false]
        go_enter Tryz.func133, Tryz.ntmps133
        go_wp2_with fail
        go_ret
        exact ⟨by rw [HQ.out]; rfl, rfl⟩
      have HQ : Hid (R = s.data.toList.all labB) := by
        show _ = _
        rw [HW.out, HE.out, decide_eq_true (by have := of_decide_eq_false u1; omega), decide_eq_true (by have := of_decide_eq_false v1; omega)]; simp
      clear HW HE
      go_enter Tryz.func133, Tryz.ntmps133
      go_wp2_with fail
      go_loopw [3] (fun i wr => ∃ k : Nat, k ≤ s.size ∧ i = .int .i64 k ∧ Hid ((s.data.toList.take k).all labB = true) ∧ wr = w) (fun i _ => s.size - (intOf i).toNat)
      case atStart => exact ⟨0, Nat.zero_le _, rfl, by show _ = _; simp, rfl⟩
      case round =>
        obtain ⟨k, hk, rfl, HAK, rfl⟩ := hrel
        by_cases hlt : k < s.size
        · have hki : (k : Int) < (s.size : Int) := by omega
          have HTK := hide (HT.out k hlt)
          have HL := hide (refLetter_any s[k] wr)
          have HB := hide (lab_ld s[k])
          rcases is_cases 45 45 rfl s[k] with ⟨c1, d1, d2⟩ | ⟨c1, d1, d2⟩
          · have HR : Hid ((s.data.toList.take (k + 1)).all labB = true) := by
              show _ = _
              rw [HTK.out, HB.out, HAK.out, c1, Bool.or_true]; rfl
            have d3 : ((s[k].toNat : Int) != 45) = false := by rw [bne, d2]; rfl
            unfold B at HL
            rw [d1] at HL
            generalize ldB s[k] = t at *
            cases t
            all_goals
              go_wp2_with (go_at_call 151; refine HL.out.mono ?_; rintro x w2 ⟨rfl, rfl⟩)
              go_roundw
              case rel => exact ⟨k + 1, by omega, by go_num, HR, by trivial⟩
              case measure => simp [intOf]; omega
          · have d3 : ((s[k].toNat : Int) != 45) = true := by rw [bne, d2]; rfl
            rw [c1, Bool.or_false] at HB
            rw [HB.out] at HTK
            generalize ldB s[k] = t at *
            cases t with
            | true =>
              have HR : Hid ((s.data.toList.take (k + 1)).all labB = true) := by
                show _ = _
                rw [HTK.out, HAK.out]; rfl
              go_wp2_with (go_at_call 151; refine HL.out.mono ?_; rintro x w2 ⟨rfl, rfl⟩)
              go_roundw
              case rel => exact ⟨k + 1, by omega, by go_num, HR, by trivial⟩
              case measure => simp [intOf]; omega
            | false =>
              have HR : Hid (R = false) := by
                show _ = _
                rw [HQ.out]
                exact HA.out (k + 1) (by rw [HTK.out, Bool.and_false])
              go_wp2_with (go_at_call 151; refine HL.out.mono ?_; rintro x w2 ⟨rfl, rfl⟩)
              go_ret
              exact ⟨by rw [HR.out]; rfl, rfl⟩
        · obtain rfl : k = s.size := by omega
          rw [HTE.out] at HAK
          have HR : Hid (R = true) := by show _ = _; rw [HQ.out, HAK.out]
          go_wp2_with fail
          go_ret
          exact ⟨by rw [HR.out]; rfl, rfl⟩

end Go.Proofs.YtimbhneegphhbaaGreatDoor.tm

namespace Go.Proofs.YtimbhneegphhbaaGreatDoor.tm
open Go.ChangeShapes Go.WideShapes Go.ChangeAt Go.RowKit Go.Proofs.YtimbhneegphhbaaGreatDoor.common Go.Proofs.YtimbhneegphhbaaGreatDoor.bk
attribute [local go_sem ↓] Go.wp_at_zero Go.wp_at_succ

theorem host_one {l : List UInt8} (h : ∀ x ∈ l, x ≠ 46) : hostN ⟨l.toArray⟩ = isLab ⟨l.toArray⟩ := by
  unfold hostN tsq.parts
  rw [show (⟨l.toArray⟩ : ByteArray).data.toList = l by simp, Tm.split_one 46 l h]
  simp
theorem host_more {l r : List UInt8} (h : ∀ x ∈ l, x ≠ 46) : hostN ⟨(l ++ 46 :: r).toArray⟩ = (isLab ⟨l.toArray⟩ && hostN ⟨r.toArray⟩) := by
  unfold hostN tsq.parts
  rw [show (⟨(l ++ 46 :: r).toArray⟩ : ByteArray).data.toList = l ++ 46 :: r by simp, Tm.split_at 46 l r h, show (⟨r.toArray⟩ : ByteArray).data.toList = r by simp]
  simp
theorem num_val (c : UInt8) : numB c = (decide (Pct.hexv c < 16) || decide (c.toNat = 58) || decide (c.toNat = 46)) := by
  unfold numB
  rw [hexB_val]
theorem drop_split (s : ByteArray) (f k : Nat) (hf : f ≤ k) (hk : k < s.size) : s.data.toList.drop f = (s.extract f k).data.toList ++ s[k] :: s.data.toList.drop (k + 1) := by
  rw [ext_list, ← drop_at2 s k hk]
  have := List.take_append_drop (k - f) (s.data.toList.drop f)
  rw [List.drop_drop, show f + (k - f) = k by omega] at this
  exact this.symm
theorem ext_snoc (s : ByteArray) (f k : Nat) (hf : f ≤ k) (hk : k < s.size) : (s.extract f (k + 1)).data.toList = (s.extract f k).data.toList ++ [s[k]] := by
  rw [ext_list, ext_list, show k + 1 - f = (k - f) + 1 by omega, List.take_succ_eq_append_getElem (by rw [List.length_drop, len_list]; omega)]
  congr 2
  rw [List.getElem_drop]
  simp only [show f + (k - f) = k by omega]
  rfl
/-- how the labels go on from a place -/
def labsF (s : ByteArray) (f : Nat) : Bool := if f ≤ s.size then hostN ⟨(s.data.toList.drop f).toArray⟩ else true

set_option maxRecDepth 100000 in
set_option maxHeartbeats 3200000 in
theorem refHost_any (s : ByteArray) (w : World) (hs : s.size ≤ 4611686018427387900) :
    Calls Tryz.prog 115 #[.string s] w fun e w' => e = .returned (.bool (hostR s.data.toList)) ∧ w' = w := by
  obtain ⟨R, hR⟩ : ∃ R, R = hostR s.data.toList := ⟨_, rfl⟩
  have HR := hide hR
  rw [← hR]
  clear hR
  have HBk : Hid (brk s.data.toList = (decide (2 < s.size) && decide (s.data.toList.headD 0 = 91) && decide (s.data.toList.getLastD 0 = 93))) := by
    show _ = _
    unfold brk
    rw [len_list]
  by_cases hyes : brk s.data.toList = true
  · have HQ : Hid (R = ((s.data.toList.drop 1).take (s.size - 2)).all numB) := by
      show _ = _
      rw [HR.out]
      unfold hostR
      rw [if_pos hyes, len_list]
    rw [hyes] at HBk
    have hb := HBk.out.symm
    rw [Bool.and_eq_true, Bool.and_eq_true] at hb
    have h2 := of_decide_eq_true hb.1.1
    have h2i : (2 : Int) < (s.size : Int) := by omega
    have hz0 : 0 < s.size := by omega
    obtain ⟨n, hn⟩ : ∃ n, s.size = n + 1 := ⟨s.size - 1, by omega⟩
    have hln : n < s.size := by omega
    have hlni : (n : Int) < (s.size : Int) := by omega
    have h0i : (0 : Int) < (s.size : Int) := by omega
    have w1 : IntKind.i64.wrap ((s.size : Int) - 1) = (n : Int) := by rw [wrap_le _ (by omega) (by omega)]; omega
    have w64 : wrap64 ((s.size : Int) - 1) = (n : Int) := by rw [IntWalk.wrap64_in _ (by omega)]; omega
    have q0 : (s[0].toNat : Int) = 91 := by
      have := of_decide_eq_true hb.1.2
      rw [head_is s (by omega)] at this
      rw [this]; rfl
    have q1 : (s[n].toNat : Int) = 93 := by
      have := of_decide_eq_true hb.2
      rw [last_is s (by omega)] at this
      have e : s.size - 1 = n := by omega
      simp only [e] at this
      rw [this]; rfl
    have HT : Hid (∀ k (_ : k + 1 < s.size), ((s.data.toList.drop 1).take (k + 1)).all numB = (((s.data.toList.drop 1).take k).all numB && numB s[k + 1])) := fun k h => by
      rw [Tm.all_take _ _ k (by rw [List.length_drop, len_list]; omega)]
      congr 2
      rw [List.getElem_drop]
      simp only [Nat.add_comm 1 k]
      rfl
    have HA : Hid (∀ k, k ≤ s.size - 2 → ((s.data.toList.drop 1).take k).all numB = false → ((s.data.toList.drop 1).take (s.size - 2)).all numB = false) := fun k hk h => by
      have := Tm.all_short ((s.data.toList.drop 1).take (s.size - 2)) numB k (by rw [List.take_take, Nat.min_eq_left hk]; exact h)
      exact this
    clear hb hyes HBk HR
    have HN := hide hn
    clear hn
    go_enter Tryz.func115, Tryz.ntmps115
    go_wp2_with fail
    go_loopw [3] (fun i wr => ∃ k : Nat, k + 1 ≤ n ∧ i = .int .i64 ((k + 1 : Nat) : Int) ∧ Hid (((s.data.toList.drop 1).take k).all numB = true) ∧ wr = w) (fun i _ => s.size - (intOf i).toNat)
    case atStart => exact ⟨0, by have := HN.out; omega, rfl, by show _ = _; simp, rfl⟩
    case round =>
      obtain ⟨k, hk, rfl, HAK, rfl⟩ := hrel
      obtain ⟨p, hp⟩ : ∃ p, k + 1 = p := ⟨_, rfl⟩
      rw [hp]
      by_cases hlt : p < n
      · have hki : (p : Int) < (n : Int) := by omega
        have hps : p < s.size := by omega
        have hpsi : (p : Int) < (s.size : Int) := by omega
        have HTK := hide (HT.out k (by omega))
        have HV := hide (fun W => refHex_any s[p] W)
        have HB := hide (num_val s[p])
        simp only [hp] at HTK
        rw [HAK.out, Bool.true_and] at HTK
        have HB2 : Hid (numB s[p] = (hexB s[p] || decide (s[p].toNat = 58) || decide (s[p].toNat = 46))) := rfl
        have HTK2 : Hid (((s.data.toList.drop 1).take p).all numB = numB (s[p]'hps)) := HTK.out
        have HNo : Hid (numB s[p] = false → R = false) := fun h => by
          rw [HQ.out]
          exact HA.out p (by have := HN.out; omega) (by rw [HTK2.out, h])
        have HP := hide hp
        clear HTK hp HB
        rcases hv_cases s[p] with ⟨g1, g2⟩ | ⟨g1, g2⟩
        · have HX : Hid (((s.data.toList.drop 1).take p).all numB = true) := by show _ = _; rw [HTK2.out, HB2.out, g1]; rfl
          clear HTK2 HB2 HNo g1
          go_wp2_with (go_at_call 91; refine (HV.out _).mono ?_; rintro x w2 ⟨rfl, rfl⟩)
          go_roundw
          case rel => exact ⟨p, by omega, by go_num, HX, by trivial⟩
          case measure => simp [intOf]; omega
        · rcases is_cases 58 58 rfl s[p] with ⟨a1, a2, a3⟩ | ⟨a1, a2, a3⟩
          · have HX : Hid (((s.data.toList.drop 1).take p).all numB = true) := by show _ = _; rw [HTK2.out, HB2.out, a1, Bool.or_true, Bool.true_or]
            unfold B at HV
            rw [a2] at HV
            clear HTK2 HB2 HNo g1
            go_wp2_with (go_at_call 91; refine (HV.out _).mono ?_; rintro x w2 ⟨rfl, rfl⟩)
            go_roundw
            case rel => exact ⟨p, by omega, by go_num, HX, by trivial⟩
            case measure => simp [intOf]; omega
          · have q2 : ((s[p].toNat : Int) != 58) = true := by rw [bne, a3]; rfl
            rcases is_cases 46 46 rfl s[p] with ⟨b1, b2, b3⟩ | ⟨b1, b2, b3⟩
            · have HX : Hid (((s.data.toList.drop 1).take p).all numB = true) := by show _ = _; rw [HTK2.out, HB2.out, b1, Bool.or_true]
              unfold B at HV
              rw [b2] at HV
              clear HTK2 HB2 HNo g1
              go_wp2_with (go_at_call 91; refine (HV.out _).mono ?_; rintro x w2 ⟨rfl, rfl⟩)
              go_roundw
              case rel => exact ⟨p, by omega, by go_num, HX, by trivial⟩
              case measure => simp [intOf]; omega
            · have q3 : ((s[p].toNat : Int) != 46) = true := by rw [bne, b3]; rfl
              have HX := hide (HNo.out (by rw [HB2.out, g1, a1, b1]; rfl))
              clear HTK2 HB2 HNo g1
              go_wp2_with (go_at_call 91; refine (HV.out _).mono ?_; rintro x w2 ⟨rfl, rfl⟩)
              go_ret
              exact ⟨by rw [HX.out]; rfl, rfl⟩
      · obtain rfl : p = n := by omega
        have hxx : ¬ (p : Int) < (p : Int) := by omega
        have HF : Hid (R = true) := by
          show _ = _
          rw [HQ.out, show s.size - 2 = k by have := HN.out; omega]
          exact HAK.out
        go_wp2_with fail
        go_ret
        exact ⟨by rw [HF.out]; rfl, rfl⟩
  · have HQ : Hid (R = labsF s 0) := by
      show _ = _
      rw [HR.out]
      unfold hostR labsF
      rw [if_neg hyes, if_pos (Nat.zero_le _), List.drop_zero]
    rw [Bool.not_eq_true] at hyes
    rw [hyes] at HBk
    have HLb : Hid (∀ f k W, Calls Tryz.prog 133 #[.string (s.extract f k)] W fun e w' => e = .returned (.bool (isLab (s.extract f k))) ∧ w' = W) := fun f k W => refLabel_any (s.extract f k) W (by rw [ByteArray.size_extract]; omega)
    have H1 : Hid (∀ f, f ≤ s.size → (∀ x ∈ (s.extract f s.size).data.toList, x ≠ (46 : UInt8)) → labsF s f = isLab (s.extract f s.size)) := fun f hf h => by
      unfold labsF
      rw [if_pos hf, ← ext_from, host_one h, str_of]
    have H2 : Hid (∀ f k (_ : f ≤ k) (hk : k < s.size), (∀ x ∈ (s.extract f k).data.toList, x ≠ (46 : UInt8)) → s[k].toNat = 46 → labsF s f = (isLab (s.extract f k) && labsF s (k + 1))) := fun f k hf hk h he => by
      have e46 : s[k] = 46 := UInt8.toNat_inj.1 he
      unfold labsF
      rw [if_pos (by omega), if_pos (by omega), drop_split s f k hf hk, e46, host_more h, str_of]
    have H3 : Hid (∀ f k (_ : f ≤ k) (hk : k < s.size), (∀ x ∈ (s.extract f k).data.toList, x ≠ (46 : UInt8)) → s[k].toNat ≠ 46 → ∀ x ∈ (s.extract f (k + 1)).data.toList, x ≠ (46 : UInt8)) := fun f k hf hk h he x hx => by
      rw [ext_snoc s f k hf hk] at hx
      rcases List.mem_append.1 hx with hx | hx
      · exact h x hx
      · rw [List.mem_singleton.1 hx]
        intro e; exact he (by rw [e]; rfl)
    have H4 : Hid (labsF s (s.size + 1) = true) := by show _ = _; unfold labsF; rw [if_neg (by omega)]
    have H5 : Hid (∀ f, ∀ x ∈ (s.extract f f).data.toList, x ≠ (46 : UInt8)) := fun f x hx => by
      rw [ext_list, Nat.sub_self, List.take_zero] at hx
      cases hx
    have hcond : (2 < s.size ∧ ∃ (h0 : 0 < s.size) (n : Nat) (hn : n < s.size), s.size = n + 1 ∧ (s[0].toNat = 91 ∧ s[n].toNat ≠ 93 ∨ s[0].toNat ≠ 91)) ∨ ¬ 2 < s.size := by
      by_cases h2 : 2 < s.size
      · refine Or.inl ⟨h2, by omega, s.size - 1, by omega, by omega, ?_⟩
        have hb := HBk.out.symm
        rw [decide_eq_true h2, Bool.true_and, head_is s (by omega), last_is s (by omega)] at hb
        by_cases h91 : (s[0]'(by omega)).toNat = 91
        · left
          refine ⟨h91, fun h93 => ?_⟩
          rw [decide_eq_true (UInt8.toNat_inj.1 h91 : s[0]'(by omega) = 91), decide_eq_true (UInt8.toNat_inj.1 h93 : s[s.size - 1]'(by omega) = 93)] at hb
          cases hb
        · exact Or.inr h91
      · exact Or.inr h2
    clear HBk HR hyes
    have hcond2 : (∃ n : Nat, ∃ (h0 : 0 < s.size) (hn : n < s.size), (2 : Int) < (s.size : Int) ∧ (0 : Int) < (s.size : Int) ∧ (n : Int) < (s.size : Int) ∧ IntKind.i64.wrap ((s.size : Int) - 1) = (n : Int) ∧ wrap64 ((s.size : Int) - 1) = (n : Int) ∧ (s[0].toNat : Int) = 91 ∧ ((s[n].toNat : Int) == 93) = false ∧ ¬ (s[n].toNat : Int) = 93) ∨ (∃ (h0 : 0 < s.size), (2 : Int) < (s.size : Int) ∧ (0 : Int) < (s.size : Int) ∧ ((s[0].toNat : Int) == 91) = false ∧ ¬ (s[0].toNat : Int) = 91) ∨ ¬ (2 : Int) < (s.size : Int) := by
      rcases hcond with ⟨h2, h0, n, hn, he, h | h⟩ | h
      · exact Or.inl ⟨n, h0, hn, by omega, by omega, by omega, by rw [wrap_le _ (by omega) (by omega)]; omega, by rw [IntWalk.wrap64_in _ (by omega)]; omega, by omega, beq_false_of_ne (by omega), by omega⟩
      · exact Or.inr (Or.inl ⟨h0, by omega, by omega, beq_false_of_ne (by omega), by omega⟩)
      · exact Or.inr (Or.inr (by omega))
    clear hcond
    rcases hcond2 with ⟨n, h0, hn, z1, z2, z3, z4, z5, z6, z7, z8⟩ | ⟨h0, z1, z2, z3, z4⟩ | z1
    all_goals
      go_enter Tryz.func115, Tryz.ntmps115
      go_wp2_with fail
      go_loopw [4, 5] (fun fr i wr => ∃ f k : Nat, f ≤ k ∧ k ≤ s.size + 1 ∧ fr = .int .i64 (f : Int) ∧ i = .int .i64 (k : Int) ∧ Hid (∀ x ∈ (s.extract f k).data.toList, x ≠ (46 : UInt8)) ∧ Hid (R = labsF s f) ∧ (k = s.size + 1 → f = k) ∧ wr = w) (fun _ i _ => s.size + 1 - (intOf i).toNat)
      case atStart => exact ⟨0, 0, Nat.le_refl _, Nat.zero_le _, rfl, rfl, H5.out 0, HQ, fun h => by omega, rfl⟩
      case round =>
        obtain ⟨f, k, hfk, hk, rfl, rfl, HD, HF, he, rfl⟩ := hrel
        by_cases hend : k = s.size + 1
        · have HG : Hid (R = true) := by show _ = _; rw [HF.out, he hend, hend]; exact H4.out
          have hki : ¬ (k : Int) ≤ (s.size : Int) := by omega
          clear he hend
          go_wp2_with fail
          go_ret
          exact ⟨by rw [HG.out]; rfl, rfl⟩
        have hki : (k : Int) ≤ (s.size : Int) := by omega
        have hfi : (f : Int) ≤ (k : Int) := by omega
        have f0 : (0 : Int) ≤ (f : Int) := Int.natCast_nonneg _
        clear he
        by_cases hlast : k = s.size
        · have HD1 : Hid (∀ x ∈ (s.extract f s.size).data.toList, x ≠ (46 : UInt8)) := by rw [← hlast]; exact HD
          have HG : Hid (R = isLab (s.extract f s.size)) := by show _ = _; rw [HF.out]; exact H1.out f (by omega) HD1.out
          have hL := HLb.out f s.size
          subst hlast
          have HLx := hide hL
          clear hL
          generalize isLab (s.extract f s.size) = t at *
          cases t with
          | true =>
            go_wp2_with (go_at_call 133; refine (HLx.out _).mono ?_; rintro x w2 ⟨rfl, rfl⟩)
            go_roundw
            case rel => exact ⟨s.size + 1, s.size + 1, Nat.le_refl _, Nat.le_refl _, by go_num, by go_num, H5.out _, by show _ = _; rw [HG.out, H4.out], fun _ => rfl, by trivial⟩
            case measure => simp [intOf]
          | false =>
            go_wp2_with (go_at_call 133; refine (HLx.out _).mono ?_; rintro x w2 ⟨rfl, rfl⟩)
            go_ret
            exact ⟨by rw [HG.out]; rfl, rfl⟩
        · have hlt : k < s.size := by omega
          have hlti : (k : Int) < (s.size : Int) := by omega
          have hnl : ¬ (k : Int) = (s.size : Int) := by omega
          have hnlb : ((k : Int) == (s.size : Int)) = false := beq_false_of_ne hnl
          rcases is_cases 46 46 rfl s[k] with ⟨a1, a2, a3⟩ | ⟨a1, a2, a3⟩
          · have HG : Hid (R = (isLab (s.extract f k) && labsF s (k + 1))) := by show _ = _; rw [HF.out]; exact H2.out f k hfk hlt HD.out (of_decide_eq_true a1)
            have HLx := hide (HLb.out f k)
            generalize isLab (s.extract f k) = t at *
            cases t with
            | true =>
              go_wp2_with (go_at_call 133; refine (HLx.out _).mono ?_; rintro x w2 ⟨rfl, rfl⟩)
              go_roundw
              case rel => exact ⟨k + 1, k + 1, Nat.le_refl _, by omega, by go_num, by go_num, H5.out _, by show _ = _; rw [HG.out]; rfl, fun h => rfl, by trivial⟩
              case measure => simp [intOf]; omega
            | false =>
              go_wp2_with (go_at_call 133; refine (HLx.out _).mono ?_; rintro x w2 ⟨rfl, rfl⟩)
              go_ret
              exact ⟨by rw [HG.out]; rfl, rfl⟩
          · have HD2 := hide (H3.out f k hfk hlt HD.out (of_decide_eq_false a1))
            go_wp2_with fail
            go_roundw
            case rel => exact ⟨f, k + 1, by omega, by omega, rfl, by go_num, HD2, HF, fun h => by omega, by trivial⟩
            case measure => simp [intOf]; omega
end Go.Proofs.YtimbhneegphhbaaGreatDoor.tm
