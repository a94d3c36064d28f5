import Derived.Test.YtlbhiefamnpphaaDoorJdSay
import Derived.Test.YtlbhiefamnpphaaDoorJdOpen
import Derived.Lib.Bytealg
import Derived.Laws.Externs
namespace Go.Proofs.YtlbhiefamnpphaaDoor.je
open Go.ChangeShapes Go.WideShapes Go.ChangeAt Go.RowKit Go.Proofs.YtlbhiefamnpphaaDoor.common Go.Proofs.YtlbhiefamnpphaaDoor.Jc Go.Proofs.YtlbhiefamnpphaaDoor.jc
attribute [local go_sem ↓] Go.wp_at_zero Go.wp_at_succ

theorem len_list (s : ByteArray) : s.data.toList.length = s.size := by simp
theorem ext_list (s : ByteArray) (a b : Nat) : (s.extract a b).data.toList = (s.data.toList.drop a).take (b - a) := by
  rw [ByteArray.data_extract, Array.toList_extract, List.extract_eq_take_drop]
theorem pre_take (p l : List UInt8) : p.isPrefixOf l = decide (l.take p.length = p) := by
  by_cases h : l.take p.length = p
  · rw [decide_eq_true h]
    exact List.isPrefixOf_iff_prefix.2 ⟨l.drop p.length, by conv => lhs; arg 1; rw [← h]
                                                            exact List.take_append_drop _ _⟩
  · rw [decide_eq_false h]
    apply Bool.eq_false_iff.2
    intro h2
    obtain ⟨t, ht⟩ := List.isPrefixOf_iff_prefix.1 h2
    apply h
    rw [← ht]; simp
theorem pre_short (p l : List UInt8) (h : l.length < p.length) : p.isPrefixOf l = false := by
  rw [pre_take]
  apply decide_eq_false
  intro e
  have := congrArg List.length e
  rw [List.length_take] at this
  omega

set_option maxRecDepth 100000 in
set_option maxHeartbeats 400000 in
theorem slite_any (s p : ByteArray) (w : World) :
    Calls Tryd.prog 62 #[.string s, .string p] w fun e w' => e = .returned (.bool (p.data.toList.isPrefixOf s.data.toList)) ∧ w' = w := by
  by_cases hle : p.size ≤ s.size
  · have h2 : (p.size : Int) ≤ (s.size : Int) := by omega
    have hx := ext_list s 0 p.size
    rw [Nat.sub_zero, List.drop_zero] at hx
    have HX := hide hx
    have z0 : (0 : Int) ≤ (p.size : Int) := by omega
    clear hx
    go_enter Tryd.func62, Tryd.ntmps62
    go_wp2
    go_ret
    refine ⟨?_, rfl⟩
    rw [pre_take, len_list, ← HX.out]
    by_cases he : s.extract 0 p.size = p
    · rw [decide_eq_true (by rw [he])]; simp [he]
    · rw [decide_eq_false (fun h => he (ByteArray.ext (Array.toList_inj.1 h)))]
      have hb : ((s.extract 0 p.size).toList == p.toList) = false := beq_false_of_ne (fun h => he (ByteArray.ext (Array.toList_inj.1 (by rw [← ByteArray.toList_eq, ← ByteArray.toList_eq]; exact h))))
      show Ending.returned (Value.bool ((s.extract 0 p.size).toList == p.toList)) = _
      rw [hb]
  · have h2 : ¬ (p.size : Int) ≤ (s.size : Int) := by omega
    have h2d : decide ((p.size : Int) ≤ (s.size : Int)) = false := decide_eq_false h2
    rw [pre_short _ _ (by rw [len_list, len_list]; omega)]
    go_enter Tryd.func62, Tryd.ntmps62
    go_wp2
    go_ret
    exact ⟨rfl, rfl⟩
/-- what is left behind markup -/
def cutB (s p : ByteArray) : ByteArray × Bool := if p.data.toList.isPrefixOf s.data.toList then (s.extract p.size s.size, true) else (s, false)

set_option maxRecDepth 100000 in
set_option maxHeartbeats 800000 in
theorem slcut_any (s p : ByteArray) (w : World) :
    Calls Tryd.prog 73 #[.string s, .string p] w fun e w' => e = .returned (.tuple #[.string (cutB s p).1, .bool (cutB s p).2]) ∧ w' = w := by
  unfold cutB
  have HC := hide (fun W => slite_any s p W)
  cases hp : p.data.toList.isPrefixOf s.data.toList with
  | true =>
    rw [hp] at HC
    have hle : p.size ≤ s.size := by
      obtain ⟨r, hr⟩ := List.isPrefixOf_iff_prefix.1 hp
      have := congrArg List.length hr
      rw [List.length_append, len_list, len_list] at this
      omega
    have h1 : (p.size : Int) ≤ (s.size : Int) := by omega
    clear hp
    go_enter Tryd.func73, Tryd.ntmps73
    go_wp2_with (go_at_call 62; refine (HC.out _).mono ?_; rintro e w' ⟨rfl, rfl⟩)
    go_ret2
    exact ⟨rfl, rfl⟩
  | false =>
    rw [hp] at HC
    clear hp
    go_enter Tryd.func73, Tryd.ntmps73
    go_wp2_with (go_at_call 62; refine (HC.out _).mono ?_; rintro e w' ⟨rfl, rfl⟩)
    go_ret2
    exact ⟨rfl, rfl⟩
set_option maxRecDepth 100000 in
theorem cutPrefix_any (s p : ByteArray) (w : World) :
    Calls Tryd.prog 65 #[.string s, .string p] w fun e w' => e = .returned (.tuple #[.string (cutB s p).1, .bool (cutB s p).2]) ∧ w' = w := by
  have HC := hide (fun W => slcut_any s p W)
  generalize (cutB s p).1 = x at *
  generalize (cutB s p).2 = y at *
  go_enter Tryd.func65, Tryd.ntmps65
  go_wp2_with (go_at_call 73; refine (HC.out _).mono ?_; rintro e w' ⟨rfl, rfl⟩)
  go_ret2
  exact ⟨rfl, rfl⟩

set_option maxRecDepth 100000 in
theorem indexB_any (s : ByteArray) (c : UInt8) (w : World) :
    Calls Tryd.prog 74 #[.string s, B c] w fun e w' => e = .returned (.int .i64 (Lib.indexByte s.data.toList c)) ∧ w' = w := by
  go_enter Tryd.func74, Tryd.ntmps74
  go_wp2_with fail
  rw [run_callFunc_extern Tryd.func80 (by kernel_rfl) (by kernel_rfl) (by kernel_rfl) (e := Extern.BytealgIndexByte.indexByte) (by kernel_rfl), Lib.run_indexByteString]
  have e : ((c.toNat : Int)).toNat.toUInt8 = c := by simp
  rw [e]
  simp only [Result.andThen]
  rw [Oper.upon_value]
  go_wp2
  go_ret
  exact ⟨rfl, rfl⟩
set_option maxRecDepth 100000 in
theorem sIndexB_any (s : ByteArray) (c : UInt8) (w : World) :
    Calls Tryd.prog 66 #[.string s, B c] w fun e w' => e = .returned (.int .i64 (Lib.indexByte s.data.toList c)) ∧ w' = w := by
  have HC := hide (fun W => indexB_any s c W)
  generalize Lib.indexByte s.data.toList c = i at *
  go_enter Tryd.func66, Tryd.ntmps66
  go_wp2_with (go_at_call 74; refine (HC.out _).mono ?_; rintro e w' ⟨rfl, rfl⟩)
  go_ret
  exact ⟨rfl, rfl⟩


end Go.Proofs.YtlbhiefamnpphaaDoor.je
