import Derived.Test.YtilhfmhjgfmejaaGreatDoorMRgFind
namespace Go.Proofs.YtilhfmhjgfmejaaGreatDoor.rg
open Go.ChangeShapes Go.WideShapes Go.ChangeAt Go.RowKit Go.Proofs.YtilhfmhjgfmejaaGreatDoor.common Go.Proofs.YtilhfmhjgfmejaaGreatDoor.bk Go.Maps
attribute [local go_sem ↓] Go.wp_at_zero Go.wp_at_succ

/-- how often x stands in l -/
def cnt (x : ByteArray) (l : List ByteArray) : Nat := (l.filter fun y => decide (y = x)).length
theorem cnt_le (x : ByteArray) (l : List ByteArray) : cnt x l ≤ l.length := List.length_filter_le _ _
theorem cnt_snoc (x : ByteArray) (l : List ByteArray) (k : Nat) (h : k < l.length) : cnt x (l.take (k + 1)) = cnt x (l.take k) + (if l[k] = x then 1 else 0) := by
  unfold cnt
  rw [List.take_succ_eq_append_getElem h, List.filter_append, List.length_append]
  by_cases e : l[k] = x <;> simp [e]
theorem cnt_has (x : ByteArray) (l : List ByteArray) : decide (0 < cnt x l) = ss.has x l := by
  cases h : ss.has x l with
  | true =>
    have hm := ss.has_iff.1 h
    exact decide_eq_true (List.length_pos_of_mem (List.mem_filter.2 ⟨hm, by simp⟩))
  | false =>
    refine decide_eq_false ?_
    intro h0
    obtain ⟨y, hy⟩ := List.exists_mem_of_length_pos h0
    have := (List.mem_filter.1 hy)
    have e : y = x := of_decide_eq_true this.2
    rw [ss.has_iff.2 (e ▸ this.1)] at h
    cases h

set_option maxRecDepth 100000 in
set_option maxHeartbeats 1600000 in
theorem times_any (w : World) (v : Value) (l : List ByteArray) (x : ByteArray) (hl : ss.Lies w v l) (hs : l.length ≤ 4611686018427387904) :
    Calls Tryz.prog 40 #[v, .string x] w fun e w' => e = .returned (.int .i64 (cnt x l)) ∧ w' = w := by
  obtain ⟨oa, cap, rfl, hc⟩ := hl
  have HC := hide hc
  clear hc
  go_enter Tryz.func40, Tryz.ntmps40
  go_wp2_with fail
  go_loopw [5, 6] (fun c i wr => ∃ k : Nat, k ≤ l.length ∧ i = .int .i64 k ∧ c = .int .i64 (cnt x (l.take k)) ∧ wr = w) (fun _ i _ => l.length - (intOf i).toNat)
  case atStart => exact ⟨0, Nat.zero_le _, rfl, rfl, rfl⟩
  case round =>
    obtain ⟨k, hk, rfl, rfl, rfl⟩ := hrel
    have hcl := cnt_le x (l.take k)
    by_cases hlt : k < l.length
    · have hki : (k : Int) < (l.length : Int) := by omega
      have htl : (l.take k).length = k := by rw [List.length_take]; omega
      rw [htl] at hcl
      obtain ⟨b, o, rfl, hb, c0⟩ := HC.out k hlt
      have HS := hide (cnt_snoc x l k hlt)
      clear htl
      by_cases he : l[k] = x
      · rw [he] at c0
        have HS1 : Hid (cnt x (l.take (k + 1)) = cnt x (l.take k) + 1) := by show _ = _; rw [HS.out, if_pos he]
        clear HS he
        generalize cnt x (l.take k) = n at *
        go_wp2_with fail
        go_roundw
        case rel => exact ⟨k + 1, by omega, by go_num, by rw [HS1.out]; go_num, by trivial⟩
        case measure => simp [intOf]; omega
      · have e1 : (l[k].toList == x.toList) = false := ne_list he
        have HS1 : Hid (cnt x (l.take (k + 1)) = cnt x (l.take k)) := by show _ = _; rw [HS.out, if_neg he]; rfl
        clear HS
        generalize l[k] = p at *
        generalize cnt x (l.take k) = n at *
        go_wp2_with fail
        go_roundw
        case rel => exact ⟨k + 1, by omega, by go_num, by rw [HS1.out], by trivial⟩
        case measure => simp [intOf]; omega
    · obtain rfl : k = l.length := by omega
      rw [List.take_length] at *
      go_wp2_with fail
      go_ret
      exact ⟨rfl, rfl⟩

end Go.Proofs.YtilhfmhjgfmejaaGreatDoor.rg
