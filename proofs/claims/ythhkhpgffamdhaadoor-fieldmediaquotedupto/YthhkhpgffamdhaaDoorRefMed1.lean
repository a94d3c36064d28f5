import Derived.Test.YthhkhpgffamdhaaDoorMedM
import Derived.Test.YthhkhpgffamdhaaDoorRefLow
namespace Go.Proofs.YthhkhpgffamdhaaDoor.fd
open Go.ChangeShapes Go.WideShapes Go.ChangeAt Go.RowKit Go.Proofs.YthhkhpgffamdhaaDoor.common Go.Proofs.YthhkhpgffamdhaaDoor.bk
attribute [local go_sem ↓] Go.wp_at_zero Go.wp_at_succ

/-- the place behind what a text begins with from a place on -/
theorem drop_while_at {p : UInt8 → Bool} {l : List UInt8} {a k : Nat} (hak : a ≤ k) (hk : k ≤ l.length) (h1 : ∀ x ∈ (l.drop a).take (k - a), p x = true) (h2 : l.length ≤ k ∨ p (l.getD k 0) = false) :
    (l.drop a).takeWhile p = (l.drop a).take (k - a) ∧ (l.drop a).dropWhile p = l.drop k := by
  have hq : (l.drop a).length ≤ k - a ∨ p ((l.drop a).getD (k - a) 0) = false := by
    rcases h2 with h | h
    · left; rw [List.length_drop]; omega
    · right
      rw [List.getD_eq_getElem?_getD, List.getElem?_drop, show a + (k - a) = k by omega, ← List.getD_eq_getElem?_getD]
      exact h
  obtain ⟨e1, e2⟩ := span_at h1 hq
  rw [List.drop_drop, show a + (k - a) = k by omega] at e2
  exact ⟨e1, e2⟩
theorem more_at {p : UInt8 → Bool} {l : List UInt8} {a k : Nat} (hak : a ≤ k) (hk : k < l.length) (h1 : ∀ x ∈ (l.drop a).take (k - a), p x = true) (h2 : p (l.getD k 0) = true) : ∀ x ∈ (l.drop a).take (k + 1 - a), p x = true := by
  intro x hx
  rw [show k + 1 - a = (k - a) + 1 by omega, List.take_succ_eq_append_getElem (by rw [List.length_drop]; omega)] at hx
  rcases List.mem_append.1 hx with hx | hx
  · exact h1 x hx
  · simp at hx
    subst hx
    have e : a + (k - a) = k := by omega
    simp only [e]
    rw [List.getD_eq_getElem?_getD, List.getElem?_eq_getElem hk] at h2
    exact h2
set_option maxRecDepth 100000 in
set_option maxHeartbeats 1600000 in
theorem refTok6_any (s : ByteArray) (a : Nat) (w : World) (ha : a ≤ s.size) (hs : s.size ≤ 4611686018427387904) :
    Calls Tryd.prog 32 #[.string s, .int .i64 a] w fun e w' => (∃ k : Nat, a ≤ k ∧ k ≤ s.size ∧ e = .returned (.int .i64 k) ∧ (s.data.toList.drop a).takeWhile Fd.tok = (s.data.toList.drop a).take (k - a) ∧ (s.data.toList.drop a).dropWhile Fd.tok = s.data.toList.drop k) ∧ w' = w := by
  have HLL := hide (len_list s)
  go_enter Tryd.func32, Tryd.ntmps32
  go_wp2_with fail
  go_loopw [1] (fun i wr => ∃ k : Nat, a ≤ k ∧ k ≤ s.size ∧ i = .int .i64 k ∧ (∀ x ∈ (s.data.toList.drop a).take (k - a), Fd.tok x = true) ∧ wr = w) (fun i _ => s.size - (intOf i).toNat)
  case atStart => exact ⟨a, Nat.le_refl _, ha, rfl, fun x hx => by simp at hx, rfl⟩
  case round =>
    obtain ⟨k, hak, hk, rfl, hall, rfl⟩ := hrel
    have HALL := hide hall
    clear hall
    by_cases hlt : k < s.size
    · have hki : (k : Int) < (s.size : Int) := by omega
      have HGD := hide (getD_list s k hlt)
      have HT := hide (fun W => tokenByte_any s[k] W)
      cases hp : Fd.tok s[k] with
      | true =>
        rw [hp] at HT
        have HNX := hide (more_at (l := s.data.toList) hak (by rw [HLL.out]; exact hlt) HALL.out (by rw [HGD.out]; exact hp))
        clear hp
        go_wp2_with (go_at_call 66; refine (HT.out _).mono ?_; rintro x w2 ⟨rfl, rfl⟩)
        go_roundw
        case rel => exact ⟨k + 1, by omega, by omega, by go_num, HNX.out, by trivial⟩
        case measure => simp [intOf]; omega
      | false =>
        rw [hp] at HT
        have HNX := hide (drop_while_at (l := s.data.toList) hak (by rw [HLL.out]; omega) HALL.out (Or.inr (by rw [HGD.out]; exact hp)))
        clear hp
        go_wp2_with (go_at_call 66; refine (HT.out _).mono ?_; rintro x w2 ⟨rfl, rfl⟩)
        go_ret
        exact ⟨⟨k, hak, hk, rfl, HNX.out.1, HNX.out.2⟩, rfl⟩
    · have hkn : ¬ (k : Int) < (s.size : Int) := by omega
      have HNX := hide (drop_while_at (l := s.data.toList) hak (by rw [HLL.out]; omega) HALL.out (Or.inl (by rw [HLL.out]; omega)))
      go_wp2_with fail
      go_ret
      exact ⟨⟨k, hak, hk, rfl, HNX.out.1, HNX.out.2⟩, rfl⟩

set_option maxRecDepth 100000 in
set_option maxHeartbeats 1600000 in
theorem refWhite_any (s : ByteArray) (a : Nat) (w : World) (ha : a ≤ s.size) (hs : s.size ≤ 4611686018427387904) :
    Calls Tryd.prog 33 #[.string s, .int .i64 a] w fun e w' => (∃ k : Nat, a ≤ k ∧ k ≤ s.size ∧ e = .returned (.int .i64 k) ∧ (s.data.toList.drop a).dropWhile Fd.white = s.data.toList.drop k) ∧ w' = w := by
  have HLL := hide (len_list s)
  go_enter Tryd.func33, Tryd.ntmps33
  go_wp2_with fail
  go_loopw [1] (fun i wr => ∃ k : Nat, a ≤ k ∧ k ≤ s.size ∧ i = .int .i64 k ∧ (∀ x ∈ (s.data.toList.drop a).take (k - a), Fd.white x = true) ∧ wr = w) (fun i _ => s.size - (intOf i).toNat)
  case atStart => exact ⟨a, Nat.le_refl _, ha, rfl, fun x hx => by simp at hx, rfl⟩
  case round =>
    obtain ⟨k, hak, hk, rfl, hall, rfl⟩ := hrel
    have HALL := hide hall
    clear hall
    by_cases hlt : k < s.size
    · have hki : (k : Int) < (s.size : Int) := by omega
      have HGD := hide (getD_list s k hlt)
      rcases white_cases s[k] with ⟨hp, hc | hc⟩ | ⟨hp, hc⟩
      · have HNX := hide (more_at (l := s.data.toList) hak (by rw [HLL.out]; exact hlt) HALL.out (by rw [HGD.out]; exact hp))
        have h1 : (s[k].toNat : Int) = 32 := by omega
        clear hp hc
        go_wp2_with fail
        go_roundw
        case rel => exact ⟨k + 1, by omega, by omega, by go_num, HNX.out, by trivial⟩
        case measure => simp [intOf]; omega
      · have HNX := hide (more_at (l := s.data.toList) hak (by rw [HLL.out]; exact hlt) HALL.out (by rw [HGD.out]; exact hp))
        have h1 : (s[k].toNat : Int) = 9 := by omega
        clear hp hc
        go_wp2_with fail
        go_roundw
        case rel => exact ⟨k + 1, by omega, by omega, by go_num, HNX.out, by trivial⟩
        case measure => simp [intOf]; omega
      · have HNX := hide (drop_while_at (l := s.data.toList) hak (by rw [HLL.out]; omega) HALL.out (Or.inr (by rw [HGD.out]; exact hp)))
        have h1 : ((s[k].toNat : Int) == 32) = false := beq_false_of_ne (by omega)
        have h2 : ((s[k].toNat : Int) == 9) = false := beq_false_of_ne (by omega)
        have h3 : ¬ (s[k].toNat : Int) = 32 := by omega
        have h4 : ¬ (s[k].toNat : Int) = 9 := by omega
        clear hp hc
        go_wp2_with fail
        go_ret
        exact ⟨⟨k, hak, hk, rfl, HNX.out.2⟩, rfl⟩
    · have hkn : ¬ (k : Int) < (s.size : Int) := by omega
      have HNX := hide (drop_while_at (l := s.data.toList) hak (by rw [HLL.out]; omega) HALL.out (Or.inl (by rw [HLL.out]; omega)))
      go_wp2_with fail
      go_ret
      exact ⟨⟨k, hak, hk, rfl, HNX.out.2⟩, rfl⟩

end Go.Proofs.YthhkhpgffamdhaaDoor.fd
