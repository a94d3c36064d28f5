import Derived.Test.YtmdjppjfjkgnpaaDoorRedM
namespace Go.Proofs.YtmdjppjfjkgnpaaDoor.tm
open Go.ChangeShapes Go.WideShapes Go.ChangeAt Go.RowKit Go.Proofs.YtmdjppjfjkgnpaaDoor.common Go.Proofs.YtmdjppjfjkgnpaaDoor.bk
attribute [local go_sem ↓] Go.wp_at_zero Go.wp_at_succ

def ex1 : List UInt8 := [104, 116, 116, 112, 115, 58, 47, 47, 97, 112, 112, 46, 101, 120, 97, 109, 112, 108, 101, 47, 99, 98]
def ex2 : List UInt8 := [104, 116, 116, 112, 58, 47, 47, 108, 111, 99, 97, 108, 104, 111, 115, 116, 58, 56, 48, 56, 48, 47, 99, 98]
def ex3 : List UInt8 := [99, 111, 109, 46, 101, 120, 97, 109, 112, 108, 101, 46, 97, 112, 112, 58, 47, 99, 98]
theorem ex1_red : redL ex1 = true := by decide +kernel
theorem ex2_red : redL ex2 = true := by decide +kernel
theorem ex3_red : redL ex3 = true := by decide +kernel

set_option maxRecDepth 100000 in
set_option maxHeartbeats 6400000 in
theorem head_any (s h : ByteArray) (w : World) :
    Calls Tryd.prog 8 #[.string s, .string h] w fun e w' => e = .returned (.bool (h.data.toList.isPrefixOf s.data.toList)) ∧ w' = w := by
  by_cases hle : h.size ≤ s.size
  · have h2 : (h.size : Int) ≤ (s.size : Int) := by omega
    have HX : Hid ((s.extract 0 h.size).data.toList = s.data.toList.take h.size) := ext_to s h.size
    go_enter Tryd.func8, Tryd.ntmps8
    go_wp2
    go_ret
    refine ⟨?_, rfl⟩
    rw [pre_take, len_list, ← HX.out]
    by_cases he : s.extract 0 h.size = h
    · rw [decide_eq_true (by rw [he])]; simp [he]
    · rw [decide_eq_false (fun h => he (ByteArray.ext (Array.toList_inj.1 h)))]
      have hb : ((s.extract 0 h.size).toList == h.toList) = false := beq_false_of_ne (fun h => he (ByteArray.ext (Array.toList_inj.1 (by rw [← ByteArray.toList_eq, ← ByteArray.toList_eq]; exact h))))
      show Ending.returned (Value.bool ((s.extract 0 h.size).toList == h.toList)) = _
      rw [hb]
  · have h2 : ¬ (h.size : Int) ≤ (s.size : Int) := by omega
    have h2d : decide ((h.size : Int) ≤ (s.size : Int)) = false := decide_eq_false h2
    rw [pre_short _ _ (by rw [len_list, len_list]; omega)]
    go_enter Tryd.func8, Tryd.ntmps8
    go_wp2
    go_ret
    exact ⟨rfl, rfl⟩

/-- what stands behind n bytes is what may stand behind a host -/
def endsOk (l : List UInt8) : Prop := l = [] ∨ ∃ c t, l = c :: t ∧ (c = 58 ∨ c = 47 ∨ c = 63)
set_option maxRecDepth 100000 in
set_option maxHeartbeats 6400000 in
theorem ends_any (s : ByteArray) (n : Nat) (w : World) (hn : n ≤ s.size) (h : endsOk (s.data.toList.drop n)) :
    Calls Tryd.prog 9 #[.string s, .int .i64 (n : Int)] w fun e w' => e = .returned (.bool true) ∧ w' = w := by
  by_cases he : s.size = n
  · subst he
    go_enter Tryd.func9, Tryd.ntmps9
    go_wp2
    go_ret
    exact ⟨rfl, rfl⟩
  · have hlt : n < s.size := by omega
    have hlti : (n : Int) < (s.size : Int) := by omega
    have hne : ¬ (s.size : Int) = (n : Int) := by omega
    have hneb : ((s.size : Int) == (n : Int)) = false := beq_false_of_ne hne
    rw [drop_at2 s n hlt] at h
    have hc : s[n].toNat = 58 ∨ s[n].toNat = 47 ∨ s[n].toNat = 63 := by
      rcases h with h | ⟨c, t, h, hc⟩
      · cases h
      · obtain ⟨h1, _⟩ := List.cons.inj h
        rw [h1]
        rcases hc with rfl | rfl | rfl
        · exact Or.inl rfl
        · exact Or.inr (Or.inl rfl)
        · exact Or.inr (Or.inr rfl)
    clear h
    rcases hc with hc | hc | hc
    · have hci : (s[n].toNat : Int) = 58 := by omega
      clear hc
      go_enter Tryd.func9, Tryd.ntmps9
      go_wp2
      go_ret
      exact ⟨by first | rfl | simp [hci] | (simp [hci]; rfl), rfl⟩
    · have hci : (s[n].toNat : Int) = 47 := by omega
      clear hc
      go_enter Tryd.func9, Tryd.ntmps9
      go_wp2
      go_ret
      exact ⟨by first | rfl | simp [hci] | (simp [hci]; rfl), rfl⟩
    · have hci : (s[n].toNat : Int) = 63 := by omega
      clear hc
      go_enter Tryd.func9, Tryd.ntmps9
      go_wp2
      go_ret
      exact ⟨by first | rfl | simp [hci] | (simp [hci]; rfl), rfl⟩

theorem red_b (x : ByteArray) {w W : World} (h : Nums w) (hl : Loc w) (hb : Below w.heap.size w W) :
    Calls Tryd.prog 7 #[.string x] W fun e w' => e = .returned (.bool (redL x.data.toList)) ∧ Below w.heap.size w w' :=
  (red_any x W (h.below hb) (hl.below hb)).mono fun _ _ k => ⟨k.1, keepD hb k.2⟩

end Go.Proofs.YtmdjppjfjkgnpaaDoor.tm
