import Derived.Test.YthhkhpgffamdhaaDoorFieldTok
namespace Go.Proofs.YthhkhpgffamdhaaDoor.fd
open Go.ChangeShapes Go.WideShapes Go.ChangeAt Go.RowKit Go.Proofs.YthhkhpgffamdhaaDoor.common Go.Proofs.YthhkhpgffamdhaaDoor.bk
attribute [local go_sem ↓] Go.wp_at_zero Go.wp_at_succ

set_option maxHeartbeats 800000 in
theorem isCookieByte_any (b o : Nat) (c : UInt8) (w : World) (h : Tab w b o) :
    Calls Tryd.prog 69 #[.pointer (some ⟨b, o, none⟩), B c] w fun e w' => e = .returned (.bool (Fd.ck c)) ∧ w' = w := by
  have hc := c.toNat_lt
  have c0 := h.cell c
  clear h
  have hF := flag_ck c
  generalize Fd.flagN c.toNat = f at *
  generalize Fd.ck c = t at *
  have hci : (c.toNat : Int) < 256 := by omega
  have hc0 : (0 : Int) ≤ (c.toNat : Int) := Int.natCast_nonneg _
  rcases hF with ⟨rfl, rfl | rfl⟩ | ⟨rfl, rfl | rfl⟩
  all_goals
    go_enter Tryd.func69, Tryd.ntmps69
    go_wp2
    go_ret
    exact ⟨rfl, rfl⟩

theorem tests_ck (b o : Nat) (w : World) (h : Tab w b o) : Tests 69 (.pointer (some ⟨b, o, none⟩)) Fd.ck w :=
  fun W c hb => isCookieByte_any b o c W (h.below hb)
theorem enters_ck : ∀ args w, (callFunc 69 args).run Tryd.prog w = .ok (.enter 69 args) w := enters_of Tryd.func69 (by kernel_rfl) rfl

/-- may a cookie have this name and this value? -/
def isCk (n v : ByteArray) : Bool := Fd.token n.data.toList && v.data.toList.all Fd.ck

set_option maxRecDepth 100000 in
set_option maxHeartbeats 800000 in
theorem isCookie_any (b o : Nat) (n v : ByteArray) (w : World) (h : Tab w b o) (hn : n.size ≤ 4611686018427387904) (hv : v.size ≤ 4611686018427387904) :
    Calls Tryd.prog 37 #[.pointer (some ⟨b, o, none⟩), .string n, .string v] w fun e w' => e = .returned (.bool (isCk n v)) ∧ w' = w := by
  have HT := hide (isToken_any b o n w h hn)
  have HA := hide (all_m v _ (.pointer (some ⟨b, o, none⟩)) Fd.ck w hv enters_ck (tests_ck b o w h))
  clear h
  have hmf : ∀ (fn : Fn) (first cap : Array Value) (w : World), (Instr.makeFunc fn first cap).run Tryd.prog w = .ok (.func fn first cap) w := fun _ _ _ _ => rfl
  unfold isCk
  generalize Fd.token n.data.toList = t at *
  generalize v.data.toList.all Fd.ck = a at *
  cases t with
  | false =>
    go_enter Tryd.func37, Tryd.ntmps37
    go_wp2_with (go_at_call 28; refine HT.out.mono ?_; rintro x w2 ⟨rfl, rfl⟩)
    go_ret
    exact ⟨rfl, rfl⟩
  | true =>
    go_enter Tryd.func37, Tryd.ntmps37
    go_wp2_with (first
      | (go_at_call 28; refine HT.out.mono ?_; rintro x w2 ⟨rfl, rfl⟩)
      | (go_at_call 51; refine HA.out.mono ?_; rintro x w2 ⟨rfl, rfl⟩))
    go_ret
    exact ⟨rfl, rfl⟩

theorem ck_cases (c : UInt8) : (Fd.ck c = true ∧ (33 ≤ c.toNat ∧ c.toNat ≤ 126 ∧ c.toNat ≠ 34 ∧ c.toNat ≠ 44 ∧ c.toNat ≠ 59 ∧ c.toNat ≠ 92)) ∨ (Fd.ck c = false ∧ ¬ (33 ≤ c.toNat ∧ c.toNat ≤ 126 ∧ c.toNat ≠ 34 ∧ c.toNat ≠ 44 ∧ c.toNat ≠ 59 ∧ c.toNat ≠ 92)) := dec_cases rfl

set_option maxRecDepth 100000 in
set_option maxHeartbeats 3200000 in
theorem refCkValue_any (s : ByteArray) (w : World) (hs : s.size ≤ 4611686018427387904) :
    Calls Tryd.prog 45 #[.string s] w fun e w' => e = .returned (.bool (s.data.toList.all Fd.ck)) ∧ w' = w := by
  have HT : Hid (∀ k (_ : k < s.size), (s.data.toList.take (k + 1)).all Fd.ck = ((s.data.toList.take k).all Fd.ck && Fd.ck s[k])) := fun k h => all_take _ Fd.ck k (by simpa using h)
  have HE : Hid (s.data.toList.take s.size = s.data.toList) := take_all s
  have HA : Hid (∀ k, (s.data.toList.take k).all Fd.ck = false → s.data.toList.all Fd.ck = false) := by
    intro k h
    have e : s.data.toList.all Fd.ck = ((s.data.toList.take k).all Fd.ck && (s.data.toList.drop k).all Fd.ck) := by rw [← List.all_append, List.take_append_drop]
    rw [e, h]; rfl
  go_enter Tryd.func45, Tryd.ntmps45
  go_wp2_with fail
  go_loopw [3] (fun i wr => ∃ k : Nat, k ≤ s.size ∧ i = .int .i64 k ∧ (s.data.toList.take k).all Fd.ck = true ∧ wr = w) (fun i _ => s.size - (intOf i).toNat)
  case atStart => exact ⟨0, Nat.zero_le _, rfl, by simp, rfl⟩
  case round =>
    obtain ⟨k, hk, rfl, ha, rfl⟩ := hrel
    have HAK := hide ha
    clear ha
    by_cases hlt : k < s.size
    · have hki : (k : Int) < (s.size : Int) := by omega
      have HTK := hide (HT.out k hlt)
      rcases ck_cases s[k] with ⟨hp, hr⟩ | ⟨hp, hr⟩
      · have HP := hide hp
        clear hp
        obtain ⟨q1, q2, q3, q4, q5, q6⟩ := hr
        have p1 : ¬ (s[k].toNat : Int) < 33 := by omega
        have p2 : ¬ (126 : Int) < (s[k].toNat : Int) := by omega
        have p3 : ((s[k].toNat : Int) == 34) = false := beq_false_of_ne (by omega)
        have p4 : ((s[k].toNat : Int) == 44) = false := beq_false_of_ne (by omega)
        have p5 : ((s[k].toNat : Int) == 59) = false := beq_false_of_ne (by omega)
        have p6 : ((s[k].toNat : Int) == 92) = false := beq_false_of_ne (by omega)
        clear q1 q2 q3 q4 q5 q6
        go_wp2_with fail
        go_roundw
        case rel => exact ⟨k + 1, by omega, by go_num, by rw [HTK.out, HAK.out, HP.out]; rfl, by trivial⟩
        case measure => simp [intOf]; omega
      · have HP := hide hp
        clear hp
        have HR : Hid (s.data.toList.all Fd.ck = false) := HA.out (k + 1) (by rw [HTK.out, HP.out, Bool.and_false])
        have hr6 : (s[k].toNat : Int) < 33 ∨ (126 : Int) < (s[k].toNat : Int) ∨ (s[k].toNat : Int) = 34 ∨ (s[k].toNat : Int) = 44 ∨ (s[k].toNat : Int) = 59 ∨ (s[k].toNat : Int) = 92 := by omega
        clear hr
        rcases hr6 with h | h | h | h | h | h
        all_goals
          go_wp2_with fail
          go_ret
          exact ⟨by rw [HR.out]; rfl, rfl⟩
    · obtain rfl : k = s.size := by omega
      rw [HE.out] at HAK
      go_wp2_with fail
      go_ret
      exact ⟨by rw [HAK.out]; rfl, rfl⟩

end Go.Proofs.YthhkhpgffamdhaaDoor.fd
