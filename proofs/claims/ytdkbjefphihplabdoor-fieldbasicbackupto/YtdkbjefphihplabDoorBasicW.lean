import Derived.Test.YtdkbjefphihplabDoorRdBasic
import Derived.Test.YtdkbjefphihplabDoorCutOne
import Derived.Test.YtdkbjefphihplabDoorCkB
import Derived.Test.YtdkbjefphihplabDoorUnStdWalks
import Derived.Test.YtdkbjefphihplabDoorUnescWalks
import Derived.Test.YtdkbjefphihplabDoorLookName
namespace Go.Proofs.YtdkbjefphihplabDoor.fd
open Go.ChangeShapes Go.WideShapes Go.ChangeAt Go.RowKit Go.Proofs.YtdkbjefphihplabDoor.common Go.Proofs.YtdkbjefphihplabDoor.bk
attribute [local go_sem ↓] Go.wp_at_zero Go.wp_at_succ

def isBl (c : UInt8) : Bool := decide (c = 32)
theorem isBlank_any (c : UInt8) (w : World) : Calls Tryd.prog 85 #[B c] w fun e w' => e = .returned (.bool (isBl c)) ∧ w' = w := by
  by_cases h : c = 32
  · subst h
    go_enter Tryd.func85, Tryd.ntmps85
    go_wp2
    go_ret
    exact ⟨rfl, rfl⟩
  · have hi : ¬ (c.toNat : Int) = 32 := fun e => h (UInt8.toNat_inj.1 (by show c.toNat = 32; omega))
    have hb : ((c.toNat : Int) == 32) = false := beq_false_of_ne hi
    have HB : Hid (isBl c = false) := decide_eq_false h
    rw [HB.out]
    clear h
    go_enter Tryd.func85, Tryd.ntmps85
    go_wp2
    go_ret
    exact ⟨by simp, rfl⟩
theorem enters_blank : ∀ args w, (callFunc 85 args).run Tryd.prog w = .ok (.enter 85 args) w := enters_of Tryd.func85 (by kernel_rfl) rfl

set_option maxRecDepth 100000 in
set_option maxHeartbeats 800000 in
theorem rest_any (b : Nat) (s : ByteArray) (l : List UInt8) (w : World) (h : At w b s l) :
    Calls Tryd.prog 87 #[ptr b] w fun e w' => e = .returned (S l) ∧ ∃ m, w' = w.drewN m := by
  have c0 := h.2.c0
  have c1 := h.2.c1
  have hl := h.len
  have HX : Hid (s.extract (s.size - l.length) s.size = ⟨l.toArray⟩) := by
    show _ = _
    have := extract_suffix (m := l) (l := []) (s := s) (by rw [List.append_nil]; exact h.1)
    rw [List.append_nil] at this
    exact this
  have k0 : (0 : Int) ≤ ((s.size - l.length : Nat) : Int) := Int.natCast_nonneg _
  have k1 : ((s.size - l.length : Nat) : Int) ≤ (s.size : Int) := by omega
  clear h
  generalize s.size - l.length = K at *
  go_enter Tryd.func87, Tryd.ntmps87
  go_wp2_with fail
  go_quiet (fail)
  go_wp2_with fail
  go_ret
  exact ⟨by simp [HX.out], _, rfl⟩

set_option maxRecDepth 100000 in
set_option maxHeartbeats 800000 in
theorem scheme_any (b : Nat) (s : ByteArray) (l : List UInt8) (w : World) (h : At w b s l) (hs : s.size ≤ 4611686018427387904) :
    Calls Tryd.prog 52 #[ptr b] w fun e w' => e = .returned (S (l.takeWhile Fd.tok)) ∧ At w' b s (l.dropWhile Fd.tok) ∧ Mv b w w' := by
  have hmf : ∀ (fn : Fn) (first cap : Array Value) (w : World), (Instr.makeFunc fn first cap).run Tryd.prog w = .ok (.func fn first cap) w := fun _ _ _ _ => rfl
  have HT : Hid (∀ W, At W b s l → Calls Tryd.prog 61 #[ptr b, .func (.func 64) #[.pointer (some ⟨b, 2, none⟩)] #[]] W fun e w' => e = .returned (S (l.takeWhile Fd.tok)) ∧ At w' b s (l.dropWhile Fd.tok) ∧ Mv b W w') :=
    fun W hW => takeWhile_m b s l _ _ Fd.tok W hW hs enters_tok (fun X c hX => isTokenByte_any b 2 c X hX)
  have HA := hide h
  clear h
  go_enter Tryd.func52, Tryd.ntmps52
  go_wp2_with fail
  go_region_with (go_at_call 61; refine (HT.out _ HA.out.drew).mono ?_; rintro x w2 ⟨rfl, ha, hm⟩)
  all_goals
    go_wp2_with fail
    go_ret
    exact ⟨rfl, ha, ((Mv.refl _ _).drew).trans hm⟩

end Go.Proofs.YtdkbjefphihplabDoor.fd
