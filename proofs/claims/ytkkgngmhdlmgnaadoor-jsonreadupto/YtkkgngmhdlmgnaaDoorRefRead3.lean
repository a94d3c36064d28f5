import Derived.Test.YtkkgngmhdlmgnaaDoorRefRead2
namespace Go.Proofs.YtkkgngmhdlmgnaaDoor.jw
open Go.ChangeShapes Go.WideShapes Go.ChangeAt Go.RowKit Go.Proofs.YtkkgngmhdlmgnaaDoor.common
attribute [local go_sem ↓] Go.wp_at_zero Go.wp_at_succ

set_option maxRecDepth 100000 in
set_option maxHeartbeats 1600000 in
theorem refShort_any (c : UInt8) (w : World) :
    Calls Tryd.prog 86 #[.int .u8 (c.toNat : Int)] w fun x w' => x = .returned (.int .i64 (orNo (Json.short c))) ∧ w' = w := by
  have hne : ∀ k : UInt8, c ≠ k → ((c.toNat : Int) == (k.toNat : Int)) = false := fun k h => beq_false_of_ne (fun e => h (UInt8.toNat_inj.1 (by omega)))
  by_cases n34 : c = 34
  · subst n34
    go_enter Tryd.func86, Tryd.ntmps86
    go_wp2
    go_ret
    exact ⟨rfl, rfl⟩
  by_cases n92 : c = 92
  · subst n92
    go_enter Tryd.func86, Tryd.ntmps86
    go_wp2
    go_ret
    exact ⟨rfl, rfl⟩
  by_cases n47 : c = 47
  · subst n47
    go_enter Tryd.func86, Tryd.ntmps86
    go_wp2
    go_ret
    exact ⟨rfl, rfl⟩
  by_cases n98 : c = 98
  · subst n98
    go_enter Tryd.func86, Tryd.ntmps86
    go_wp2
    go_ret
    exact ⟨rfl, rfl⟩
  by_cases n102 : c = 102
  · subst n102
    go_enter Tryd.func86, Tryd.ntmps86
    go_wp2
    go_ret
    exact ⟨rfl, rfl⟩
  by_cases n110 : c = 110
  · subst n110
    go_enter Tryd.func86, Tryd.ntmps86
    go_wp2
    go_ret
    exact ⟨rfl, rfl⟩
  by_cases n114 : c = 114
  · subst n114
    go_enter Tryd.func86, Tryd.ntmps86
    go_wp2
    go_ret
    exact ⟨rfl, rfl⟩
  by_cases n116 : c = 116
  · subst n116
    go_enter Tryd.func86, Tryd.ntmps86
    go_wp2
    go_ret
    exact ⟨rfl, rfl⟩
  have HR : Hid (orNo (Json.short c) = -1) := by
    show _ = _
    unfold Json.short
    simp [n34, n92, n47, n98, n102, n110, n114, n116, orNo]
  rw [HR.out]
  have q34 : ((c.toNat : Int) == 34) = false := hne 34 n34
  have q92 : ((c.toNat : Int) == 92) = false := hne 92 n92
  have q47 : ((c.toNat : Int) == 47) = false := hne 47 n47
  have q98 : ((c.toNat : Int) == 98) = false := hne 98 n98
  have q102 : ((c.toNat : Int) == 102) = false := hne 102 n102
  have q110 : ((c.toNat : Int) == 110) = false := hne 110 n110
  have q114 : ((c.toNat : Int) == 114) = false := hne 114 n114
  have q116 : ((c.toNat : Int) == 116) = false := hne 116 n116
  clear hne n34 n92 n47 n98 n102 n110 n114 n116
  go_enter Tryd.func86, Tryd.ntmps86
  go_wp2
  go_ret
  exact ⟨rfl, rfl⟩

/-- the four digits behind a backslash and a u at a, as a number, or -1 -/
def unitAt (s : ByteArray) (a : Nat) : Int :=
  match Json.word [92, 117] (s.data.toList.drop a) with
  | none => -1
  | some r => match Json.unit r with
    | none => -1
    | some (n, _) => n
theorem hexa_lt {c : UInt8} {d : Nat} (h : Json.hexa c = some d) : d < 16 := by
  unfold Json.hexa at h
  split at h
  · injection h; omega
  · split at h
    · injection h; omega
    · split at h
      · injection h; omega
      · cases h
end Go.Proofs.YtkkgngmhdlmgnaaDoor.jw
