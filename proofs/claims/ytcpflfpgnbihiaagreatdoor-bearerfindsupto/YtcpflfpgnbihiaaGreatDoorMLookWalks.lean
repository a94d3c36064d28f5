import Derived.Test.YtcpflfpgnbihiaaGreatDoorMListKit0
import Derived.Test.YtcpflfpgnbihiaaGreatDoorMFieldMath
namespace Go.Proofs.YtcpflfpgnbihiaaGreatDoor.lst
open Go.ChangeShapes Go.WideShapes Go.ChangeAt Go.RowKit Go.Proofs.YtcpflfpgnbihiaaGreatDoor.common
attribute [local go_sem ↓] Go.wp_at_zero Go.wp_at_succ

set_option maxRecDepth 100000 in
set_option maxHeartbeats 1600000 in
theorem copied_any (v : Value) (l : List PB) (w : World) (hl : Lies w v l) (hs : l.length * 32 ≤ 140737488355328) :
    Calls Tryz.prog 9 #[v] w fun e w' => ∃ v', e = .returned v' ∧ w'.ownsRow w.heap.size 35 2 v' l.length (cl l) ∧ Below w.heap.size w w' := by
  obtain ⟨i0, hi, hz0, hz1, hz2⟩ := info_parts infoP
  obtain ⟨oa, cap, rfl, hc⟩ := hl
  have HC := hide hc
  clear hc
  go_enter Tryz.func9, Tryz.ntmps9
  go_wp2_with fail
  go_loopw [3, 4] (fun v i wr => ∃ k : Nat, k ≤ l.length ∧ i = .int .i64 k ∧ wr.ownsRow w.heap.size 35 2 v k (cl (l.take k)) ∧ Below w.heap.size w wr) (fun _ i _ => l.length - (intOf i).toNat)
  case atStart => exact ⟨0, Nat.zero_le _, rfl, World.ownsRow_nil _ _ _ _, Below.refl _ _⟩
  case round =>
    obtain ⟨k, hk, rfl, hown, hnx⟩ := hrel
    have hsz := hnx.size
    by_cases hlt : k < l.length
    · have hki : (k : Int) < (l.length : Int) := by omega
      obtain ⟨b, o, rfl, hb, c0, c1⟩ := HC.out k hlt
      have d0 := (hnx.cell (p := ⟨b, o + k * 2, none⟩) hb).trans c0
      have d1 := (hnx.cell (p := ⟨b, o + k * 2 + 1, none⟩) hb).trans c1
      have HSN := hide (takeP l k hlt)
      generalize l[k] = p at *
      go_wp2_with (at_builtin; refine wpList_append_own _ rfl _ _ 22 rfl w.heap.size 35 i0 (.agg #[.string ⟨#[]⟩, .string ⟨#[]⟩]) 2 32 Tryz.underlying22 hi hz0 hz1 hz2 rfl (by decide) _ _ _ rfl (hown.alloc _) ⟨wr.heap.size, 0, none⟩ 1 1 [.string p.1, .string p.2] rfl rfl (cells_new _ _ _) ?c2 ?c3 ?c4 ?c5 ?_)
      case c2 => first | rfl | (intro u hu; simp at hu; rcases hu with rfl | rfl <;> rfl)
      case c3 => unfold maxLen; omega
      case c4 => omega
      case c5 => first | omega | (simp; omega)
      intro v' w1 hown' hgrow _
      have R1 : w1.ownsRow w.heap.size 35 2 v' (k + 1) (cl (l.take (k + 1))) := by
        rw [HSN.out, cl_app]; exact hown'
      have R2 : Below w.heap.size w w1 := (hnx.alloc hsz _).grown hgrow (by simp; omega) (own_ge hown)
      clear hown' hgrow hown hnx
      have H1 := hide R1
      have H2 := hide R2
      clear R1 R2
      go_wp2
      go_roundw
      case rel => exact ⟨k + 1, by omega, by go_num, H1.out, H2.out⟩
      case measure => simp [intOf]; omega
    · obtain rfl : k = l.length := by omega
      rw [List.take_length] at hown
      have H1 := hide hown
      have H2 := hide hnx
      clear hown hnx
      go_wp2
      go_ret
      exact ⟨_, rfl, H1.out, H2.out⟩

end Go.Proofs.YtcpflfpgnbihiaaGreatDoor.lst

namespace Go.Proofs.YtcpflfpgnbihiaaGreatDoor.lst
open Go.ChangeShapes Go.WideShapes Go.ChangeAt Go.RowKit Go.Proofs.YtcpflfpgnbihiaaGreatDoor.common
attribute [local go_sem ↓] Go.wp_at_zero Go.wp_at_succ

/-- what stands in the spare room -/
def bh : ByteArray := ⟨#[98, 101, 104, 105, 110, 100]⟩
theorem sizeP : (Tryz.prog.info? 35).map (·.size) = some 2 := by kernel_rfl

end Go.Proofs.YtcpflfpgnbihiaaGreatDoor.lst

namespace Go.Proofs.YtcpflfpgnbihiaaGreatDoor.lst
open Go.ChangeShapes Go.WideShapes Go.ChangeAt Go.RowKit Go.Proofs.YtcpflfpgnbihiaaGreatDoor.common
attribute [local go_sem ↓] Go.wp_at_zero Go.wp_at_succ

abbrev emp : ByteArray := ⟨#[]⟩
abbrev B (c : UInt8) : Value := .int .u8 (c.toNat : Int)
def lowB (s : ByteArray) : List UInt8 := Fd.lows s.data.toList
/-- what a name's fields give, one field more -/
def step (n : List UInt8) (a : ByteArray × Nat) (p : PB) : ByteArray × Nat := if lowB p.1 = n then (if a.2 = 0 then p.2 else a.1, a.2 + 1) else a
def lookOf (l : List PB) (n : List UInt8) : ByteArray × Nat := l.foldl (step n) (emp, 0)
theorem lookOf_snoc (l : List PB) (n : List UInt8) (p : PB) : lookOf (l ++ [p]) n = step n (lookOf l n) p := by unfold lookOf; rw [List.foldl_append]; rfl
theorem lookOf_le (l : List PB) (n : List UInt8) : (lookOf l n).2 ≤ l.length := by
  unfold lookOf
  have : ∀ (l : List PB) (a : ByteArray × Nat), (l.foldl (step n) a).2 ≤ a.2 + l.length := by
    intro l
    induction l with
    | nil => intro a; exact Nat.le_refl _
    | cons p r ih =>
      intro a
      have h1 := ih (step n a p)
      have h2 : (step n a p).2 ≤ a.2 + 1 := by unfold step; split <;> simp
      rw [List.foldl_cons, List.length_cons]; omega
  have := this l (emp, 0)
  simpa using this

theorem ba_ext {a b : ByteArray} (h : a.data.toList = b.data.toList) : a = b := by
  apply ByteArray.ext; apply Array.toList_inj.1; exact h
theorem ne_list {a b : ByteArray} (h : a ≠ b) : (a.toList == b.toList) = false := by
  rw [ByteArray.toList_eq, ByteArray.toList_eq]
  exact beq_false_of_ne fun e => h (ba_ext e)

theorem low_big {c : UInt8} (h : 65 ≤ c.toNat ∧ c.toNat ≤ 90) : (Fd.low c).toNat = c.toNat + 32 := by
  have := c.toNat_lt
  unfold Fd.low; rw [if_pos h, UInt8.toNat_add]; show (c.toNat + 32) % 256 = _; omega
theorem low_not {c : UInt8} (h : ¬ (65 ≤ c.toNat ∧ c.toNat ≤ 90)) : Fd.low c = c := by unfold Fd.low; rw [if_neg h]
theorem low_cases (c : UInt8) : (65 ≤ c.toNat ∧ c.toNat ≤ 90 ∧ (Fd.low c).toNat = c.toNat + 32) ∨ (¬ (65 ≤ c.toNat ∧ c.toNat ≤ 90) ∧ (Fd.low c).toNat = c.toNat) := by
  by_cases h : 65 ≤ c.toNat ∧ c.toNat ≤ 90
  · exact Or.inl ⟨h.1, h.2, low_big h⟩
  · exact Or.inr ⟨h, by rw [low_not h]⟩

set_option maxHeartbeats 800000 in
theorem small_any (c : UInt8) (w : World) : Calls Tryz.prog 43 #[B c] w fun e w' => e = .returned (B (Fd.low c)) ∧ w' = w := by
  have HC := hide (low_cases c)
  have hc := c.toNat_lt
  show Calls _ _ _ _ fun e w' => e = .returned (.int .u8 ((Fd.low c).toNat : Int)) ∧ w' = w
  generalize (Fd.low c).toNat = v at *
  go_enter Tryz.func43, Tryz.ntmps43
  go_wp2
  all_goals (go_ret; refine ⟨?_, rfl⟩; have := HC.out)
  all_goals first
    | (exfalso; omega)
    | (simp; omega)

set_option maxHeartbeats 800000 in
theorem refSmall_any (c : UInt8) (w : World) : Calls Tryz.prog 57 #[B c] w fun e w' => e = .returned (B (Fd.low c)) ∧ w' = w := by
  have HC := hide (low_cases c)
  have hc := c.toNat_lt
  show Calls _ _ _ _ fun e w' => e = .returned (.int .u8 ((Fd.low c).toNat : Int)) ∧ w' = w
  generalize (Fd.low c).toNat = v at *
  go_enter Tryz.func57, Tryz.ntmps57
  go_wp2
  all_goals (go_ret; refine ⟨?_, rfl⟩; have := HC.out)
  all_goals first
    | (exfalso; omega)
    | (simp; omega)

end Go.Proofs.YtcpflfpgnbihiaaGreatDoor.lst
