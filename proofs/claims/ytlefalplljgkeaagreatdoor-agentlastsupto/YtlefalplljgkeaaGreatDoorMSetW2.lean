import Derived.Test.YtlefalplljgkeaaGreatDoorMCkB
import Derived.Test.YtlefalplljgkeaaGreatDoorMFieldLays
import Derived.Test.YtlefalplljgkeaaGreatDoorMErrWalks
import Derived.Shelf.Strconv.Itoa3
import Derived.Lib.ItoaLen
import Derived.Lib.LaidTab
import Derived.Lib.AppendIntMem
namespace Go.Proofs.YtlefalplljgkeaaGreatDoor.fd
open Go.ChangeShapes Go.WideShapes Go.ChangeAt Go.RowKit Go.Proofs.YtlefalplljgkeaaGreatDoor.common Go.Proofs.YtlefalplljgkeaaGreatDoor.bk
attribute [local go_sem ↓] Go.wp_at_zero Go.wp_at_succ

abbrev Pow (b : Nat) (w : World) : Prop := Lib.TabBelow Tryz.prog b w "internal/strconv.uint64pow10" .u64 Lib.pow10Tab
theorem pow_below {w w' : World} (h : Pow w.heap.size w) (hb : Below w.heap.size w w') : Pow w'.heap.size w' := fun w'' h'' => h w'' (hb.trans (h''.mono hb.size))
/-- an int -/
def inR (n : Int) : Prop := -9223372036854775808 ≤ n ∧ n ≤ 9223372036854775807
def itoaB (n : Int) : ByteArray := ⟨(Lib.itoa n).toArray⟩
theorem itoaB_size (n : Int) (h : inR n) : (itoaB n).size ≤ 21 := by unfold itoaB; rw [str_size]; exact Lib.itoa_length_le n h.1 h.2
theorem itoa_any (n : Int) (w : World) (hn : inR n) (hp : Pow w.heap.size w) :
    Calls Tryz.prog 34 #[.int .i64 n] w fun e w' => e = .returned (.string (itoaB n)) ∧ Below w.heap.size w w' := by
  refine (Any.strconv_Itoa jl.lays171 n hn.1 hn.2 w (hp w (Below.refl _ _))).mono ?_
  rintro e w' ⟨rfl, k, os, rfl⟩
  exact ⟨rfl, Lib.below_grow _ w (Nat.le_refl _) k os⟩

abbrev pathB : ByteArray := ⟨#[59, 32, 80, 97, 116, 104, 61, 47]⟩
abbrev ageB : ByteArray := ⟨#[59, 32, 77, 97, 120, 45, 65, 103, 101, 61]⟩
abbrev lastB : ByteArray := ⟨#[59, 32, 83, 101, 99, 117, 114, 101, 59, 32, 72, 116, 116, 112, 79, 110, 108, 121, 59, 32, 83, 97, 109, 101, 83, 105, 116, 101, 61, 76, 97, 120]⟩
def attrB (n : Int) : ByteArray := if 0 ≤ n then (pathB ++ (ageB ++ itoaB n)) ++ lastB else pathB ++ lastB
def setB (n v : ByteArray) (m : Int) : ByteArray := ckB n v ++ attrB m
theorem attrB_size (n : Int) (h : inR n) : (attrB n).size ≤ 71 := by
  have := itoaB_size n h
  unfold attrB
  split
  · rw [ByteArray.size_append, ByteArray.size_append, ByteArray.size_append]
    show 8 + (10 + (itoaB n).size) + 32 ≤ 71
    omega
  · decide
set_option maxRecDepth 100000 in
set_option maxHeartbeats 800000 in
theorem attr_any (n : Int) (w : World) (hn : inR n) (hp : Pow w.heap.size w) :
    Calls Tryz.prog 18 #[.int .i64 n] w fun e w' => e = .returned (.string (attrB n)) ∧ Below w.heap.size w w' := by
  have HI := hide (itoa_any n w hn hp)
  have hz := itoaB_size n hn
  clear hp
  by_cases h0 : 0 ≤ n
  · have HA : Hid (attrB n = (pathB ++ (ageB ++ itoaB n)) ++ lastB) := by show _ = _; unfold attrB; rw [if_pos h0]
    generalize itoaB n = T at *
    go_enter Tryz.func18, Tryz.ntmps18
    go_wp2_with (go_at_call 34; refine HI.out.mono ?_; rintro x w2 ⟨rfl, hb⟩)
    go_ret
    exact ⟨by rw [HA.out]; rfl, hb⟩
  · have h1 : n < 0 := by omega
    have HA : Hid (attrB n = pathB ++ lastB) := by show _ = _; unfold attrB; rw [if_neg h0]
    go_enter Tryz.func18, Tryz.ntmps18
    go_wp2_with fail
    go_ret
    exact ⟨by rw [HA.out]; rfl, Below.refl _ _⟩

end Go.Proofs.YtlefalplljgkeaaGreatDoor.fd

namespace Go.Proofs.YtlefalplljgkeaaGreatDoor.fd
open Go.ChangeShapes Go.WideShapes Go.ChangeAt Go.RowKit Go.Proofs.YtlefalplljgkeaaGreatDoor.common Go.Proofs.YtlefalplljgkeaaGreatDoor.bk
attribute [local go_sem ↓] Go.wp_at_zero Go.wp_at_succ

/-- a number's last digit -/
def dg (m : Nat) : UInt8 := UInt8.ofNat (48 + m % 10)
theorem dec_small {m : Nat} (h : m / 10 = 0) : Lib.decDigits m = [dg m] := by
  have h1 : m < 10 := by omega
  unfold dg
  rw [Lib.decDigits_one h1, Nat.mod_eq_of_lt h1]
theorem dec_big {m : Nat} (h : m / 10 ≠ 0) : Lib.decDigits m = Lib.decDigits (m / 10) ++ [dg m] := by
  unfold dg
  have h1 : ¬ m < 10 := by omega
  rw [Lib.decDigits, dif_neg h1]

theorem conv_dig (w : World) (m : Nat) : (convert 60 9 (.slice (some ⟨w.heap.size, 0, none⟩) 1 1)).run Tryz.prog (w.alloc (.cells #[.int .u8 (48 + (m : Int) % 10)] 5)) = .ok (S [dg m]) (w.alloc (.cells #[.int .u8 (48 + (m : Int) % 10)] 5)) := by
  refine run_convert_bytes_back (P := Tryz.prog) _ 60 9 5 ⟨w.heap.size, 0, none⟩ 1 [dg m] Tryz.underlying60 Tryz.underlying5 Tryz.underlying9 ?_
  intro j hj
  have hj0 : j = 0 := by simpa using hj
  subst hj0
  have := cell_one_new w (.int .u8 (48 + (m : Int) % 10)) 5 0 _ rfl
  rw [this]
  congr 2
  have h2 : (dg m).toNat = 48 + m % 10 := by unfold dg; simp; omega
  show 48 + (m : Int) % 10 = (((dg m).toNat : Nat) : Int)
  rw [h2]; omega

/-- what is left of a number, and the digits behind it -/
structure Dig (N m k : Nat) (L : List UInt8) : Prop where
  len : L.length = k + 1
  le : m * 10 ^ (k + 1) ≤ N
  none : m = 0 → L = Lib.decDigits N
  some : m ≠ 0 → Lib.decDigits m ++ L = Lib.decDigits N
theorem Dig.start (N : Nat) : Dig N (N / 10) 0 [dg N] :=
  ⟨rfl, by rw [Nat.zero_add, Nat.pow_one]; omega, fun h => (dec_small h).symm, fun h => (dec_big h).symm⟩
theorem Dig.next {N m k : Nat} {L : List UInt8} (h : Dig N m k L) (hm : m ≠ 0) : Dig N (m / 10) (k + 1) (dg m :: L) := by
  refine ⟨by rw [List.length_cons, h.len], ?_, fun h0 => ?_, fun h0 => ?_⟩
  · have h1 := h.le
    have h2 : m / 10 * 10 ≤ m := by omega
    calc m / 10 * 10 ^ (k + 1 + 1) = m / 10 * 10 * 10 ^ (k + 1) := by rw [Nat.pow_succ 10 (k + 1), Nat.mul_comm (10 ^ (k + 1)) 10, Nat.mul_assoc]
      _ ≤ m * 10 ^ (k + 1) := Nat.mul_le_mul_right _ h2
      _ ≤ N := h1
  · have := h.some hm
    rw [dec_small h0] at this
    exact this
  · have := h.some hm
    rw [dec_big h0, List.append_assoc] at this
    exact this
theorem Dig.over {N m : Nat} {L : List UInt8} (h : Dig N m 18 L) (hN : N ≤ 9223372036854775807) : m = 0 := by
  have := h.le
  have h2 : (10 : Nat) ^ (18 + 1) = 10000000000000000000 := by decide
  rw [h2] at this
  omega

def decB (N : Nat) : ByteArray := ⟨(Lib.decDigits N).toArray⟩
theorem cons_str (c : UInt8) (L : List UInt8) : (⟨[c].toArray⟩ : ByteArray) ++ ⟨L.toArray⟩ = ⟨(c :: L).toArray⟩ := by
  apply ba_ext; simp

end Go.Proofs.YtlefalplljgkeaaGreatDoor.fd
