import Derived.Test.YthhkhpgffamdhaaDoorCkB
import Derived.Test.YthhkhpgffamdhaaDoorFieldLays
import Derived.Test.YthhkhpgffamdhaaDoorErrWalks
import Derived.Shelf.Strconv.Itoa3
import Derived.Lib.ItoaLen
import Derived.Lib.LaidTab
import Derived.Lib.AppendIntMem
namespace Go.Proofs.YthhkhpgffamdhaaDoor.fd
open Go.ChangeShapes Go.WideShapes Go.ChangeAt Go.RowKit Go.Proofs.YthhkhpgffamdhaaDoor.common Go.Proofs.YthhkhpgffamdhaaDoor.bk
attribute [local go_sem ↓] Go.wp_at_zero Go.wp_at_succ

abbrev Pow (b : Nat) (w : World) : Prop := Lib.TabBelow Tryd.prog b w "internal/strconv.uint64pow10" .u64 Lib.pow10Tab
theorem pow_below {w w' : World} (h : Pow w.heap.size w) (hb : Below w.heap.size w w') : Pow w'.heap.size w' := fun w'' h'' => h w'' (hb.trans (h''.mono hb.size))
/-- an int -/
def inR (n : Int) : Prop := -9223372036854775808 ≤ n ∧ n ≤ 9223372036854775807
def itoaB (n : Int) : ByteArray := ⟨(Lib.itoa n).toArray⟩
theorem itoaB_size (n : Int) (h : inR n) : (itoaB n).size ≤ 21 := by unfold itoaB; rw [str_size]; exact Lib.itoa_length_le n h.1 h.2
theorem itoa_any (n : Int) (w : World) (hn : inR n) (hp : Pow w.heap.size w) :
    Calls Tryd.prog 75 #[.int .i64 n] w fun e w' => e = .returned (.string (itoaB n)) ∧ Below w.heap.size w w' := by
  refine (Any.strconv_Itoa jl.lays171 n hn.1 hn.2 w (hp w (Below.refl _ _))).mono ?_
  rintro e w' ⟨rfl, k, os, rfl⟩
  exact ⟨rfl, Lib.below_grow _ w (Nat.le_refl _) k os⟩

abbrev pathB : ByteArray := ⟨#[59, 32, 80, 97, 116, 104, 61, 47]⟩
abbrev ageB : ByteArray := ⟨#[59, 32, 77, 97, 120, 45, 65, 103, 101, 61]⟩
abbrev lastB : ByteArray := ⟨#[59, 32, 83, 101, 99, 117, 114, 101, 59, 32, 72, 116, 116, 112, 79, 110, 108, 121, 59, 32, 83, 97, 109, 101, 83, 105, 116, 101, 61, 76, 97, 120]⟩
def attrB (n : Int) : ByteArray := if 0 ≤ n then (pathB ++ (ageB ++ itoaB n)) ++ lastB else pathB ++ lastB
def setB (n v : ByteArray) (m : Int) : ByteArray := ckB n v ++ attrB m
theorem attrB_size (n : Int) (h : inR n) : (attrB n).size ≤ 71 := by
  have := itoaB_size n h
  unfold attrB
  split
  · rw [ByteArray.size_append, ByteArray.size_append, ByteArray.size_append]
    show 8 + (10 + (itoaB n).size) + 32 ≤ 71
    omega
  · decide
set_option maxRecDepth 100000 in
set_option maxHeartbeats 800000 in
theorem attr_any (n : Int) (w : World) (hn : inR n) (hp : Pow w.heap.size w) :
    Calls Tryd.prog 47 #[.int .i64 n] w fun e w' => e = .returned (.string (attrB n)) ∧ Below w.heap.size w w' := by
  have HI := hide (itoa_any n w hn hp)
  have hz := itoaB_size n hn
  clear hp
  by_cases h0 : 0 ≤ n
  · have HA : Hid (attrB n = (pathB ++ (ageB ++ itoaB n)) ++ lastB) := by show _ = _; unfold attrB; rw [if_pos h0]
    generalize itoaB n = T at *
    go_enter Tryd.func47, Tryd.ntmps47
    go_wp2_with (go_at_call 75; refine HI.out.mono ?_; rintro x w2 ⟨rfl, hb⟩)
    go_ret
    exact ⟨by rw [HA.out]; rfl, hb⟩
  · have h1 : n < 0 := by omega
    have HA : Hid (attrB n = pathB ++ lastB) := by show _ = _; unfold attrB; rw [if_neg h0]
    go_enter Tryd.func47, Tryd.ntmps47
    go_wp2_with fail
    go_ret
    exact ⟨by rw [HA.out]; rfl, Below.refl _ _⟩

end Go.Proofs.YthhkhpgffamdhaaDoor.fd
