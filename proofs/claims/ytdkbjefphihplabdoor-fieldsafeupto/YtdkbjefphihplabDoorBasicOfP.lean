import Derived.Test.YtdkbjefphihplabDoorByteKit
import Derived.Test.YtdkbjefphihplabDoorEscapeP
import Derived.Test.YtdkbjefphihplabDoorStdWalks
namespace Go.Proofs.YtdkbjefphihplabDoor.fd
open Go.ChangeShapes Go.WideShapes Go.ChangeAt Go.RowKit Go.Proofs.YtdkbjefphihplabDoor.common
attribute [local go_sem ↓] Go.wp_at_zero Go.wp_at_succ

def escB (u : ByteArray) : ByteArray := ⟨(Pct.esc true u.data.toList).toArray⟩
/-- what is coded: both escaped, a colon between -/
def pairB (u p : ByteArray) : ByteArray := (escB u ++ ⟨#[58]⟩) ++ escB p
def stdB (t : ByteArray) : ByteArray := ⟨(Rad.std t.data.toList).toArray⟩
def basicB (u p : ByteArray) : ByteArray := ⟨#[66, 97, 115, 105, 99, 32]⟩ ++ stdB (pairB u p)
theorem escB_size (u : ByteArray) : (escB u).size ≤ 3 * u.size := by
  have := (Pct.esc_len true u.data.toList).2
  rw [bk.len_list] at this
  unfold escB
  rw [bk.str_size]; exact this
theorem stdB_size (t : ByteArray) : (stdB t).size ≤ 2 * t.size + 4 := by
  unfold stdB
  rw [bk.str_size]
  unfold Rad.std
  rw [List.length_append, Rad.b64_len, bk.len_list]
  unfold Rad.pad Rad.n6
  rw [List.length_replicate]
  omega
theorem pairB_size (u p : ByteArray) : (pairB u p).size ≤ 3 * (u.size + p.size) + 1 := by
  have h1 := escB_size u
  have h2 := escB_size p
  unfold pairB
  rw [ByteArray.size_append, ByteArray.size_append]
  show (escB u).size + 1 + (escB p).size ≤ _
  omega

set_option maxRecDepth 100000 in
set_option maxHeartbeats 1600000 in
theorem basicOf_any (u p : ByteArray) (w : World) (hs : u.size + p.size ≤ 8388608) (ht : pctw.Tab w) (hr : radw.StdTab w) :
    Calls Tryd.prog 17 #[.string u, .string p] w fun e w' => e = .returned (.string (basicB u p)) ∧ Below w.heap.size w w' := by
  have hg1 : 13 < w.heap.size := hr.lt (by decide)
  have H1 : Hid (Calls Tryd.prog 48 #[.string u, .bool true] w fun e w' => e = .returned (.string (escB u)) ∧ Below w.heap.size w w') := pctw.escape_any u true w ht (by omega)
  have H2 : Hid (∀ W, Below w.heap.size w W → Calls Tryd.prog 48 #[.string p, .bool true] W fun e w' => e = .returned (.string (escB p)) ∧ Below W.heap.size W w') := fun W hW => pctw.escape_any p true W (ht.below hW (Nat.le_refl _)) (by omega)
  have H3 : Hid (∀ W, Below w.heap.size w W → Calls Tryd.prog 47 #[.string (pairB u p)] W fun e w' => e = .returned (.string (stdB (pairB u p))) ∧ Below W.heap.size W w') := fun W hW => radw.std_any (pairB u p) W (by have := pairB_size u p; unfold reachBytes; omega) (hr.below hW hg1)
  have h1 := escB_size u
  have h2 := escB_size p
  have h3 := pairB_size u p
  have h4 := stdB_size (pairB u p)
  have HP : Hid ((escB u ++ ⟨#[58]⟩) ++ escB p = pairB u p) := rfl
  have HB : Hid ((⟨#[66, 97, 115, 105, 99, 32]⟩ : ByteArray) ++ stdB (pairB u p) = basicB u p) := rfl
  generalize basicB u p = R at *
  generalize hST : stdB (pairB u p) = St at *
  clear hST
  generalize pairB u p = Pr at *
  generalize escB u = U at *
  generalize escB p = V at *
  go_enter Tryd.func17, Tryd.ntmps17
  go_wp2_with fail
  refine H1.out.mono ?_
  rintro x w1 ⟨rfl, hb1⟩
  have HB1 := hide hb1
  clear hb1
  go_wp2_with fail
  refine (H2.out _ HB1.out).mono ?_
  rintro x w2 ⟨rfl, hb2⟩
  have HB2 := hide (bk.keepD HB1.out hb2)
  clear hb2
  go_wp2_with fail
  rw [HP.out]
  refine (H3.out _ HB2.out).mono ?_
  rintro x w3 ⟨rfl, hb3⟩
  have HB3 := hide (bk.keepD HB2.out hb3)
  clear hb3
  go_wp2_with fail
  go_ret
  exact ⟨by rw [← HB.out]; rfl, HB3.out⟩

end Go.Proofs.YtdkbjefphihplabDoor.fd
