import Derived.Test.YtocpikgcbibcoaaGreatDoorRows
import Derived.Test.YtocpikgcbibcoaaGreatDoorMRdKit
import Derived.Deep.MidRow
import Derived.WalkKit
import Derived.WalkSpells
import Derived.WalkLawsBesides
import Derived.Outline
import Derived.Laws.BitsAllLaws
import Derived.Laws.IdiomStrings
import Derived.Deep.OwnRows
import Derived.Maps.AppendAt
import Derived.Below
import Derived.Test.YtocpikgcbibcoaaGreatDoorMRedEq
namespace Go.Proofs.YtocpikgcbibcoaaGreatDoor.Pct

/-- the bytes that stand as they are -/
def unres (c : UInt8) : Bool :=
  (65 ≤ c.toNat && c.toNat ≤ 90) || (97 ≤ c.toNat && c.toNat ≤ 122) || (48 ≤ c.toNat && c.toNat ≤ 57) || c.toNat == 45 || c.toNat == 46 || c.toNat == 95 || c.toNat == 126

/-- a digit with a large letter -/
def dig (n : Nat) : UInt8 := UInt8.ofNat (if n < 10 then 48 + n else 55 + n)

/-- what a digit counts; 16: none -/
def hexv (c : UInt8) : Nat :=
  if 48 ≤ c.toNat ∧ c.toNat ≤ 57 then c.toNat - 48 else if 65 ≤ c.toNat ∧ c.toNat ≤ 70 then c.toNat - 55 else if 97 ≤ c.toNat ∧ c.toNat ≤ 102 then c.toNat - 87 else 16

def esc1 (plus : Bool) (c : UInt8) : List UInt8 :=
  if unres c then [c] else if plus = true ∧ c = 32 then [43] else [37, dig (c.toNat / 16), dig (c.toNat % 16)]

def esc (plus : Bool) (l : List UInt8) : List UInt8 := l.flatMap (esc1 plus)

/-- what one byte that is no percent sign gives -/
def one (plus : Bool) (c : UInt8) : UInt8 := if plus = true ∧ c = 43 then 32 else c

def unesc (plus : Bool) : List UInt8 → Option (List UInt8)
  | [] => some []
  | c :: r =>
    if c = 37 then
      match r with
      | h :: l :: t => if hexv h < 16 ∧ hexv l < 16 then (unesc plus t).map (UInt8.ofNat (16 * hexv h + hexv l) :: ·) else none
      | _ => none
    else if c.toNat < 33 ∨ 126 < c.toNat then none else (unesc plus r).map (one plus c :: ·)

theorem unesc_nil (plus : Bool) : unesc plus [] = some [] := by rw [unesc.eq_def]

theorem unesc_pct (plus : Bool) (h l : UInt8) (t : List UInt8) (hh : hexv h < 16) (hl : hexv l < 16) :
    unesc plus (37 :: h :: l :: t) = (unesc plus t).map (UInt8.ofNat (16 * hexv h + hexv l) :: ·) := by
  rw [unesc.eq_def]; simp only; rw [if_pos trivial, if_pos ⟨hh, hl⟩]

theorem unesc_one (plus : Bool) (c : UInt8) (r : List UInt8) (hc : c ≠ 37) (h : ¬ (c.toNat < 33 ∨ 126 < c.toNat)) : unesc plus (c :: r) = (unesc plus r).map (one plus c :: ·) := by
  rw [unesc.eq_def]; simp only; rw [if_neg hc, if_neg h]

theorem u8 (P : UInt8 → Prop) [DecidablePred P] (h : ∀ n : Fin 256, P (UInt8.ofNat n.val)) (c : UInt8) : P c := by
  have := h ⟨c.toNat, c.toNat_lt⟩
  simpa using this

set_option maxRecDepth 100000 in
theorem back_one (plus : Bool) (c : UInt8) (r : List UInt8) : unesc plus (esc1 plus c ++ r) = (unesc plus r).map (c :: ·) := by
  by_cases hu : unres c = true
  · have hf : ∀ c : UInt8, unres c = true → c ≠ 37 ∧ ¬ (c.toNat < 33 ∨ 126 < c.toNat) ∧ c ≠ 43 := u8 _ (by decide)
    obtain ⟨h1, h2, h3⟩ := hf c hu
    have e : esc1 plus c = [c] := by unfold esc1; rw [if_pos hu]
    rw [e, List.singleton_append, unesc_one plus _ _ h1 h2]
    have : one plus c = c := by unfold one; rw [if_neg (fun h => h3 h.2)]
    rw [this]
  · by_cases hp : plus = true ∧ c = 32
    · have e : esc1 plus c = [43] := by unfold esc1; rw [if_neg hu, if_pos hp]
      obtain ⟨rfl, rfl⟩ := hp
      rw [e, List.singleton_append, unesc_one true _ _ (by decide) (by decide)]
      rfl
    · have e : esc1 plus c = [37, dig (c.toNat / 16), dig (c.toNat % 16)] := by unfold esc1; rw [if_neg hu, if_neg hp]
      have hf : ∀ c : UInt8, hexv (dig (c.toNat / 16)) = c.toNat / 16 ∧ hexv (dig (c.toNat % 16)) = c.toNat % 16 := u8 _ (by decide)
      obtain ⟨h1, h2⟩ := hf c
      have hc := c.toNat_lt
      rw [e]
      show unesc plus (37 :: _ :: _ :: r) = _
      rw [unesc_pct plus _ _ _ (by omega) (by omega), h1, h2, Nat.div_add_mod]
      simp

/-- P3.3: what was escaped is read back -/
theorem back (plus : Bool) (l : List UInt8) : unesc plus (esc plus l) = some l := by
  induction l with
  | nil => exact unesc_nil plus
  | cons c r ih => show unesc plus (esc1 plus c ++ esc plus r) = _; rw [back_one, ih]; rfl

/-- a letter of a digit in the other case -/
def swap (c : UInt8) : UInt8 := if 97 ≤ c.toNat ∧ c.toNat ≤ 102 then UInt8.ofNat (c.toNat - 32) else if 65 ≤ c.toNat ∧ c.toNat ≤ 70 then UInt8.ofNat (c.toNat + 32) else c
def swapAt (near : Int) (c : UInt8) : UInt8 := if 0 < near then swap c else c
def nearAt (near : Int) (c : UInt8) : Int := if swapAt near c = 37 then 2 else near - 1
def turned : Int → List UInt8 → List UInt8
  | _, [] => []
  | n, c :: r => swapAt n c :: turned (nearAt n c) r

end Go.Proofs.YtocpikgcbibcoaaGreatDoor.Pct

namespace Go.Proofs.YtocpikgcbibcoaaGreatDoor.pctw
open Go.ChangeShapes Go.WideShapes Go.ChangeAt Go.RowKit Go.Proofs.YtocpikgcbibcoaaGreatDoor.common

abbrev B (c : UInt8) : Value := .int .u8 (c.toNat : Int)
abbrev S (l : List UInt8) : Value := .string ⟨l.toArray⟩

theorem info8 : (Tryz.prog.info? 5).map (fun i => (i.zero, i.size, i.bytes)) = some (some (.int .u8 0), 1, 1) := by kernel_rfl

theorem own_ge {w : World} {base : Nat} {e : TypeId} {size : Nat} {v : Value} {n : Nat} {xs : List Value} (h : w.ownsRow base e size v n xs) : ∀ b, v.ownBlock = some b → base ≤ b := by
  intro b hb
  exact (h.lt b hb).1

theorem toNat_of {n : Nat} (h : n < 256) : (UInt8.ofNat n).toNat = n := by simp [Nat.mod_eq_of_lt h]
theorem getD_list (s : ByteArray) (k : Nat) (h : k < s.size) : s.data.toList.getD k 0 = s[k] := by
  rw [List.getD_eq_getElem?_getD, List.getElem?_eq_getElem (by simpa using h)]; rfl
theorem len_list (s : ByteArray) : s.data.toList.length = s.size := by simp

theorem ba_ext {a b : ByteArray} (h : a.data.toList = b.data.toList) : a = b := by
  apply ByteArray.ext; apply Array.toList_inj.1; exact h
theorem str_size (l : List UInt8) : (⟨l.toArray⟩ : ByteArray).size = l.length := by
  show l.toArray.size = _; simp
theorem cells_new (w : World) (l : List Value) (t : TypeId) : ∀ j u, l[j]? = some u → (w.alloc (.cells l.toArray t)).cell? ((⟨w.heap.size, 0, none⟩ : Addr).add j) = some u := by
  intro j u h
  rw [Addr.add_mid]
  exact range_new w l.toArray t j u h

end Go.Proofs.YtocpikgcbibcoaaGreatDoor.pctw

namespace Go.Proofs.YtocpikgcbibcoaaGreatDoor.pctw
open Go.ChangeShapes Go.WideShapes Go.ChangeAt Go.RowKit Go.Proofs.YtocpikgcbibcoaaGreatDoor.common
attribute [local go_sem ↓] Go.wp_at_zero Go.wp_at_succ

end Go.Proofs.YtocpikgcbibcoaaGreatDoor.pctw

namespace Go.Proofs.YtocpikgcbibcoaaGreatDoor.pctw
open Go.ChangeShapes Go.WideShapes Go.ChangeAt Go.RowKit Go.Proofs.YtocpikgcbibcoaaGreatDoor.common
attribute [local go_sem ↓] Go.wp_at_zero Go.wp_at_succ

end Go.Proofs.YtocpikgcbibcoaaGreatDoor.pctw

namespace Go.Proofs.YtocpikgcbibcoaaGreatDoor.pctw
open Go.ChangeShapes Go.WideShapes Go.ChangeAt Go.RowKit Go.Proofs.YtocpikgcbibcoaaGreatDoor.common
attribute [local go_sem ↓] Go.wp_at_zero Go.wp_at_succ

end Go.Proofs.YtocpikgcbibcoaaGreatDoor.pctw

namespace Go.Proofs.YtocpikgcbibcoaaGreatDoor.tm
open Go.ChangeShapes Go.WideShapes Go.ChangeAt Go.RowKit Go.Proofs.YtocpikgcbibcoaaGreatDoor.common Go.Proofs.YtocpikgcbibcoaaGreatDoor.bk
attribute [local go_sem ↓] Go.wp_at_zero Go.wp_at_succ

end Go.Proofs.YtocpikgcbibcoaaGreatDoor.tm

namespace Go.Proofs.YtocpikgcbibcoaaGreatDoor.tm
open Go.ChangeShapes Go.WideShapes Go.ChangeAt Go.RowKit Go.Proofs.YtocpikgcbibcoaaGreatDoor.common Go.Proofs.YtocpikgcbibcoaaGreatDoor.bk
attribute [local go_sem ↓] Go.wp_at_zero Go.wp_at_succ

end Go.Proofs.YtocpikgcbibcoaaGreatDoor.tm

namespace Go.Proofs.YtocpikgcbibcoaaGreatDoor.tm
open Go.ChangeShapes Go.WideShapes Go.ChangeAt Go.RowKit Go.Proofs.YtocpikgcbibcoaaGreatDoor.common Go.Proofs.YtocpikgcbibcoaaGreatDoor.bk
attribute [local go_sem ↓] Go.wp_at_zero Go.wp_at_succ

end Go.Proofs.YtocpikgcbibcoaaGreatDoor.tm

namespace Go.Proofs.YtocpikgcbibcoaaGreatDoor.tm
open Go.ChangeShapes Go.WideShapes Go.ChangeAt Go.RowKit Go.Proofs.YtocpikgcbibcoaaGreatDoor.common Go.Proofs.YtocpikgcbibcoaaGreatDoor.bk
attribute [local go_sem ↓] Go.wp_at_zero Go.wp_at_succ

end Go.Proofs.YtocpikgcbibcoaaGreatDoor.tm

namespace Go.Proofs.YtocpikgcbibcoaaGreatDoor.tm
open Go.ChangeShapes Go.WideShapes Go.ChangeAt Go.RowKit Go.Proofs.YtocpikgcbibcoaaGreatDoor.common Go.Proofs.YtocpikgcbibcoaaGreatDoor.bk
attribute [local go_sem ↓] Go.wp_at_zero Go.wp_at_succ

end Go.Proofs.YtocpikgcbibcoaaGreatDoor.tm

namespace Go.Proofs.YtocpikgcbibcoaaGreatDoor.tm
open Go.ChangeShapes Go.WideShapes Go.ChangeAt Go.RowKit Go.Proofs.YtocpikgcbibcoaaGreatDoor.common Go.Proofs.YtocpikgcbibcoaaGreatDoor.bk
open Go.Proofs.YtocpikgcbibcoaaGreatDoor.fd (before behind cut_no cut_at)
attribute [local go_sem ↓] Go.wp_at_zero Go.wp_at_succ

theorem list_eq (s : ByteArray) (l : List UInt8) : (s.toList == l) = decide (s.data.toList = l) := by
  rw [ByteArray.toList_eq]
  by_cases h : s.data.toList = l
  · rw [decide_eq_true h, h]; simp
  · rw [decide_eq_false h]; exact beq_false_of_ne h

end Go.Proofs.YtocpikgcbibcoaaGreatDoor.tm

namespace Go.Proofs.YtocpikgcbibcoaaGreatDoor.tm
open Go.ChangeShapes Go.WideShapes Go.ChangeAt Go.RowKit Go.Proofs.YtocpikgcbibcoaaGreatDoor.common Go.Proofs.YtocpikgcbibcoaaGreatDoor.bk
open Go.Proofs.YtocpikgcbibcoaaGreatDoor.fd (before behind cut_no cut_at)
attribute [local go_sem ↓] Go.wp_at_zero Go.wp_at_succ

end Go.Proofs.YtocpikgcbibcoaaGreatDoor.tm
