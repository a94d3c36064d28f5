import Derived.Test.YtkmhhodapnlkiaaDoorRows
import Derived.Test.YtkmhhodapnlkiaaDoorCommon
import Derived.Test.YtkmhhodapnlkiaaDoorPctMath
import Derived.Test.YtkmhhodapnlkiaaDoorRanges
import Derived.Deep.MidRow
import Derived.WalkKit
import Derived.WalkSpells
import Derived.WalkLawsBesides
import Derived.Outline
import Derived.Laws.BitsAllLaws
import Derived.Laws.IdiomStrings
import Derived.Deep.OwnRows
import Derived.Maps.AppendAt
import Derived.Below
namespace Go.Proofs.YtkmhhodapnlkiaaDoor.pctw
open Go.ChangeShapes Go.WideShapes Go.ChangeAt Go.RowKit Go.Proofs.YtkmhhodapnlkiaaDoor.common

abbrev B (c : UInt8) : Value := .int .u8 (c.toNat : Int)
abbrev S (l : List UInt8) : Value := .string ⟨l.toArray⟩

theorem info8 : (Tryd.prog.info? 5).map (fun i => (i.zero, i.size, i.bytes)) = some (some (.int .u8 0), 1, 1) := by kernel_rfl

theorem own_ge {w : World} {base : Nat} {e : TypeId} {size : Nat} {v : Value} {n : Nat} {xs : List Value} (h : w.ownsRow base e size v n xs) : ∀ b, v.ownBlock = some b → base ≤ b := by
  intro b hb
  exact (h.lt b hb).1

theorem conv_own {w : World} {base : Nat} {e : TypeId} {v : Value} {l : List UInt8} {n : Nat} (h : w.ownsRow base e 1 v n (l.map B)) (hn : l.length = n) :
    (convert 34 9 v).run Tryd.prog w = .ok (S l) w := by
  subst hn
  rcases h.2 with ⟨rfl, h0⟩ | ⟨g, cap, cur, rfl, hg, hh, hn, _, hsz, htk⟩
  · rw [run_convert_bytes_nil (P := Tryd.prog) w 34 5 Tryd.underlying34 Tryd.underlying5 0 0 9 Tryd.underlying9]
    obtain rfl : l = [] := List.eq_nil_of_length_eq_zero h0
    rfl
  · refine run_convert_bytes_back (P := Tryd.prog) w 34 9 5 ⟨g, 0, none⟩ cap l Tryd.underlying34 Tryd.underlying5 Tryd.underlying9 ?_
    intro j hj
    rw [Addr.add_mid, Nat.zero_add]
    have : (cur.toList.take (l.length * 1))[j]? = (l.map B)[j]? := by rw [htk]
    rw [List.getElem?_take_of_lt (by omega)] at this
    simp only [World.cell?, hh]
    simp [hj] at this
    simpa using this

theorem toNat_of {n : Nat} (h : n < 256) : (UInt8.ofNat n).toNat = n := by simp [Nat.mod_eq_of_lt h]
theorem getD_list (s : ByteArray) (k : Nat) (h : k < s.size) : s.data.toList.getD k 0 = s[k] := by
  rw [List.getD_eq_getElem?_getD, List.getElem?_eq_getElem (by simpa using h)]; rfl
theorem len_list (s : ByteArray) : s.data.toList.length = s.size := by simp

theorem ba_ext {a b : ByteArray} (h : a.data.toList = b.data.toList) : a = b := by
  apply ByteArray.ext; apply Array.toList_inj.1; exact h
theorem ne_list {a b : ByteArray} (h : a ≠ b) : (a.toList == b.toList) = false := by
  rw [ByteArray.toList_eq, ByteArray.toList_eq]
  exact beq_false_of_ne fun e => h (ba_ext e)
theorem eq_list {a b : ByteArray} (h : a = b) : (a.toList == b.toList) = true := by subst h; simp
theorem str_eq (l : List UInt8) (s : ByteArray) (h : l = s.data.toList) : (⟨l.toArray⟩ : ByteArray) = s := by
  subst h; rfl
theorem str_size (l : List UInt8) : (⟨l.toArray⟩ : ByteArray).size = l.length := by
  show l.toArray.size = _; simp
theorem str_list (l : List UInt8) : (⟨l.toArray⟩ : ByteArray).data.toList = l := rfl

theorem cells_new (w : World) (l : List Value) (t : TypeId) : ∀ j u, l[j]? = some u → (w.alloc (.cells l.toArray t)).cell? ((⟨w.heap.size, 0, none⟩ : Addr).add j) = some u := by
  intro j u h
  rw [Addr.add_mid]
  exact range_new w l.toArray t j u h

end Go.Proofs.YtkmhhodapnlkiaaDoor.pctw

namespace Go.Proofs.YtkmhhodapnlkiaaDoor.pctw
open Go.ChangeShapes Go.WideShapes Go.ChangeAt Go.RowKit Go.Proofs.YtkmhhodapnlkiaaDoor.common
attribute [local go_sem ↓] Go.wp_at_zero Go.wp_at_succ

/-- the table of the bytes that stand -/
def tabN (i : Nat) : Nat := [288054454291267584, 5188146764422578174, 0, 0].getD i 0
def Tab (w : World) : Prop := ∀ i : Nat, i < 4 → w.cell? ⟨4, i, none⟩ = some (.int .u64 (tabN i : Int))
theorem Tab.lt {w : World} (h : Tab w) : 4 < w.heap.size := World.block_lt_of_cell? w _ (h 0 (by decide))
theorem Tab.below {w w' : World} {b : Nat} (h : Tab w) (hb : Below b w w') (hB : w.heap.size ≤ b) : Tab w' := fun i hi => by
  rw [← h i hi]; exact hb.cell (Nat.lt_of_lt_of_le h.lt hB)

set_option maxRecDepth 100000 in
theorem bit_is : ∀ c : UInt8, (bits BinOp.and IntKind.u64 ((tabN (c.toNat / 64) : Int) / 2 ^ (c.toNat % 64)) 1 == 1) = Pct.unres c := Pct.u8 _ (by decide +kernel)

set_option maxHeartbeats 400000 in
theorem isUnreserved_any (c : UInt8) (w : World) (ht : Tab w) :
    Calls Tryd.prog 28 #[B c] w fun e w' => e = .returned (.bool (Pct.unres c)) ∧ w' = w := by
  have hc := c.toNat_lt
  have h1 := ht (c.toNat / 64) (by omega)
  go_enter Tryd.func28, Tryd.ntmps28
  have e := bit_is c
  go_wp2
  go_ret
  exact ⟨rfl, rfl⟩

end Go.Proofs.YtkmhhodapnlkiaaDoor.pctw
