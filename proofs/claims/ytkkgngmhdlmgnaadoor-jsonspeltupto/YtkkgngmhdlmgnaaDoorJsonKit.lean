import Derived.Test.YtkkgngmhdlmgnaaDoorRows
import Derived.Test.YtkkgngmhdlmgnaaDoorCommon
import Derived.Test.YtkkgngmhdlmgnaaDoorJsonSpelt
import Derived.Test.YtkkgngmhdlmgnaaDoorJsonLays
import Derived.Test.YtkkgngmhdlmgnaaDoorRanges
import Derived.Deep.MidRow
import Derived.WalkKit
import Derived.WalkSpells
import Derived.WalkLawsBesides
import Derived.Outline
import Derived.Laws.BitsAllLaws
import Derived.Laws.IdiomStrings
import Derived.Deep.OwnRows
import Derived.Maps.AppendAt
import Derived.Below
import Derived.Lib.OthersKept
import Derived.Shelf.Unicode.ValidAny
import Derived.Shelf.Utf8.AppendRunePlain
namespace Go.Proofs.YtkkgngmhdlmgnaaDoor.jw
open Go.ChangeShapes Go.WideShapes Go.ChangeAt Go.RowKit Go.Proofs.YtkkgngmhdlmgnaaDoor.common

abbrev B (c : UInt8) : Value := .int .u8 (c.toNat : Int)
abbrev S (l : List UInt8) : Value := .string ⟨l.toArray⟩

theorem info8 : (Tryd.prog.info? 5).map (fun i => (i.zero, i.size, i.bytes)) = some (some (.int .u8 0), 1, 1) := by kernel_rfl

theorem own_ge {w : World} {base : Nat} {e : TypeId} {size : Nat} {v : Value} {n : Nat} {xs : List Value} (h : w.ownsRow base e size v n xs) : ∀ b, v.ownBlock = some b → base ≤ b := by
  intro b hb
  exact (h.lt b hb).1

theorem conv_own {w : World} {base : Nat} {e : TypeId} {v : Value} {l : List UInt8} {n : Nat} (h : w.ownsRow base e 1 v n (l.map B)) (hn : l.length = n) :
    (convert 60 9 v).run Tryd.prog w = .ok (S l) w := by
  subst hn
  rcases h.2 with ⟨rfl, h0⟩ | ⟨g, cap, cur, rfl, hg, hh, hn, _, hsz, htk⟩
  · rw [run_convert_bytes_nil (P := Tryd.prog) w 60 5 Tryd.underlying60 Tryd.underlying5 0 0 9 Tryd.underlying9]
    obtain rfl : l = [] := List.eq_nil_of_length_eq_zero h0
    rfl
  · refine run_convert_bytes_back (P := Tryd.prog) w 60 9 5 ⟨g, 0, none⟩ cap l Tryd.underlying60 Tryd.underlying5 Tryd.underlying9 ?_
    intro j hj
    rw [Addr.add_mid, Nat.zero_add]
    have : (cur.toList.take (l.length * 1))[j]? = (l.map B)[j]? := by rw [htk]
    rw [List.getElem?_take_of_lt (by omega)] at this
    simp only [World.cell?, hh]
    simp [hj] at this
    simpa using this

theorem getD_list (s : ByteArray) (k : Nat) (h : k < s.size) : s.data.toList.getD k 0 = s[k] := by
  rw [List.getD_eq_getElem?_getD, List.getElem?_eq_getElem (by simpa using h)]; rfl
theorem len_list (s : ByteArray) : s.data.toList.length = s.size := by simp
theorem ba_ext {a b : ByteArray} (h : a.data.toList = b.data.toList) : a = b := by
  apply ByteArray.ext; apply Array.toList_inj.1; exact h
theorem ne_list {a b : ByteArray} (h : a ≠ b) : (a.toList == b.toList) = false := by
  rw [ByteArray.toList_eq, ByteArray.toList_eq]
  exact beq_false_of_ne fun e => h (ba_ext e)
theorem eq_list {a b : ByteArray} (h : a = b) : (a.toList == b.toList) = true := by subst h; simp
theorem str_size (l : List UInt8) : (⟨l.toArray⟩ : ByteArray).size = l.length := by
  show l.toArray.size = _; simp
theorem str_list (l : List UInt8) : (⟨l.toArray⟩ : ByteArray).data.toList = l := rfl

/-! ### the frame: what lies below stays, and above it all that is no row of bytes -/
structure Fr (b : Nat) (w w' : World) : Prop where
  below : Below b w w'
  others : Lib.OthersKept 5 none w w'
theorem Fr.refl (b : Nat) (w : World) : Fr b w w := ⟨Below.refl _ _, Lib.OthersKept.refl _ _ _⟩
theorem Fr.trans {b : Nat} {a c d : World} (h : Fr b a c) (k : Fr b c d) : Fr b a d := ⟨h.below.trans k.below, h.others.trans k.others⟩
theorem Fr.alloc {b : Nat} {a w : World} (h : Fr b a w) (hb : b ≤ w.heap.size) (o : Obj) : Fr b a (w.alloc o) := ⟨h.below.alloc hb o, h.others.alloc o⟩
theorem Fr.drew {b : Nat} {a w : World} (h : Fr b a w) : Fr b a w.drew := ⟨h.below.drew, h.others.drew⟩
theorem Fr.size {b : Nat} {a w : World} (h : Fr b a w) : a.heap.size ≤ w.heap.size := h.below.size
theorem Fr.mono {b c : Nat} {a w : World} (h : Fr b a w) (hc : c ≤ b) : Fr c a w := ⟨h.below.mono hc, h.others⟩
/-- new blocks alone -/
theorem fr_of_below {a w : World} (h : Below a.heap.size a w) (b : Nat) (hb : b ≤ a.heap.size) : Fr b a w :=
  ⟨h.mono hb, fun k o hk _ _ => by
    have hlt : k < a.heap.size := (Array.getElem?_eq_some_iff.1 hk).1
    rw [h.block k hlt]; exact hk⟩
theorem own_kind {w : World} {b : Nat} {e : TypeId} {v : Value} {n : Nat} {xs : List Value} (h : w.ownsRow b e 1 v n xs) : ∀ g, v.ownBlock = some g → ∃ c fz, w.heap[g]? = some (.cells c e fz) := by
  intro g hg
  rcases h.2 with ⟨rfl, _⟩ | ⟨g', cap, cur, rfl, _, hgg, _⟩
  · simp [Value.ownBlock] at hg
  · simp [Value.ownBlock] at hg
    subst hg
    exact ⟨cur, _, hgg⟩
theorem Fr.grown {b : Nat} {a w w' : World} {v : Value} {n : Nat} {xs : List Value} (h : Fr b a w) (hown : w.ownsRow b 5 1 v n xs) (hg : w.grownBy w' v.ownBlock) (hb : b ≤ w.heap.size) : Fr b a w' :=
  ⟨h.below.grown hg hb (own_ge hown), h.others.grown hg (own_kind hown)⟩

/-! ### the library -/
abbrev Tabs (w : World) : Prop := Lib.Utf8Tabs 14 15 w
theorem tabs_lt {w : World} (h : Tabs w) : 14 < w.heap.size ∧ 15 < w.heap.size :=
  ⟨World.block_lt_of_cell? w _ (h.1 0 (by decide)), World.block_lt_of_cell? w _ (h.2 0 (by decide)).1⟩
theorem tabs_under {w w' : World} {b : Nat} (h : Tabs w) (hb : Below b w w') (h1 : 14 < b) (h2 : 15 < b) : Tabs w' :=
  ⟨fun c hc => by rw [← h.1 c hc]; exact hb.cell h1, fun i hi => ⟨by rw [← (h.2 i hi).1]; exact hb.cell h2, by rw [← (h.2 i hi).2]; exact hb.cell h2⟩⟩
theorem tabs_below {w w' : World} (h : Tabs w) (hb : Below w.heap.size w w') : Tabs w' := tabs_under h hb (tabs_lt h).1 (tabs_lt h).2

theorem valid_any (s : ByteArray) (w : World) (hs : s.size ≤ 9223372036854775807) (hT : Tabs w) :
    Calls Tryd.prog 56 #[.string s] w fun e w' => e = .returned (.bool (Lib.validD s.data.toList)) ∧ Below w.heap.size w w' :=
  Any.utf8_ValidString jl.lays196 s w hs hT

theorem map_B (l : List UInt8) : l.map B = Lib.byteCells l := rfl
theorem map_encode (r : Int) : (Lib.encodeRune r).map B = Lib.runeCells r := by
  rw [map_B, Lib.byteCells_encodeRune]

theorem appendRune_any (b : Nat) (v : Value) (l : List UInt8) (r : Int) (w : World) (hr0 : -2147483648 ≤ r) (hr1 : r ≤ 2147483647) (hown : w.ownsRow b 5 1 v l.length (l.map B)) (hlen : l.length + 4 ≤ 140737488355328) (hb : b ≤ w.heap.size) :
    Calls Tryd.prog 62 #[v, .int .i32 r] w fun e w' => ∃ v', e = .returned v' ∧ w'.ownsRow b 5 1 v' (l ++ Lib.encodeRune r).length ((l ++ Lib.encodeRune r).map B) ∧ Fr b w w' := by
  refine (Any.utf8_AppendRune_plain jl.lays242 info8 b v l.length (l.map B) r hr0 hr1 w hown hlen hb).mono ?_
  rintro e w' ⟨v', rfl, ho, o, hg⟩
  refine ⟨v', rfl, ?_, ?_⟩
  · rw [List.map_append, map_encode, List.length_append, ← Lib.runeCells_length]; exact ho
  · exact ((Fr.refl b w).alloc hb o).grown (hown.alloc o) hg (by simp; omega)

end Go.Proofs.YtkkgngmhdlmgnaaDoor.jw
