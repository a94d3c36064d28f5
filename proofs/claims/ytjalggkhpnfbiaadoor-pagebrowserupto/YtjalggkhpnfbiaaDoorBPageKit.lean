import Derived.Test.YtjalggkhpnfbiaaDoorBPageMath
import Derived.Deep.RegionHeld3
import Derived.Deep.MidRow
import Derived.Deep.DrawnRows
import Derived.BigQuiet
import Derived.Deep.QuietTactic
import Derived.WalkSmall
import Derived.Test.YtjalggkhpnfbiaaDoorRows
import Derived.WalkKit
import Derived.WalkSpells
import Derived.WalkLawsBesides
import Derived.Outline
import Derived.Laws.BitsAllLaws
import Derived.Laws.IdiomStrings
import Derived.Laws.Externs
import Derived.Deep.OwnRows
import Derived.Maps.AppendAt
import Derived.Below
import Derived.Lib.OthersKept
import Derived.Lib.Builder
import Derived.Lib.AppendStr
import Derived.Lib.UnsafeStr
import Derived.Lib.Strings
import Derived.Shelf.RegionOpenPlain
namespace Go.Proofs.YtjalggkhpnfbiaaDoor.common
open Go.ChangeShapes Go.WideShapes Go.ChangeAt Go.RowKit

theorem range_cell {w : World} {b o : Nat} {cs : List Value} (h : w.rangeAt b o cs) (i : Nat) (hi : i < cs.length) : w.cell? ⟨b, o + i, none⟩ = some cs[i] := h i _ (List.getElem?_eq_getElem hi)

theorem range_below {w w' : World} {B b o : Nat} {cs : List Value} (h : w.rangeAt b o cs) (hb : Below B w w') (hB : b < B) : w'.rangeAt b o cs := fun j v hv => by
  rw [← h j v hv]; exact hb.cell (p := ⟨b, o + j, none⟩) hB

theorem there_below {w w' : World} {B b o n : Nat} (h : w.there b o n) (hb : Below B w w') (hB : b < B) : w'.there b o n := fun j hj => by
  have := h j hj
  rw [hb.cell (p := ⟨b, o + j, none⟩) hB, hb.frozen (p := ⟨b, o + j, none⟩) hB]; exact this

theorem range_set {w : World} {b o : Nat} {cs : List Value} (h : w.rangeAt b o cs) (i : Nat) (hi : i < cs.length) (v : Value) : (w.setCell ⟨b, o + i, none⟩ v).rangeAt b o (cs.set i v) := fun j u hu => by
  by_cases hj : j = i
  · subst hj
    rw [World.cell?_setCell_same _ _ _ (range_cell h j hi)]
    simp [hi] at hu
    rw [hu]
  · have hne : (⟨b, o + i, none⟩ : Addr) ≠ ⟨b, o + j, none⟩ := fun he => by have := (Addr.mk.inj he).2.1; omega
    rw [World.cell?_setCell_other _ _ _ _ hne]
    rw [List.getElem?_set_ne (by omega)] at hu
    exact h j u hu

theorem there_set {w : World} {b o n : Nat} (h : w.there b o n) (a : Addr) (v : Value) : (w.setCell a v).there b o n := fun j hj => by
  obtain ⟨h1, h2⟩ := h j hj
  refine ⟨?_, ?_⟩
  · by_cases he : a = ⟨b, o + j, none⟩
    · subst he
      obtain ⟨x, hx⟩ := Option.isSome_iff_exists.1 h1
      rw [World.cell?_setCell_same _ _ _ hx]; rfl
    · rw [World.cell?_setCell_other _ _ _ _ he]; exact h1
  · rw [← h2]
    simp

/-- a new block, whole -/
theorem range_new (w : World) (C : Array Value) (t : TypeId) : (w.alloc (.cells C t)).rangeAt w.heap.size 0 C.toList := fun j v hv => by
  simpa using hv
theorem there_new (w : World) (C : Array Value) (t : TypeId) : (w.alloc (.cells C t)).there w.heap.size 0 C.size := fun j hj => by
  refine ⟨?_, ?_⟩
  · simp [hj]
  · simp

theorem there_new_at (w : World) (C : Array Value) (t : TypeId) (g n : Nat) (hg : g = w.heap.size) (hn : n = C.size) : (w.alloc (.cells C t)).there g 0 n := by
  subst hg hn; exact there_new w C t
/-- one result, a long array that lies in a cell's block -/
theorem results_cell1 {fn : Func} {p : Tmp} {ty : TypeId} {P : Program} {w : World} {b o : Nat} {cs : List Value} {d : TypeDesc} (h : fn.results = #[.cell p ty]) (tmps : Array Value) (hx : tmps.getD p undef = .pointer (some ⟨b, o, none⟩))
    (hc : w.rangeAt b o cs) (hu : P.underlying ty = some d) (hd : d.isRow = true) (hi : (P.info? ty).map (·.size) = some cs.length) : (results fn tmps).run P w = .ok (.agg cs.toArray) w := by
  have hx' : tmps[p]?.getD undef = .pointer (some ⟨b, o, none⟩) := by simpa using hx
  simp only [results, h]
  simp [hx', asAddr, run_loadVar_mid w b o ty cs d hc hu hd hi]

end Go.Proofs.YtjalggkhpnfbiaaDoor.common

namespace Go.Proofs.YtjalggkhpnfbiaaDoor.pg
open Go.ChangeShapes Go.WideShapes Go.ChangeAt Go.RowKit Go.Proofs.YtjalggkhpnfbiaaDoor.common

abbrev B (c : UInt8) : Value := .int .u8 (c.toNat : Int)
abbrev S (l : List UInt8) : Value := .string ⟨l.toArray⟩

theorem info8 : (Tryd.prog.info? 5).map (fun i => (i.zero, i.size, i.bytes)) = some (some (.int .u8 0), 1, 1) := by kernel_rfl

theorem own_ge {w : World} {base : Nat} {e : TypeId} {size : Nat} {v : Value} {n : Nat} {xs : List Value} (h : w.ownsRow base e size v n xs) : ∀ b, v.ownBlock = some b → base ≤ b := by
  intro b hb
  exact (h.lt b hb).1

theorem conv_own {w : World} {base : Nat} {e : TypeId} {v : Value} {l : List UInt8} {n : Nat} (h : w.ownsRow base e 1 v n (l.map B)) (hn : l.length = n) :
    (convert 52 9 v).run Tryd.prog w = .ok (S l) w := by
  subst hn
  rcases h.2 with ⟨rfl, h0⟩ | ⟨g, cap, cur, rfl, hg, hh, hn, _, hsz, htk⟩
  · rw [run_convert_bytes_nil (P := Tryd.prog) w 52 5 Tryd.underlying52 Tryd.underlying5 0 0 9 Tryd.underlying9]
    obtain rfl : l = [] := List.eq_nil_of_length_eq_zero h0
    rfl
  · refine run_convert_bytes_back (P := Tryd.prog) w 52 9 5 ⟨g, 0, none⟩ cap l Tryd.underlying52 Tryd.underlying5 Tryd.underlying9 ?_
    intro j hj
    rw [Addr.add_mid, Nat.zero_add]
    have : (cur.toList.take (l.length * 1))[j]? = (l.map B)[j]? := by rw [htk]
    rw [List.getElem?_take_of_lt (by omega)] at this
    simp only [World.cell?, hh]
    simp [hj] at this
    simpa using this

theorem getD_list (s : ByteArray) (k : Nat) (h : k < s.size) : s.data.toList.getD k 0 = s[k] := by
  rw [List.getD_eq_getElem?_getD, List.getElem?_eq_getElem (by simpa using h)]; rfl
theorem len_list (s : ByteArray) : s.data.toList.length = s.size := by simp
theorem ba_ext {a b : ByteArray} (h : a.data.toList = b.data.toList) : a = b := by
  apply ByteArray.ext; apply Array.toList_inj.1; exact h
theorem ne_list {a b : ByteArray} (h : a ≠ b) : (a.toList == b.toList) = false := by
  rw [ByteArray.toList_eq, ByteArray.toList_eq]
  exact beq_false_of_ne fun e => h (ba_ext e)
theorem str_size (l : List UInt8) : (⟨l.toArray⟩ : ByteArray).size = l.length := by
  show l.toArray.size = _; simp
theorem str_eq (l : List UInt8) (s : ByteArray) (h : l = s.data.toList) : (⟨l.toArray⟩ : ByteArray) = s := by
  subst h; rfl
theorem cells_new (w : World) (l : List Value) (t : TypeId) : ∀ j u, l[j]? = some u → (w.alloc (.cells l.toArray t)).cell? ((⟨w.heap.size, 0, none⟩ : Addr).add j) = some u := by
  intro j u h
  rw [Addr.add_mid]
  exact range_new w l.toArray t j u h
theorem own_below {w w' : World} {base : Nat} {e : TypeId} {size : Nat} {v : Value} {n : Nat} {xs : List Value} (h : w.ownsRow base e size v n xs) (hb : Below w.heap.size w w') : w'.ownsRow base e size v n xs := by
  refine ⟨h.1, ?_⟩
  rcases h.2 with hh | ⟨g, cap, cur, rfl, hg, hh, hn⟩
  · exact Or.inl hh
  · exact Or.inr ⟨g, cap, cur, rfl, hg, (hb.block g (Array.getElem?_eq_some_iff.1 hh).1).trans hh, hn⟩
theorem own_kind {w : World} {b : Nat} {e : TypeId} {v : Value} {n : Nat} {xs : List Value} (h : w.ownsRow b e 1 v n xs) : ∀ g, v.ownBlock = some g → ∃ c fz, w.heap[g]? = some (.cells c e fz) := by
  intro g hg
  rcases h.2 with ⟨rfl, _⟩ | ⟨g', cap, cur, rfl, _, hgg, _⟩
  · simp [Value.ownBlock] at hg
  · simp [Value.ownBlock] at hg
    subst hg
    exact ⟨cur, _, hgg⟩
theorem drop_cons (s : ByteArray) (a : Nat) (h : a < s.size) : s.data.toList.drop a = s[a] :: s.data.toList.drop (a + 1) := by
  rw [List.drop_eq_getElem_cons (by simpa using h)]; rfl
structure Fr (b : Nat) (w w' : World) : Prop where
  below : Below b w w'
  others : Lib.OthersKept 5 (some b) w w'
theorem Fr.refl (b : Nat) (w : World) : Fr b w w := ⟨Below.refl _ _, Lib.OthersKept.refl _ _ _⟩
theorem Fr.trans {b : Nat} {a c d : World} (h : Fr b a c) (k : Fr b c d) : Fr b a d := ⟨h.below.trans k.below, h.others.trans k.others⟩
theorem Fr.alloc {b : Nat} {a w : World} (h : Fr b a w) (hb : b ≤ w.heap.size) (o : Obj) : Fr b a (w.alloc o) := ⟨h.below.alloc hb o, h.others.alloc o⟩
theorem Fr.drew {b : Nat} {a w : World} (h : Fr b a w) : Fr b a w.drew := ⟨h.below.drew, h.others.drew⟩
theorem Fr.size {b : Nat} {a w : World} (h : Fr b a w) : a.heap.size ≤ w.heap.size := h.below.size
/-- new blocks alone -/
theorem fr_of_below {a w : World} (h : Below a.heap.size a w) (b : Nat) (hb : b ≤ a.heap.size) : Fr b a w :=
  ⟨h.mono hb, fun k o hk _ _ => by
    have hlt : k < a.heap.size := (Array.getElem?_eq_some_iff.1 hk).1
    rw [h.block k hlt]; exact hk⟩

abbrev ptr (b : Nat) : Value := .pointer (some ⟨b, 0, none⟩)

/-- the types of a block that begins with a builder -/
def Kind (T : TypeId) (xs : List Value) : Prop := (T = 54 ∧ xs.length = 0) ∨ (T = 56 ∧ xs.length = 1)
theorem Kind.ne {T : TypeId} {xs : List Value} (h : Kind T xs) : T ≠ 5 := by
  rcases h with ⟨rfl, _⟩ | ⟨rfl, _⟩ <;> decide
theorem lies_w : liesAt Tryd.prog Tryd.prog.depth 56 ((2 + 1) / Tryd.prog.cellsOf 56) 0 54 1 = true := by kernel_rfl
theorem lies_b : liesAt Tryd.prog Tryd.prog.depth 54 ((2 + 0) / Tryd.prog.cellsOf 54) 0 54 1 = true := by kernel_rfl
theorem Kind.lies {T : TypeId} {xs : List Value} (h : Kind T xs) : liesAt Tryd.prog Tryd.prog.depth T ((2 + xs.length) / Tryd.prog.cellsOf T) 0 54 1 = true := by
  rcases h with ⟨rfl, h⟩ | ⟨rfl, h⟩
  · rw [h]; exact lies_b
  · rw [h]; exact lies_w

/-- a builder at the head of the block b, with these bytes -/
structure Bd (w : World) (b : Nat) (T : TypeId) (xs : List Value) (l : List UInt8) : Prop where
  kind : Kind T xs
  is : ∃ p v, (p = .pointer none ∨ p = ptr b) ∧ w.heap[b]? = some (.cells ⟨p :: v :: xs⟩ T (0, 0)) ∧ w.ownsRow b 5 1 v l.length (l.map B) ∧ v.ownBlock ≠ some b ∧ (l = [] → v = .slice none 0 0)
theorem Bd.lt {w : World} {b : Nat} {T : TypeId} {xs : List Value} {l : List UInt8} (h : Bd w b T xs l) : b < w.heap.size := by
  obtain ⟨p, v, _, hb, _⟩ := h.is
  exact (Array.getElem?_eq_some_iff.1 hb).1
theorem Bd.drew {w : World} {b : Nat} {T : TypeId} {xs : List Value} {l : List UInt8} (h : Bd w b T xs l) : Bd w.drew b T xs l := ⟨h.kind, h.is⟩
/-- other blocks may come -/
theorem Bd.next {w w' : World} {b : Nat} {T : TypeId} {xs : List Value} {l : List UInt8} (h : Bd w b T xs l) (hb : Below w.heap.size w w') : Bd w' b T xs l := by
  obtain ⟨p, v, hp, hbk, hown, hne⟩ := h.is
  exact ⟨h.kind, p, v, hp, (hb.block b h.lt).trans hbk, own_below hown hb, hne⟩
theorem Bd.nil (w : World) (T : TypeId) (xs : List Value) (hk : Kind T xs) : Bd (w.alloc (.cells ⟨.pointer none :: .slice none 0 0 :: xs⟩ T)) w.heap.size T xs [] :=
  ⟨hk, .pointer none, .slice none 0 0, Or.inl rfl, by show (w.heap.push _)[w.heap.size]? = _; simp, World.ownsRow_nil _ _ _ _, by simp [Value.ownBlock], fun _ => rfl⟩
theorem set_block {w : World} {rb : Nat} {c : Array Value} {t : TypeId} {fz : Nat × Nat} (h : w.heap[rb]? = some (.cells c t fz)) (i : Nat) (v : Value) : (w.setCell ⟨rb, i, none⟩ v).heap[rb]? = some (.cells (c.setIfInBounds i v) t fz) := by
  simp only [World.setCell, Array.getElem?_modify, if_true, h]
  rfl

theorem own_set {w : World} {b : Nat} {e : TypeId} {v : Value} {n : Nat} {xs : List Value} (h : w.ownsRow b e 1 v n xs) (hne : v.ownBlock ≠ some b) (i : Nat) (x : Value) : (w.setCell ⟨b, i, none⟩ x).ownsRow b e 1 v n xs :=
  h.kept (row := some b) ⟨rfl, rfl, rfl, by simp [World.setCell], fun k _ hk => Below.heap_setCell _ _ _ _ (fun e => hk (by simp [e]))⟩ (Or.inr hne)

set_option maxHeartbeats 1000000 in
set_option maxRecDepth 100000 in
theorem copy_used (b : Nat) (w : World) (h0 : w.cell? ⟨b, 0, none⟩ = some (ptr b)) :
    Calls Tryd.prog 49 #[ptr b] w fun e w' => e = .returned (.tuple #[]) ∧ w' = w := by
  have hj : ∃ j, Tryd.prog.info? 54 = some j := Option.isSome_iff_exists.1 (by kernel_rfl)
  obtain ⟨j, hj⟩ := hj
  go_enter Tryd.func49, Tryd.ntmps49
  go_wp2
  rw [Lib.run_neq_ptr_same w _ Tryd.underlying51 hj]
  go_wp2
  go_end0
  exact ⟨rfl, rfl⟩

theorem size_b : (Tryd.prog.info? 54).map (·.size) = some 2 := by kernel_rfl

set_option maxHeartbeats 1000000 in
set_option maxRecDepth 100000 in
theorem copy_fresh (b : Nat) (w : World) (T : TypeId) (xs : List Value) (hk : Kind T xs) (h0 : w.cell? ⟨b, 0, none⟩ = some (.pointer none)) (hsh : w.shape? b = some (T, 2 + xs.length)) (hfz : w.frozen? ⟨b, 0, none⟩ = false) :
    Calls Tryd.prog 49 #[ptr b] w fun e w' => e = .returned (.tuple #[]) ∧ w' = w.setCell ⟨b, 0, none⟩ (ptr b) := by
  obtain ⟨j, hj, hjs⟩ := Option.map_eq_some_iff.1 size_b
  go_enter Tryd.func49, Tryd.ntmps49
  go_wp2
  rw [Lib.run_to_unsafe w ⟨b, 0, none⟩ Tryd.underlying51 Tryd.underlying115 hj (by rw [hjs]; decide) hsh (by show 0 < 2 + xs.length; omega)]
  simp only [Result.andThen]
  rw [Oper.upon_value]
  go_wp2
  rw [run_callFunc_extern Tryd.func60 (by kernel_rfl) (by kernel_rfl) (by kernel_rfl) (e := Extern.AbiNoEscape.same) (by kernel_rfl)]
  rw [Lib.run_noEscape]
  simp only [Result.andThen]
  rw [Oper.upon_value]
  go_wp2
  rw [Lib.run_from_unsafe w ⟨b, 0, none⟩ Tryd.underlying115 Tryd.underlying51 hj hsh hk.lies]
  simp only [Result.andThen]
  rw [Oper.upon_value]
  go_wp2
  go_end0
  exact ⟨rfl, rfl⟩

/-- behind copyCheck -/
theorem copy_any (b : Nat) (w : World) (T : TypeId) (xs : List Value) (l : List UInt8) (h : Bd w b T xs l) :
    Calls Tryd.prog 49 #[ptr b] w fun e w' => e = .returned (.tuple #[]) ∧ Fr b w w' ∧
      ∃ v, w'.heap[b]? = some (.cells ⟨ptr b :: v :: xs⟩ T (0, 0)) ∧ w'.ownsRow b 5 1 v l.length (l.map B) ∧ v.ownBlock ≠ some b := by
  obtain ⟨p, v, hp, hbk, hown, hne, _⟩ := h.is
  rcases hp with rfl | rfl
  · refine (copy_fresh b w T xs h.kind (by rw [Lib.cell_of_heap hbk]; rfl) (by simp [World.shape?, hbk]; omega) (Lib.frozen_of_heap hbk 0)).mono ?_
    rintro e w' ⟨rfl, rfl⟩
    refine ⟨rfl, ⟨(Below.refl b w).setCell (p := ⟨b, 0, none⟩) (Nat.le_refl _) _, (Lib.OthersKept.refl _ _ w).setCell ⟨b, 0, none⟩ rfl _⟩, v, ?_, ?_, hne⟩
    · rw [set_block hbk 0]; rfl
    · exact own_set hown hne 0 _
  · refine (copy_used b w (by rw [Lib.cell_of_heap hbk]; rfl)).mono ?_
    rintro e w' ⟨rfl, rfl⟩
    exact ⟨rfl, Fr.refl _ _, v, hbk, hown, hne⟩

end Go.Proofs.YtjalggkhpnfbiaaDoor.pg
