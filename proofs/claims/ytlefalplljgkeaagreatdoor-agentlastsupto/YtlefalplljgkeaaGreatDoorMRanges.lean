import Derived.WalkKit
import Derived.ProofKit
import Derived.OpenShut
import Derived.Deep.DeepHandedRow
import Derived.Lib.LaidTab
import Derived.Lib.SmallJoins
import Derived.Deep.RegionHeld3
import Derived.Deep.MidRow
import Derived.Deep.DrawnRows
import Derived.BigQuiet
import Derived.Deep.QuietTactic
import Derived.WalkSmall
namespace Go.Proofs.YtlefalplljgkeaaGreatDoor.common
open Go.ChangeShapes Go.WideShapes Go.ChangeAt Go.RowKit

theorem hide {p : Prop} (h : p) : Hid p := h

theorem take_snoc (s : ByteArray) (k : Nat) (h : k < s.size) : s.data.toList.take (k + 1) = s.data.toList.take k ++ [s[k]] := by
  rw [List.take_succ_eq_append_getElem (by simpa using h)]; rfl

theorem int_eq {k : IntKind} {a b : Int} (h : a = b) : Value.int k a = Value.int k b := by rw [h]

/-- A LAW OF ONE ARGUMENT: from the walk to the row's contract. -/
theorem law_one {H : Type} {enc : TypeId × Value → H} {P : Program} {f : Func} {fid : FuncId} {s : ChangeSpec} {t0 tb : TypeId} {W : World} {base : Nat} {args : Array Value} {ds gs : List (DataW H)} {before : List MemPlace}
    (hparams : f.params = #[t0]) (hres : f.resultTypes = #[tb]) (hbool : P.underlying tb = some .bool) (hl : laidOutB P = true) (hr : P.readableRec t0 = true) (hrow : t0 < P.types.size)
    (hvars : s.vars = []) (hfn : ∀ d : DataW H, s.fn H [d] = { results := [.lit (.bool true)], args := [d] })
    (hval : ∀ (j : Nat) t v, f.params[j]? = some t → args[j]? = some v → Value.okWide P W .any base t v)
    (hW : DataW.Whole enc P f.params.toList s.vars false W args.toList ds gs before)
    (walk : ∀ (v0 : Value) (d0 : DataW H) (p0 : List MemPlace), Value.okWide P W .any base t0 v0 → DataW.Trod enc P W 0 (fun _ => true) true t0 v0 d0 p0 → ds = [d0] → gs = [] → (∀ x ∈ p0, x.block < W.heap.size) →
      Calls P fid #[v0] W fun e w' => e = .returned (.bool true) ∧ Below W.heap.size W w') :
    Calls P fid args W fun e W' => ∃ v, e = .returned v ∧ s.post enc P f false true false false W args v W' := by
  have hW' := hW
  have hlt := hW.lt
  obtain ⟨p, q, hA, hV, rfl, hfz, hnd⟩ := hW
  rw [hparams] at hA hval
  rw [hvars] at hV
  obtain ⟨v0, vs0, d0, ds0, p0, q0, hargs, rfl, rfl, h0, r0⟩ := trodAll_cons hA
  obtain ⟨rfl, rfl, rfl⟩ := trodAll_nil r0
  obtain rfl : args = #[v0] := by cases args; simp_all
  obtain ⟨rfl, rfl⟩ := trodVars_none hV
  simp only [List.append_nil] at hW' hlt
  refine (walk v0 d0 p0 (hval 0 t0 v0 rfl rfl) h0 rfl rfl hlt).mono fun e W' ⟨he, hb⟩ => ?_
  subst he
  refine ⟨_, rfl, [d0], [], p0, [], p0, [], hW', ?_, ?_, ?_, hb.frame _, fun h => by cases h⟩
  · rw [hres]
    simp only [List.append_nil, hfn]
    exact trodAll_mk1 (shut_bool hbool true)
  · rw [hparams]
    simp only [List.append_nil, hfn]
    exact trodAll_mk1 (Below.trod hl hr hrow h0 hb hlt)
  · rw [hvars]
    simp only [List.append_nil, hfn]
    rfl

end Go.Proofs.YtlefalplljgkeaaGreatDoor.common

namespace Go.Proofs.YtlefalplljgkeaaGreatDoor.common
open Go.ChangeShapes Go.WideShapes Go.ChangeAt Go.RowKit

theorem range_cell {w : World} {b o : Nat} {cs : List Value} (h : w.rangeAt b o cs) (i : Nat) (hi : i < cs.length) : w.cell? ⟨b, o + i, none⟩ = some cs[i] := h i _ (List.getElem?_eq_getElem hi)

theorem range_below {w w' : World} {B b o : Nat} {cs : List Value} (h : w.rangeAt b o cs) (hb : Below B w w') (hB : b < B) : w'.rangeAt b o cs := fun j v hv => by
  rw [← h j v hv]; exact hb.cell (p := ⟨b, o + j, none⟩) hB

theorem there_below {w w' : World} {B b o n : Nat} (h : w.there b o n) (hb : Below B w w') (hB : b < B) : w'.there b o n := fun j hj => by
  have := h j hj
  rw [hb.cell (p := ⟨b, o + j, none⟩) hB, hb.frozen (p := ⟨b, o + j, none⟩) hB]; exact this

theorem range_lt {w : World} {b o : Nat} {cs : List Value} (h : w.rangeAt b o cs) (hn : 0 < cs.length) : b < w.heap.size := World.block_lt_of_cell? w _ (range_cell h 0 hn)

theorem there_lt {w : World} {b o n : Nat} (h : w.there b o n) (hn : 0 < n) : b < w.heap.size := by
  obtain ⟨v, hv⟩ := Option.isSome_iff_exists.1 (h 0 hn).1
  exact World.block_lt_of_cell? w _ hv

/-- one cell more -/
theorem range_snoc {w : World} {b o : Nat} {cs : List Value} (h : w.rangeAt b o cs) (v : Value) (ht : (w.cell? ⟨b, o + cs.length, none⟩).isSome = true) : (w.setCell ⟨b, o + cs.length, none⟩ v).rangeAt b o (cs ++ [v]) := fun j u hu => by
  by_cases hj : j < cs.length
  · rw [List.getElem?_append_left hj] at hu
    have hne : (⟨b, o + cs.length, none⟩ : Addr) ≠ ⟨b, o + j, none⟩ := fun he => by have := (Addr.mk.inj he).2.1; omega
    rw [World.cell?_setCell_other _ _ _ _ hne]
    exact h j u hu
  · have hj2 : j = cs.length := by
      have := (List.getElem?_eq_some_iff.1 hu).1
      simp at this; omega
    subst hj2
    obtain ⟨x, hx⟩ := Option.isSome_iff_exists.1 ht
    rw [World.cell?_setCell_same _ _ _ hx]
    simp at hu
    rw [hu]

theorem range_set {w : World} {b o : Nat} {cs : List Value} (h : w.rangeAt b o cs) (i : Nat) (hi : i < cs.length) (v : Value) : (w.setCell ⟨b, o + i, none⟩ v).rangeAt b o (cs.set i v) := fun j u hu => by
  by_cases hj : j = i
  · subst hj
    rw [World.cell?_setCell_same _ _ _ (range_cell h j hi)]
    simp [hi] at hu
    rw [hu]
  · have hne : (⟨b, o + i, none⟩ : Addr) ≠ ⟨b, o + j, none⟩ := fun he => by have := (Addr.mk.inj he).2.1; omega
    rw [World.cell?_setCell_other _ _ _ _ hne]
    rw [List.getElem?_set_ne (by omega)] at hu
    exact h j u hu

theorem range_other {w : World} {b o : Nat} {cs : List Value} (h : w.rangeAt b o cs) (a : Addr) (ha : a.block ≠ b ∨ a.off < o ∨ o + cs.length ≤ a.off) (v : Value) : (w.setCell a v).rangeAt b o cs := fun j u hu => by
  have hj := (List.getElem?_eq_some_iff.1 hu).1
  have hne : a ≠ ⟨b, o + j, none⟩ := fun he => by subst he; simp at ha; omega
  rw [World.cell?_setCell_other _ _ _ _ hne]
  exact h j u hu

theorem there_set {w : World} {b o n : Nat} (h : w.there b o n) (a : Addr) (v : Value) : (w.setCell a v).there b o n := fun j hj => by
  obtain ⟨h1, h2⟩ := h j hj
  refine ⟨?_, ?_⟩
  · by_cases he : a = ⟨b, o + j, none⟩
    · subst he
      obtain ⟨x, hx⟩ := Option.isSome_iff_exists.1 h1
      rw [World.cell?_setCell_same _ _ _ hx]; rfl
    · rw [World.cell?_setCell_other _ _ _ _ he]; exact h1
  · rw [← h2]
    simp

theorem range_drewN {w : World} {b o : Nat} {cs : List Value} (h : w.rangeAt b o cs) (n : Nat) : (w.drewN n).rangeAt b o cs := h
theorem there_drewN {w : World} {b o m : Nat} (h : w.there b o m) (n : Nat) : (w.drewN n).there b o m := h

/-- a new block, whole -/
theorem range_new (w : World) (C : Array Value) (t : TypeId) : (w.alloc (.cells C t)).rangeAt w.heap.size 0 C.toList := fun j v hv => by
  simpa using hv
theorem there_new (w : World) (C : Array Value) (t : TypeId) : (w.alloc (.cells C t)).there w.heap.size 0 C.size := fun j hj => by
  refine ⟨?_, ?_⟩
  · simp [hj]
  · simp

theorem there_new_at (w : World) (C : Array Value) (t : TypeId) (g n : Nat) (hg : g = w.heap.size) (hn : n = C.size) : (w.alloc (.cells C t)).there g 0 n := by
  subst hg hn; exact there_new w C t
theorem range_new_at (w : World) (C : Array Value) (t : TypeId) (g : Nat) (l : List Value) (hg : g = w.heap.size) (hl : l = C.toList) : (w.alloc (.cells C t)).rangeAt g 0 l := by
  subst hg hl; exact range_new w C t

theorem below_setCells {B : Nat} {a w : World} (h : Below B a w) {b : Nat} (hb : B ≤ b) (o : Nat) (vs : List Value) : Below B a (w.setCells b o vs) := by
  induction vs generalizing w o with
  | nil => exact h
  | cons v vs ih => exact ih (h.setCell (p := ⟨b, o, none⟩) hb v) (o + 1)

/-- one result, a long array that lies in a cell's block -/
theorem results_cell1 {fn : Func} {p : Tmp} {ty : TypeId} {P : Program} {w : World} {b o : Nat} {cs : List Value} {d : TypeDesc} (h : fn.results = #[.cell p ty]) (tmps : Array Value) (hx : tmps.getD p undef = .pointer (some ⟨b, o, none⟩))
    (hc : w.rangeAt b o cs) (hu : P.underlying ty = some d) (hd : d.isRow = true) (hi : (P.info? ty).map (·.size) = some cs.length) : (results fn tmps).run P w = .ok (.agg cs.toArray) w := by
  have hx' : tmps[p]?.getD undef = .pointer (some ⟨b, o, none⟩) := by simpa using hx
  simp only [results, h]
  simp [hx', asAddr, run_loadVar_mid w b o ty cs d hc hu hd hi]

end Go.Proofs.YtlefalplljgkeaaGreatDoor.common
