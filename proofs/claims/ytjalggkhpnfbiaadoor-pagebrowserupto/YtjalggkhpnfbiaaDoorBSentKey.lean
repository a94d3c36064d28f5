import Derived.Test.YtjalggkhpnfbiaaDoorRows
import Derived.Test.YtjalggkhpnfbiaaDoorBPageMath
import Derived.Test.YtjalggkhpnfbiaaDoorBPageKit
import Derived.Deep.MidRow
import Derived.WalkKit
import Derived.WalkSpells
import Derived.WalkLawsBesides
import Derived.Outline
import Derived.Laws.IdiomStrings
import Derived.Deep.OwnRows
import Derived.Maps.AppendAt
import Derived.Below
import Derived.Deep.RegionHeld3
import Derived.Deep.QuietTactic
import Derived.BigQuiet
import Derived.Deep.DrawnRows
import Derived.Maps.OwnSet
import Derived.Maps.Views
import Derived.WideKeyEntry
import Derived.DeepKeys4
namespace Go.Proofs.YtjalggkhpnfbiaaDoor.lst
open Go.ChangeShapes Go.WideShapes Go.ChangeAt Go.RowKit Go.Proofs.YtjalggkhpnfbiaaDoor.common
attribute [local go_sem ↓] Go.wp_at_zero Go.wp_at_succ

/-- a pair: its name and its value -/
abbrev PB := ByteArray × ByteArray

/-- the cells of pairs that lie one behind the other -/
def cl : List PB → List Value
  | [] => []
  | p :: r => .string p.1 :: .string p.2 :: cl r
theorem cl_len (l : List PB) : (cl l).length = l.length * 2 := by
  induction l with
  | nil => rfl
  | cons p r ih => show (cl r).length + 2 = _; rw [ih, List.length_cons]; omega
theorem cl_app (l m : List PB) : cl (l ++ m) = cl l ++ cl m := by
  induction l with
  | nil => rfl
  | cons p r ih => show _ :: _ :: cl (r ++ m) = _; rw [ih]; rfl
theorem cl_get0 (l : List PB) (i : Nat) (h : i < l.length) : (cl l)[i * 2]? = some (.string l[i].1) := by
  induction l generalizing i with
  | nil => simp at h
  | cons p r ih =>
    cases i with
    | zero => rfl
    | succ i =>
      rw [show (i + 1) * 2 = i * 2 + 1 + 1 by omega]
      show (cl r)[i * 2]? = _
      exact ih i (by simpa using h)
theorem cl_get1 (l : List PB) (i : Nat) (h : i < l.length) : (cl l)[i * 2 + 1]? = some (.string l[i].2) := by
  induction l generalizing i with
  | nil => simp at h
  | cons p r ih =>
    cases i with
    | zero => rfl
    | succ i =>
      rw [show (i + 1) * 2 + 1 = i * 2 + 1 + 1 + 1 by omega]
      show (cl r)[i * 2 + 1]? = _
      exact ih i (by simpa using h)
theorem cl_set (l : List PB) (i : Nat) (h : i < l.length) (p : PB) : ((cl l).set (i * 2) (.string p.1)).set (i * 2 + 1) (.string p.2) = cl (l.set i p) := by
  induction l generalizing i with
  | nil => simp at h
  | cons q r ih =>
    cases i with
    | zero => rfl
    | succ i =>
      have := ih i (by simpa using h)
      rw [show (i + 1) * 2 = i * 2 + 1 + 1 by omega]
      show Value.string q.1 :: Value.string q.2 :: (((cl r).set (i * 2) (.string p.1)).set (i * 2 + 1) (.string p.2)) = _
      rw [this]; rfl

/-- a slice that reads as l -/
def Lies (w : World) (v : Value) (l : List PB) : Prop :=
  ∃ oa cap, v = .slice oa l.length cap ∧ ∀ i (h : i < l.length), ∃ b o, oa = some ⟨b, o, none⟩ ∧ b < w.heap.size ∧ w.cell? ⟨b, o + i * 2, none⟩ = some (.string l[i].1) ∧ w.cell? ⟨b, o + i * 2 + 1, none⟩ = some (.string l[i].2)

theorem Lies.below {w w' : World} {v : Value} {l : List PB} (h : Lies w v l) (hb : Below w.heap.size w w') : Lies w' v l := by
  obtain ⟨oa, cap, hv, hc⟩ := h
  refine ⟨oa, cap, hv, fun i hi => ?_⟩
  obtain ⟨b, o, ho, hlt, c0, c1⟩ := hc i hi
  exact ⟨b, o, ho, Nat.lt_of_lt_of_le hlt hb.size, (hb.cell hlt).trans c0, (hb.cell hlt).trans c1⟩

/-- pairs that lie in a block of one's own -/
def Row (w : World) (g : Nat) (l : List PB) : Prop := w.there g 0 (l.length * 2) ∧ w.rangeAt g 0 (cl l)

theorem row_of_own {w : World} {base : Nat} {e : TypeId} {v : Value} {l : List PB} (h : w.ownsRow base e 2 v l.length (cl l)) : (v = .slice none 0 0 ∧ l = []) ∨ ∃ g cap, v = .slice (some ⟨g, 0, none⟩) l.length cap ∧ base ≤ g ∧ g < w.heap.size ∧ Row w g l ∧ l.length ≤ cap := by
  rcases h.2 with ⟨hv, h0⟩ | ⟨g, cap, cur, rfl, hg, hh, hn, _, hsz, htk⟩
  · exact Or.inl ⟨hv, List.eq_nil_of_length_eq_zero h0⟩
  · refine Or.inr ⟨g, cap, rfl, hg, (Array.getElem?_eq_some_iff.1 hh).1, ?_, hn⟩
    have hr : w.rangeAt g 0 (cl l) := by
      intro j u hu
      have hj : j < l.length * 2 := by have := (List.getElem?_eq_some_iff.1 hu).1; rw [cl_len] at this; exact this
      have : (cur.toList.take (l.length * 2))[j]? = (cl l)[j]? := by rw [htk]
      rw [List.getElem?_take_of_lt hj, hu] at this
      simp only [World.cell?, hh]
      simpa using this
    refine ⟨fun j hj => ⟨?_, by simp [World.frozen?, hh]⟩, hr⟩
    rw [range_cell hr j (by rw [cl_len]; exact hj)]; rfl

theorem Row.lies {w : World} {g : Nat} {l : List PB} (h : Row w g l) (hg : g < w.heap.size) (n cap : Nat) (hn : n ≤ l.length) : Lies w (.slice (some ⟨g, 0, none⟩) n cap) (l.take n) := by
  have hl : (l.take n).length = n := by rw [List.length_take]; omega
  refine ⟨_, cap, by rw [hl], fun i hi => ?_⟩
  rw [hl] at hi
  have hi2 : i < l.length := by omega
  refine ⟨g, 0, rfl, hg, ?_, ?_⟩
  · rw [h.2 (i * 2) _ (cl_get0 l i hi2)]; simp
  · have := h.2 (i * 2 + 1) _ (cl_get1 l i hi2)
    rw [Nat.zero_add] at this
    rw [Nat.zero_add, this]; simp

theorem lies_of_own {w : World} {base : Nat} {e : TypeId} {v : Value} {l : List PB} (h : w.ownsRow base e 2 v l.length (cl l)) : Lies w v l := by
  rcases row_of_own h with ⟨rfl, rfl⟩ | ⟨g, cap, rfl, _, hg, hr, _⟩
  · exact ⟨none, 0, rfl, fun i hi => absurd hi (Nat.not_lt_zero _)⟩
  · have := hr.lies hg l.length cap (Nat.le_refl _)
    rwa [List.take_length] at this

theorem Row.below {w w' : World} {b g : Nat} {l : List PB} (h : Row w g l) (hb : Below b w w') (hg : g < b) : Row w' g l := ⟨there_below h.1 hb hg, range_below h.2 hb hg⟩
theorem Row.drew {w : World} {g : Nat} {l : List PB} (h : Row w g l) : Row w.drew g l := h
theorem Row.set {w : World} {g : Nat} {l : List PB} (h : Row w g l) (i : Nat) (hi : i < l.length) (p : PB) : Row ((w.setCell ⟨g, i * 2, none⟩ (.string p.1)).setCell ⟨g, i * 2 + 1, none⟩ (.string p.2)) g (l.set i p) := by
  refine ⟨by rw [List.length_set]; exact there_set (there_set h.1 _ _) _ _, ?_⟩
  have h1 := range_set h.2 (i * 2) (by rw [cl_len]; omega) (.string p.1)
  have h2 := range_set h1 (i * 2 + 1) (by rw [List.length_set, cl_len]; omega) (.string p.2)
  rw [Nat.zero_add, Nat.zero_add, cl_set l i hi p] at h2
  exact h2

theorem infoP : (Tryd.prog.info? 66).map (fun i => (i.zero, i.size, i.bytes)) = some (some (.agg #[.string ⟨#[]⟩, .string ⟨#[]⟩]), 2, 32) := by kernel_rfl

theorem own_ge {w : World} {base : Nat} {e : TypeId} {size : Nat} {v : Value} {n : Nat} {xs : List Value} (h : w.ownsRow base e size v n xs) : ∀ b, v.ownBlock = some b → base ≤ b := by
  intro b hb
  exact (h.lt b hb).1

theorem cells_new (w : World) (l : List Value) (t : TypeId) : ∀ j u, l[j]? = some u → (w.alloc (.cells l.toArray t)).cell? ((⟨w.heap.size, 0, none⟩ : Addr).add j) = some u := by
  intro j u h
  rw [Addr.add_mid]
  exact range_new w l.toArray t j u h

theorem takeP (l : List PB) (k : Nat) (h : k < l.length) : l.take (k + 1) = l.take k ++ [l[k]] := by
  rw [List.take_succ_eq_append_getElem h]

theorem own_below {w w' : World} {base : Nat} {e : TypeId} {size : Nat} {v : Value} {n : Nat} {xs : List Value} (h : w.ownsRow base e size v n xs) (hb : Below w.heap.size w w') : w'.ownsRow base e size v n xs := by
  refine ⟨h.1, ?_⟩
  rcases h.2 with hh | ⟨g, cap, cur, rfl, hg, hh, hn⟩
  · exact Or.inl hh
  · exact Or.inr ⟨g, cap, cur, rfl, hg, (hb.block g (Array.getElem?_eq_some_iff.1 hh).1).trans hh, hn⟩

end Go.Proofs.YtjalggkhpnfbiaaDoor.lst

namespace Go.Proofs.YtjalggkhpnfbiaaDoor.sent
open Go.ChangeShapes Go.WideShapes Go.ChangeAt Go.RowKit Go.Proofs.YtjalggkhpnfbiaaDoor.common Go.Proofs.YtjalggkhpnfbiaaDoor.lst Go.Maps Go.ChangeMaps Go.MapKept
open Go.WideMaps (KeyLaw)

/-- 'm[k]++' where the entry is looked for on its own: the entry, the look-up on either side of it, the store -/
theorem own_entry {H : Type} {P : Program} {w : World} {t k e : TypeId} {q : IntKind} {b n : Nat} {D : DataW H} (K : KeyLaw P k) (ht : P.underlying t = some (.map k e)) (he : P.underlying e = some (.int q))
    (hz : ∀ u : World, (zeroValue e).run P u = .ok (.int q 0) u) (h : w.ownsMap P k (plainElem P e) b n D) (hn : n < maxLen) {key : Value} {kl : Lit} (hkey : keyOf P k key = some kl) {c : Int}
    (hc : D.atKey kl (.lit (.int q 0)) = .lit (.int q c)) :
    ∃ (st : Nat) (w1 : World), (Instr.mapEntry t (.map (some b)) key).run P w = .ok (.tuple #[.int q c, goInt st]) w1 ∧ w.grownBy w1 (some b) ∧
      (Instr.lookup t (.map (some b)) key false).run P w1 = .ok (.int q c) w1 ∧
      ∀ (val : Value) (d : DataW H), plainElem P e val = some (d, []) → ∃ w2, (Instr.entryStore t (.map (some b)) (goInt st) val).run P w1 = .ok () w2 ∧ w2.ownsMap P k (plainElem P e) b (n + 1) (D.put kl d) ∧ w.grownBy w2 (some b) := by
  have hw0 : (Lit.int q 0).wf = true := by cases q <;> decide
  have KK := Keyed.of_law K
  have h0 := h
  obtain ⟨c', hl, hc', _⟩ := h.lookup_int KK ht he (hz w) hkey
  obtain rfl : c' = c := by rw [hc] at hc'; cases hc'; rfl
  obtain ⟨es, clock, hb, F, hs, rfl⟩ := h
  obtain ⟨v0, st, es1, clock1, hent, _, hst⟩ := WideElems.entry_then_store K ht hz hb F hkey
  have hb1 : (setBlock w b (.map es1 clock1)).heap[b]? = some (.map es1 clock1) := heap_setBlock_same hb _
  have hg1 : w.grownBy (setBlock w b (.map es1 clock1)) (some b) := ⟨rfl, rfl, rfl, by simp [setBlock], fun i _ hi => heap_setBlock_other hb _ (fun e => hi (by rw [e]))⟩
  have main : v0 = .int q c' ∧ (Instr.lookup t (.map (some b)) key false).run P (setBlock w b (.map es1 clock1)) = .ok (.int q c') (setBlock w b (.map es1 clock1)) := by
    rcases K.find w hkey es.toList F.keys with ⟨h1, h2⟩ | ⟨j, e0, h1, h2, h3⟩
    · have hz0 : c' = 0 := by
        simp [Instr.lookup, run_underlying ht, MapKept.run_getObj_map hb, K.check w _ hkey, h1, hz, Result.andThen] at hl
        exact hl.symm
      have hE : (Instr.mapEntry t (.map (some b)) key).run P w = .ok (.tuple #[.int q 0, goInt clock]) (setBlock w b (.map (es.push ⟨key, .int q 0, clock⟩) (clock + 1))) := by
        simp [Instr.mapEntry, run_underlying ht, MapKept.run_getObj_map hb, K.check w false hkey, h1, hz, MapKept.run_setObj_map _ hb, Result.andThen, setBlock]
      have hU : (Instr.mapUpdate t (.map (some b)) key (.int q 0)).run P w = .ok () (setBlock w b (.map (es.push ⟨key, .int q 0, clock⟩) (clock + 1))) := by
        simp [Instr.mapUpdate, run_underlying ht, MapKept.run_getObj_map hb, K.check w false hkey, h1, MapKept.run_setObj_map _ hb, Result.andThen, setBlock]
      obtain ⟨w', hrun', hown', _⟩ := h0.update KK ht hn hkey (plainElem_int he hw0)
      rw [hU] at hrun'
      rw [hent] at hE
      injection hE with e1 e2
      injection hrun' with _ e3
      have e4 : v0 = .int q 0 := by
        injection e1 with e1
        have := congrArg (fun a : Array Value => a[0]?) e1
        simpa using this
      rw [e2, e3]
      obtain ⟨c2, hl2, hc2, _⟩ := hown'.lookup_int KK ht he (hz w') hkey
      rw [atKey_put_same ⟨_, rfl⟩ (KK.key hkey)] at hc2
      cases hc2
      exact ⟨by rw [e4, hz0], by rw [hl2, hz0]⟩
    · have hj : es[j]? = some e0 := by simpa using h2
      have hv : e0.val = .int q c' := by
        simp [Instr.lookup, run_underlying ht, MapKept.run_getObj_map hb, K.check w _ hkey, h1, Result.andThen] at hl
        exact hl
      have hsame : es.modify j (fun e => { e with key := key }) = es := by
        apply Array.ext'
        rw [Array.toList_modify, modify_eq_set _ _ _ _ h2]
        have : ({ e0 with key := key } : MapEntry) = e0 := by rw [← h3]
        rw [this]
        exact WideElems.set_self _ _ _ h2
      have hE : (Instr.mapEntry t (.map (some b)) key).run P w = .ok (.tuple #[e0.val, goInt e0.born]) (setBlock w b (.map es clock)) := by
        simp [Instr.mapEntry, run_underlying ht, MapKept.run_getObj_map hb, K.check w false hkey, h1, hj, h3, K.stays w hkey, hsame, MapKept.run_setObj_map _ hb, Result.andThen, setBlock]
      rw [hent] at hE
      injection hE with e1 e2
      have e4 : v0 = e0.val := by
        injection e1 with e1
        have := congrArg (fun a : Array Value => a[0]?) e1
        simpa using this
      have hown1 : (setBlock w b (.map es clock)).ownsMap P k (plainElem (H := H) P e) b n (.map ((es.toList.map (WideElems.rg P k (plainElem P e))).foldr DataW.insert [])) := ⟨es, clock, heap_setBlock_same hb _, F, hs, rfl⟩
      obtain ⟨c2, hl2, hc2, _⟩ := hown1.lookup_int KK ht he (hz _) hkey
      rw [hc] at hc2
      cases hc2
      rw [e2]
      exact ⟨by rw [e4, hv], hl2⟩
  obtain ⟨rfl, hlk⟩ := main
  refine ⟨st, _, hent, hg1, hlk, ?_⟩
  intro val d hd
  obtain ⟨es', clock', hrun, hup⟩ := hst _ val hb1
  obtain ⟨w', hrun', hown', hg'⟩ := h0.update KK ht hn hkey hd
  rw [hup] at hrun'
  injection hrun' with _ e3
  have e5 : setBlock (setBlock w b (.map es1 clock1)) b (.map es' clock') = w' := by rw [← e3]; simp [setBlock]
  rw [e5] at hrun
  exact ⟨w', hrun, hown', hg'⟩

/-! ### the two maps of page.doings -/
theorem lawS : Keyed Tryd.prog 9 := string_keyed Tryd.underlying9
theorem laidA : laidOutB Tryd.prog = true := by kernel_rfl
theorem rowP : (66 : TypeId) < Tryd.prog.types.size := of_decide_eq_true (by kernel_rfl)
theorem wideP : (match Tryd.prog.underlying 66 with | some (.array _ _) | some (.struct _) => true | _ => false) = true := by kernel_rfl
set_option maxRecDepth 100000 in
theorem lawP0 : KeyLaw Tryd.prog 66 := deep_law_laid laidA (m := 2) (by omega) rowP (by kernel_rfl) wideP
theorem lawP : Keyed Tryd.prog 66 := Keyed.of_law lawP0
theorem zeroI (w : World) : (zeroValue 3).run Tryd.prog w = .ok (.int .i64 0) w := by kernel_rfl

/-- a pair as a value, as a key -/
def vp (p : PB) : Value := .agg #[.string p.1, .string p.2]
def kp (p : PB) : Lit := .string (keyBytes [.string p.1.data.toList, .string p.2.data.toList])
def ks (s : ByteArray) : Lit := .string s.data.toList

theorem key_s {s : ByteArray} (h : s.size ≤ maxLen) : keyOf Tryd.prog 9 (.string s) = some (ks s) := WideMaps.keyOf_string_mk Tryd.underlying9 h
theorem keyTypeP : Tryd.prog.keyType 66 = true := by kernel_rfl
theorem cellsP : Tryd.prog.cellsOf 66 = 2 := by kernel_rfl
theorem cellsS : Tryd.prog.cellsOf 9 = 1 := by kernel_rfl
theorem key_p {p : PB} (h1 : p.1.size ≤ maxLen) (h2 : p.2.size ≤ maxLen) : keyOf Tryd.prog 66 (vp p) = some (kp p) := by
  obtain ⟨m, hm⟩ : ∃ m, Tryd.prog.types.size = m + 1 := ⟨Tryd.prog.types.size - 1, by have : 0 < Tryd.prog.types.size := of_decide_eq_true (by kernel_rfl); omega⟩
  unfold keyOf
  simp only [Tryd.underlying66]
  rw [if_pos (by simp [keyTypeP, vp, Value.formed, Tryd.underlying66, cellsP]), hm]
  unfold Program.keyLits
  simp only [Tryd.underlying66, Value.cells, vp]
  rw [if_pos (by rw [cellsP]; exact ⟨rfl, by simp⟩)]
  simp [cellsS, Program.keyLits, Tryd.underlying9, h1, h2, kp]
theorem ks_inj {a b : ByteArray} (h : ks a = ks b) : a = b := by
  unfold ks at h
  injection h with h
  cases a; cases b
  simp only [ByteArray.mk.injEq]
  exact Array.toList_inj.1 h
theorem kp_inj {p q : PB} (hp1 : p.1.size ≤ maxLen) (hp2 : p.2.size ≤ maxLen) (hq1 : q.1.size ≤ maxLen) (hq2 : q.2.size ≤ maxLen) (h : kp p = kp q) : p = q := by
  have := lawP.inj (key_p hp1 hp2) (h ▸ key_p hq1 hq2)
  unfold vp at this
  injection this with this
  have h0 := congrArg (fun a : Array Value => a[0]?) this
  have h1 := congrArg (fun a : Array Value => a[1]?) this
  simp at h0 h1
  exact Prod.ext h0 h1

/-- the place of the last pair of a name among the first k -/
def lastIx (l : List PB) (n : ByteArray) : Nat → Option Nat
  | 0 => none
  | k + 1 => if (l.getD k (⟨#[]⟩, ⟨#[]⟩)).1 = n then some k else lastIx l n k
/-- how many of the first k are the pair p -/
def cnt (l : List PB) (p : PB) : Nat → Nat
  | 0 => 0
  | k + 1 => if l.getD k (⟨#[]⟩, ⟨#[]⟩) = p then cnt l p k + 1 else cnt l p k
theorem cnt_le (l : List PB) (p : PB) : ∀ k, cnt l p k ≤ k
  | 0 => Nat.le_refl _
  | k + 1 => by
    have := cnt_le l p k
    unfold cnt
    split <;> omega
theorem lastIx_lt (l : List PB) (n : ByteArray) : ∀ k i, lastIx l n k = some i → i < k ∧ (l.getD i (⟨#[]⟩, ⟨#[]⟩)).1 = n
  | 0, _, h => by cases h
  | k + 1, i, h => by
    unfold lastIx at h
    split at h
    · rename_i he
      cases h
      exact ⟨Nat.lt_succ_self _, he⟩
    · have := lastIx_lt l n k i h
      exact ⟨Nat.lt_succ_of_lt this.1, this.2⟩

abbrev i6 (n : Int) : DataW Unit := .lit (.int .i64 n)
/-- the two maps behind k rounds -/
def Lm (l : List PB) : Nat → DataW Unit
  | 0 => .map []
  | k + 1 => (Lm l k).put (ks (l.getD k (⟨#[]⟩, ⟨#[]⟩)).1) (i6 k)
def Cm (l : List PB) : Nat → DataW Unit
  | 0 => .map []
  | k + 1 => (Cm l k).put (kp (l.getD k (⟨#[]⟩, ⟨#[]⟩))) (i6 (cnt l (l.getD k (⟨#[]⟩, ⟨#[]⟩)) k + 1 : Nat))

theorem isMapL (l : List PB) : ∀ k, IsMap (Lm l k)
  | 0 => isMap_empty
  | k + 1 => (isMapL l k).put _ _
theorem isMapC (l : List PB) : ∀ k, IsMap (Cm l k)
  | 0 => isMap_empty
  | k + 1 => (isMapC l k).put _ _

theorem hasL (l : List PB) (n : ByteArray) : ∀ k, Maps.has (Lm l k) (ks n) = (lastIx l n k).isSome
  | 0 => rfl
  | k + 1 => by
    unfold Lm lastIx
    by_cases he : (l.getD k (⟨#[]⟩, ⟨#[]⟩)).1 = n
    · rw [he, has_put_same (isMapL l k) (by exact trivial), if_pos rfl]
      rfl
    · rw [has_put_other (fun h => he (ks_inj h).symm), hasL l n k, if_neg he]
theorem atL (l : List PB) (n : ByteArray) (z : DataW Unit) : ∀ k, (Lm l k).atKey (ks n) z = match lastIx l n k with | some i => i6 i | none => z
  | 0 => rfl
  | k + 1 => by
    unfold Lm lastIx
    by_cases he : (l.getD k (⟨#[]⟩, ⟨#[]⟩)).1 = n
    · rw [he, atKey_put_same (isMapL l k) (by exact trivial), if_pos rfl]
    · rw [atKey_put_other (fun h => he (ks_inj h).symm), atL l n z k, if_neg he]

/-- texts that may be keys -/
def Fits (l : List PB) : Prop := ∀ k, (l.getD k (⟨#[]⟩, ⟨#[]⟩)).1.size ≤ maxLen ∧ (l.getD k (⟨#[]⟩, ⟨#[]⟩)).2.size ≤ maxLen

theorem atC (l : List PB) (hl : Fits l) (p : PB) (h1 : p.1.size ≤ maxLen) (h2 : p.2.size ≤ maxLen) : ∀ k, (Cm l k).atKey (kp p) (i6 0) = i6 (cnt l p k : Nat)
  | 0 => rfl
  | k + 1 => by
    unfold Cm
    by_cases he : l.getD k (⟨#[]⟩, ⟨#[]⟩) = p
    · rw [show cnt l p (k + 1) = cnt l p k + 1 from if_pos he, he, atKey_put_same (isMapC l k) (by exact trivial)]
    · rw [show cnt l p (k + 1) = cnt l p k from if_neg he, atKey_put_other (fun h => he (kp_inj (hl k).1 (hl k).2 h1 h2 h.symm)), atC l hl p h1 h2 k]

end Go.Proofs.YtjalggkhpnfbiaaDoor.sent
