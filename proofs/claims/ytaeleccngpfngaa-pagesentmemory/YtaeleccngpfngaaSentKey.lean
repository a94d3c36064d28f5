import Derived.Test.YtaeleccngpfngaaListKit0
import Derived.Maps.OwnSet
import Derived.Maps.Views
import Derived.WideKeyEntry
import Derived.DeepKeys4
namespace Go.Proofs.Ytaeleccngpfngaa.sent
open Go.ChangeShapes Go.WideShapes Go.ChangeAt Go.RowKit Go.Proofs.Ytaeleccngpfngaa.common Go.Proofs.Ytaeleccngpfngaa.lst Go.Maps Go.ChangeMaps Go.MapKept
open Go.WideMaps (KeyLaw)

/-- 'm[k]++' where the entry is looked for on its own: the entry, the look-up on either side of it, the store -/
theorem own_entry {H : Type} {P : Program} {w : World} {t k e : TypeId} {q : IntKind} {b n : Nat} {D : DataW H} (K : KeyLaw P k) (ht : P.underlying t = some (.map k e)) (he : P.underlying e = some (.int q))
    (hz : ∀ u : World, (zeroValue e).run P u = .ok (.int q 0) u) (h : w.ownsMap P k (plainElem P e) b n D) (hn : n < maxLen) {key : Value} {kl : Lit} (hkey : keyOf P k key = some kl) {c : Int}
    (hc : D.atKey kl (.lit (.int q 0)) = .lit (.int q c)) :
    ∃ (st : Nat) (w1 : World), (Instr.mapEntry t (.map (some b)) key).run P w = .ok (.tuple #[.int q c, goInt st]) w1 ∧ w.grownBy w1 (some b) ∧
      (Instr.lookup t (.map (some b)) key false).run P w1 = .ok (.int q c) w1 ∧
      ∀ (val : Value) (d : DataW H), plainElem P e val = some (d, []) → ∃ w2, (Instr.entryStore t (.map (some b)) (goInt st) val).run P w1 = .ok () w2 ∧ w2.ownsMap P k (plainElem P e) b (n + 1) (D.put kl d) ∧ w.grownBy w2 (some b) := by
  have hw0 : (Lit.int q 0).wf = true := by cases q <;> decide
  have KK := Keyed.of_law K
  have h0 := h
  obtain ⟨c', hl, hc', _⟩ := h.lookup_int KK ht he (hz w) hkey
  obtain rfl : c' = c := by rw [hc] at hc'; cases hc'; rfl
  obtain ⟨es, clock, hb, F, hs, rfl⟩ := h
  obtain ⟨v0, st, es1, clock1, hent, _, hst⟩ := WideElems.entry_then_store K ht hz hb F hkey
  have hb1 : (setBlock w b (.map es1 clock1)).heap[b]? = some (.map es1 clock1) := heap_setBlock_same hb _
  have hg1 : w.grownBy (setBlock w b (.map es1 clock1)) (some b) := ⟨rfl, rfl, rfl, by simp [setBlock], fun i _ hi => heap_setBlock_other hb _ (fun e => hi (by rw [e]))⟩
  have main : v0 = .int q c' ∧ (Instr.lookup t (.map (some b)) key false).run P (setBlock w b (.map es1 clock1)) = .ok (.int q c') (setBlock w b (.map es1 clock1)) := by
    rcases K.find w hkey es.toList F.keys with ⟨h1, h2⟩ | ⟨j, e0, h1, h2, h3⟩
    · have hz0 : c' = 0 := by
        simp [Instr.lookup, run_underlying ht, MapKept.run_getObj_map hb, K.check w _ hkey, h1, hz, Result.andThen] at hl
        exact hl.symm
      have hE : (Instr.mapEntry t (.map (some b)) key).run P w = .ok (.tuple #[.int q 0, goInt clock]) (setBlock w b (.map (es.push ⟨key, .int q 0, clock⟩) (clock + 1))) := by
        simp [Instr.mapEntry, run_underlying ht, MapKept.run_getObj_map hb, K.check w false hkey, h1, hz, MapKept.run_setObj_map _ hb, Result.andThen, setBlock]
      have hU : (Instr.mapUpdate t (.map (some b)) key (.int q 0)).run P w = .ok () (setBlock w b (.map (es.push ⟨key, .int q 0, clock⟩) (clock + 1))) := by
        simp [Instr.mapUpdate, run_underlying ht, MapKept.run_getObj_map hb, K.check w false hkey, h1, MapKept.run_setObj_map _ hb, Result.andThen, setBlock]
      obtain ⟨w', hrun', hown', _⟩ := h0.update KK ht hn hkey (plainElem_int he hw0)
      rw [hU] at hrun'
      rw [hent] at hE
      injection hE with e1 e2
      injection hrun' with _ e3
      have e4 : v0 = .int q 0 := by
        injection e1 with e1
        have := congrArg (fun a : Array Value => a[0]?) e1
        simpa using this
      rw [e2, e3]
      obtain ⟨c2, hl2, hc2, _⟩ := hown'.lookup_int KK ht he (hz w') hkey
      rw [atKey_put_same ⟨_, rfl⟩ (KK.key hkey)] at hc2
      cases hc2
      exact ⟨by rw [e4, hz0], by rw [hl2, hz0]⟩
    · have hj : es[j]? = some e0 := by simpa using h2
      have hv : e0.val = .int q c' := by
        simp [Instr.lookup, run_underlying ht, MapKept.run_getObj_map hb, K.check w _ hkey, h1, Result.andThen] at hl
        exact hl
      have hsame : es.modify j (fun e => { e with key := key }) = es := by
        apply Array.ext'
        rw [Array.toList_modify, modify_eq_set _ _ _ _ h2]
        have : ({ e0 with key := key } : MapEntry) = e0 := by rw [← h3]
        rw [this]
        exact WideElems.set_self _ _ _ h2
      have hE : (Instr.mapEntry t (.map (some b)) key).run P w = .ok (.tuple #[e0.val, goInt e0.born]) (setBlock w b (.map es clock)) := by
        simp [Instr.mapEntry, run_underlying ht, MapKept.run_getObj_map hb, K.check w false hkey, h1, hj, h3, K.stays w hkey, hsame, MapKept.run_setObj_map _ hb, Result.andThen, setBlock]
      rw [hent] at hE
      injection hE with e1 e2
      have e4 : v0 = e0.val := by
        injection e1 with e1
        have := congrArg (fun a : Array Value => a[0]?) e1
        simpa using this
      have hown1 : (setBlock w b (.map es clock)).ownsMap P k (plainElem (H := H) P e) b n (.map ((es.toList.map (WideElems.rg P k (plainElem P e))).foldr DataW.insert [])) := ⟨es, clock, heap_setBlock_same hb _, F, hs, rfl⟩
      obtain ⟨c2, hl2, hc2, _⟩ := hown1.lookup_int KK ht he (hz _) hkey
      rw [hc] at hc2
      cases hc2
      rw [e2]
      exact ⟨by rw [e4, hv], hl2⟩
  obtain ⟨rfl, hlk⟩ := main
  refine ⟨st, _, hent, hg1, hlk, ?_⟩
  intro val d hd
  obtain ⟨es', clock', hrun, hup⟩ := hst _ val hb1
  obtain ⟨w', hrun', hown', hg'⟩ := h0.update KK ht hn hkey hd
  rw [hup] at hrun'
  injection hrun' with _ e3
  have e5 : setBlock (setBlock w b (.map es1 clock1)) b (.map es' clock') = w' := by rw [← e3]; simp [setBlock]
  rw [e5] at hrun
  exact ⟨w', hrun, hown', hg'⟩

/-! ### the two maps of page.doings -/
theorem lawS : Keyed Try.prog 9 := string_keyed Try.underlying9
theorem laidA : laidOutB Try.prog = true := by kernel_rfl
theorem rowP : (33 : TypeId) < Try.prog.types.size := of_decide_eq_true (by kernel_rfl)
theorem wideP : (match Try.prog.underlying 33 with | some (.array _ _) | some (.struct _) => true | _ => false) = true := by kernel_rfl
theorem lawP0 : KeyLaw Try.prog 33 := deep_law_laid laidA (m := 2) (by omega) rowP (by kernel_rfl) wideP
theorem lawP : Keyed Try.prog 33 := Keyed.of_law lawP0
theorem zeroI (w : World) : (zeroValue 3).run Try.prog w = .ok (.int .i64 0) w := by kernel_rfl

/-- a pair as a value, as a key -/
def vp (p : PB) : Value := .agg #[.string p.1, .string p.2]
def kp (p : PB) : Lit := .string (keyBytes [.string p.1.data.toList, .string p.2.data.toList])
def ks (s : ByteArray) : Lit := .string s.data.toList

theorem key_s {s : ByteArray} (h : s.size ≤ maxLen) : keyOf Try.prog 9 (.string s) = some (ks s) := WideMaps.keyOf_string_mk Try.underlying9 h
theorem keyTypeP : Try.prog.keyType 33 = true := by kernel_rfl
theorem cellsP : Try.prog.cellsOf 33 = 2 := by kernel_rfl
theorem cellsS : Try.prog.cellsOf 9 = 1 := by kernel_rfl
theorem key_p {p : PB} (h1 : p.1.size ≤ maxLen) (h2 : p.2.size ≤ maxLen) : keyOf Try.prog 33 (vp p) = some (kp p) := by
  obtain ⟨m, hm⟩ : ∃ m, Try.prog.types.size = m + 1 := ⟨Try.prog.types.size - 1, by have : 0 < Try.prog.types.size := of_decide_eq_true (by kernel_rfl); omega⟩
  unfold keyOf
  simp only [Try.underlying33]
  rw [if_pos (by simp [keyTypeP, vp, Value.formed, Try.underlying33, cellsP]), hm]
  unfold Program.keyLits
  simp only [Try.underlying33, Value.cells, vp]
  rw [if_pos (by rw [cellsP]; exact ⟨rfl, by simp⟩)]
  simp [cellsS, Program.keyLits, Try.underlying9, h1, h2, kp]
theorem ks_inj {a b : ByteArray} (h : ks a = ks b) : a = b := by
  unfold ks at h
  injection h with h
  cases a; cases b
  simp only [ByteArray.mk.injEq]
  exact Array.toList_inj.1 h
theorem kp_inj {p q : PB} (hp1 : p.1.size ≤ maxLen) (hp2 : p.2.size ≤ maxLen) (hq1 : q.1.size ≤ maxLen) (hq2 : q.2.size ≤ maxLen) (h : kp p = kp q) : p = q := by
  have := lawP.inj (key_p hp1 hp2) (h ▸ key_p hq1 hq2)
  unfold vp at this
  injection this with this
  have h0 := congrArg (fun a : Array Value => a[0]?) this
  have h1 := congrArg (fun a : Array Value => a[1]?) this
  simp at h0 h1
  exact Prod.ext h0 h1

/-- the place of the last pair of a name among the first k -/
def lastIx (l : List PB) (n : ByteArray) : Nat → Option Nat
  | 0 => none
  | k + 1 => if (l.getD k (⟨#[]⟩, ⟨#[]⟩)).1 = n then some k else lastIx l n k
/-- how many of the first k are the pair p -/
def cnt (l : List PB) (p : PB) : Nat → Nat
  | 0 => 0
  | k + 1 => if l.getD k (⟨#[]⟩, ⟨#[]⟩) = p then cnt l p k + 1 else cnt l p k
theorem cnt_le (l : List PB) (p : PB) : ∀ k, cnt l p k ≤ k
  | 0 => Nat.le_refl _
  | k + 1 => by
    have := cnt_le l p k
    unfold cnt
    split <;> omega
theorem lastIx_lt (l : List PB) (n : ByteArray) : ∀ k i, lastIx l n k = some i → i < k ∧ (l.getD i (⟨#[]⟩, ⟨#[]⟩)).1 = n
  | 0, _, h => by cases h
  | k + 1, i, h => by
    unfold lastIx at h
    split at h
    · rename_i he
      cases h
      exact ⟨Nat.lt_succ_self _, he⟩
    · have := lastIx_lt l n k i h
      exact ⟨Nat.lt_succ_of_lt this.1, this.2⟩

abbrev i6 (n : Int) : DataW Unit := .lit (.int .i64 n)
/-- the two maps behind k rounds -/
def Lm (l : List PB) : Nat → DataW Unit
  | 0 => .map []
  | k + 1 => (Lm l k).put (ks (l.getD k (⟨#[]⟩, ⟨#[]⟩)).1) (i6 k)
def Cm (l : List PB) : Nat → DataW Unit
  | 0 => .map []
  | k + 1 => (Cm l k).put (kp (l.getD k (⟨#[]⟩, ⟨#[]⟩))) (i6 (cnt l (l.getD k (⟨#[]⟩, ⟨#[]⟩)) k + 1 : Nat))

theorem isMapL (l : List PB) : ∀ k, IsMap (Lm l k)
  | 0 => isMap_empty
  | k + 1 => (isMapL l k).put _ _
theorem isMapC (l : List PB) : ∀ k, IsMap (Cm l k)
  | 0 => isMap_empty
  | k + 1 => (isMapC l k).put _ _

theorem hasL (l : List PB) (n : ByteArray) : ∀ k, Maps.has (Lm l k) (ks n) = (lastIx l n k).isSome
  | 0 => rfl
  | k + 1 => by
    unfold Lm lastIx
    by_cases he : (l.getD k (⟨#[]⟩, ⟨#[]⟩)).1 = n
    · rw [he, has_put_same (isMapL l k) (by exact trivial), if_pos rfl]
      rfl
    · rw [has_put_other (fun h => he (ks_inj h).symm), hasL l n k, if_neg he]
theorem atL (l : List PB) (n : ByteArray) (z : DataW Unit) : ∀ k, (Lm l k).atKey (ks n) z = match lastIx l n k with | some i => i6 i | none => z
  | 0 => rfl
  | k + 1 => by
    unfold Lm lastIx
    by_cases he : (l.getD k (⟨#[]⟩, ⟨#[]⟩)).1 = n
    · rw [he, atKey_put_same (isMapL l k) (by exact trivial), if_pos rfl]
    · rw [atKey_put_other (fun h => he (ks_inj h).symm), atL l n z k, if_neg he]

/-- texts that may be keys -/
def Fits (l : List PB) : Prop := ∀ k, (l.getD k (⟨#[]⟩, ⟨#[]⟩)).1.size ≤ maxLen ∧ (l.getD k (⟨#[]⟩, ⟨#[]⟩)).2.size ≤ maxLen

theorem atC (l : List PB) (hl : Fits l) (p : PB) (h1 : p.1.size ≤ maxLen) (h2 : p.2.size ≤ maxLen) : ∀ k, (Cm l k).atKey (kp p) (i6 0) = i6 (cnt l p k : Nat)
  | 0 => rfl
  | k + 1 => by
    unfold Cm
    by_cases he : l.getD k (⟨#[]⟩, ⟨#[]⟩) = p
    · rw [show cnt l p (k + 1) = cnt l p k + 1 from if_pos he, he, atKey_put_same (isMapC l k) (by exact trivial)]
    · rw [show cnt l p (k + 1) = cnt l p k from if_neg he, atKey_put_other (fun h => he (kp_inj (hl k).1 (hl k).2 h1 h2 h.symm)), atC l hl p h1 h2 k]

end Go.Proofs.Ytaeleccngpfngaa.sent
