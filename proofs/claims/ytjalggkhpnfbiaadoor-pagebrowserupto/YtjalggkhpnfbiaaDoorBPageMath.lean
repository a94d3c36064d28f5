import Derived.WalkKit
import Derived.ProofKit
import Derived.OpenShut
import Derived.Deep.DeepHandedRow
import Derived.Lib.LaidTab
import Derived.Lib.SmallJoins
namespace Go.Proofs.YtjalggkhpnfbiaaDoor.common
open Go.ChangeShapes Go.WideShapes Go.ChangeAt Go.RowKit

theorem hide {p : Prop} (h : p) : Hid p := h

theorem take_snoc (s : ByteArray) (k : Nat) (h : k < s.size) : s.data.toList.take (k + 1) = s.data.toList.take k ++ [s[k]] := by
  rw [List.take_succ_eq_append_getElem (by simpa using h)]; rfl

/-- A LAW OF ONE ARGUMENT: from the walk to the row's contract. -/
theorem law_one {H : Type} {enc : TypeId × Value → H} {P : Program} {f : Func} {fid : FuncId} {s : ChangeSpec} {t0 tb : TypeId} {W : World} {base : Nat} {args : Array Value} {ds gs : List (DataW H)} {before : List MemPlace}
    (hparams : f.params = #[t0]) (hres : f.resultTypes = #[tb]) (hbool : P.underlying tb = some .bool) (hl : laidOutB P = true) (hr : P.readableRec t0 = true) (hrow : t0 < P.types.size)
    (hvars : s.vars = []) (hfn : ∀ d : DataW H, s.fn H [d] = { results := [.lit (.bool true)], args := [d] })
    (hval : ∀ (j : Nat) t v, f.params[j]? = some t → args[j]? = some v → Value.okWide P W .any base t v)
    (hW : DataW.Whole enc P f.params.toList s.vars false W args.toList ds gs before)
    (walk : ∀ (v0 : Value) (d0 : DataW H) (p0 : List MemPlace), Value.okWide P W .any base t0 v0 → DataW.Trod enc P W 0 (fun _ => true) true t0 v0 d0 p0 → ds = [d0] → gs = [] → (∀ x ∈ p0, x.block < W.heap.size) →
      Calls P fid #[v0] W fun e w' => e = .returned (.bool true) ∧ Below W.heap.size W w') :
    Calls P fid args W fun e W' => ∃ v, e = .returned v ∧ s.post enc P f false true false false W args v W' := by
  have hW' := hW
  have hlt := hW.lt
  obtain ⟨p, q, hA, hV, rfl, hfz, hnd⟩ := hW
  rw [hparams] at hA hval
  rw [hvars] at hV
  obtain ⟨v0, vs0, d0, ds0, p0, q0, hargs, rfl, rfl, h0, r0⟩ := trodAll_cons hA
  obtain ⟨rfl, rfl, rfl⟩ := trodAll_nil r0
  obtain rfl : args = #[v0] := by cases args; simp_all
  obtain ⟨rfl, rfl⟩ := trodVars_none hV
  simp only [List.append_nil] at hW' hlt
  refine (walk v0 d0 p0 (hval 0 t0 v0 rfl rfl) h0 rfl rfl hlt).mono fun e W' ⟨he, hb⟩ => ?_
  subst he
  refine ⟨_, rfl, [d0], [], p0, [], p0, [], hW', ?_, ?_, ?_, hb.frame _, fun h => by cases h⟩
  · rw [hres]
    simp only [List.append_nil, hfn]
    exact trodAll_mk1 (shut_bool hbool true)
  · rw [hparams]
    simp only [List.append_nil, hfn]
    exact trodAll_mk1 (Below.trod hl hr hrow h0 hb hlt)
  · rw [hvars]
    simp only [List.append_nil, hfn]
    rfl

end Go.Proofs.YtjalggkhpnfbiaaDoor.common

namespace Go.Proofs.YtjalggkhpnfbiaaDoor.Pg

/-- the five bytes and how they are written -/
def tab : List (UInt8 × List UInt8) :=
  [(38, [38, 97, 109, 112, 59]), (60, [38, 108, 116, 59]), (62, [38, 103, 116, 59]), (34, [38, 113, 117, 111, 116, 59]), (39, [38, 35, 51, 57, 59])]

/-- how a byte is written; nothing, if it is none of the five -/
def wr (c : UInt8) : List UInt8 :=
  if c = 38 then [38, 97, 109, 112, 59] else if c = 60 then [38, 108, 116, 59] else if c = 62 then [38, 103, 116, 59] else if c = 34 then [38, 113, 117, 111, 116, 59] else if c = 39 then [38, 35, 51, 57, 59] else []

def esc1 (c : UInt8) : List UInt8 := if wr c = [] then [c] else wr c
def esc (l : List UInt8) : List UInt8 := l.flatMap esc1

/-- the first of the five that stands at the head -/
def hit (l : List UInt8) : Option (UInt8 × List UInt8) := tab.find? fun p => p.2.isPrefixOf l

def unescF : Nat → List UInt8 → Option (List UInt8)
  | 0, _ => none
  | _ + 1, [] => some []
  | n + 1, c :: r => if wr c = [] then (unescF n r).map (c :: ·) else match hit (c :: r) with
    | some p => (unescF n (r.drop (p.2.length - 1))).map (p.1 :: ·)
    | none => none
def unesc (l : List UInt8) : Option (List UInt8) := unescF (l.length + 1) l

def meanF : Nat → List UInt8 → List UInt8
  | 0, _ => []
  | _ + 1, [] => []
  | n + 1, c :: r => match hit (c :: r) with
    | some p => p.1 :: meanF n (r.drop (p.2.length - 1))
    | none => c :: meanF n r
def mean (l : List UInt8) : List UInt8 := meanF (l.length + 1) l

theorem drop_le (r : List UInt8) (k : Nat) : (r.drop k).length ≤ r.length := by rw [List.length_drop]; omega
/-- enough fuel is as good as more -/
theorem unescF_fuel : ∀ (n m : Nat) (l : List UInt8), l.length < n → l.length < m → unescF n l = unescF m l
  | 0, _, _, h, _ => by omega
  | _ + 1, 0, _, _, h => by omega
  | _ + 1, _ + 1, [], _, _ => rfl
  | n + 1, m + 1, c :: r, h1, h2 => by
    rw [List.length_cons] at h1 h2
    simp only [unescF]
    by_cases hc : wr c = []
    · rw [if_pos hc, if_pos hc, unescF_fuel n m r (by omega) (by omega)]
    · rw [if_neg hc, if_neg hc]
      cases hit (c :: r) with
      | none => rfl
      | some p =>
        have := drop_le r (p.2.length - 1)
        simp only
        rw [unescF_fuel n m _ (by omega) (by omega)]
theorem meanF_fuel : ∀ (n m : Nat) (l : List UInt8), l.length < n → l.length < m → meanF n l = meanF m l
  | 0, _, _, h, _ => by omega
  | _ + 1, 0, _, _, h => by omega
  | _ + 1, _ + 1, [], _, _ => rfl
  | n + 1, m + 1, c :: r, h1, h2 => by
    rw [List.length_cons] at h1 h2
    simp only [meanF]
    cases hit (c :: r) with
    | none => simp only; rw [meanF_fuel n m r (by omega) (by omega)]
    | some p =>
      have := drop_le r (p.2.length - 1)
      simp only
      rw [meanF_fuel n m _ (by omega) (by omega)]
theorem unesc_nil : unesc [] = some [] := rfl
theorem unesc_plain (c : UInt8) (r : List UInt8) (h : wr c = []) : unesc (c :: r) = (unesc r).map (c :: ·) := by
  unfold unesc
  rw [List.length_cons]
  simp only [unescF, if_pos h]
theorem unesc_hit (c : UInt8) (r : List UInt8) (p : UInt8 × List UInt8) (h : wr c ≠ []) (hp : hit (c :: r) = some p) : unesc (c :: r) = (unesc (r.drop (p.2.length - 1))).map (p.1 :: ·) := by
  unfold unesc
  rw [List.length_cons]
  have := drop_le r (p.2.length - 1)
  rw [show unescF (r.length + 1 + 1) (c :: r) = (unescF (r.length + 1) (r.drop (p.2.length - 1))).map (p.1 :: ·) by simp only [unescF, if_neg h, hp]]
  rw [unescF_fuel _ ((r.drop (p.2.length - 1)).length + 1) _ (by omega) (by omega)]
theorem unesc_no (c : UInt8) (r : List UInt8) (h : wr c ≠ []) (hp : hit (c :: r) = none) : unesc (c :: r) = none := by
  unfold unesc
  rw [List.length_cons]
  simp only [unescF, if_neg h, hp]
theorem mean_nil : mean [] = [] := rfl
theorem mean_hit (c : UInt8) (r : List UInt8) (p : UInt8 × List UInt8) (hp : hit (c :: r) = some p) : mean (c :: r) = p.1 :: mean (r.drop (p.2.length - 1)) := by
  unfold mean
  rw [List.length_cons]
  have := drop_le r (p.2.length - 1)
  rw [show meanF (r.length + 1 + 1) (c :: r) = p.1 :: meanF (r.length + 1) (r.drop (p.2.length - 1)) by simp only [meanF, hp]]
  rw [meanF_fuel _ ((r.drop (p.2.length - 1)).length + 1) _ (by omega) (by omega)]
theorem mean_no (c : UInt8) (r : List UInt8) (hp : hit (c :: r) = none) : mean (c :: r) = c :: mean r := by
  unfold mean
  rw [List.length_cons]
  simp only [meanF, hp]

theorem wr_cases (c : UInt8) : (wr c = [] ∧ c ≠ 38 ∧ c ≠ 60 ∧ c ≠ 62 ∧ c ≠ 34 ∧ c ≠ 39) ∨ c = 38 ∨ c = 60 ∨ c = 62 ∨ c = 34 ∨ c = 39 := by
  unfold wr
  by_cases h1 : c = 38
  · exact Or.inr (Or.inl h1)
  by_cases h2 : c = 60
  · exact Or.inr (Or.inr (Or.inl h2))
  by_cases h3 : c = 62
  · exact Or.inr (Or.inr (Or.inr (Or.inl h3)))
  by_cases h4 : c = 34
  · exact Or.inr (Or.inr (Or.inr (Or.inr (Or.inl h4))))
  by_cases h5 : c = 39
  · exact Or.inr (Or.inr (Or.inr (Or.inr (Or.inr h5))))
  exact Or.inl ⟨by rw [if_neg h1, if_neg h2, if_neg h3, if_neg h4, if_neg h5], h1, h2, h3, h4, h5⟩

theorem hit_other (c : UInt8) (r : List UInt8) (h : c ≠ 38) : hit (c :: r) = none := by
  have h' : ((38 : UInt8) == c) = false := by simpa using fun e => h e.symm
  simp [hit, tab, List.find?, List.isPrefixOf, h']
theorem esc1_plain (c : UInt8) (h : wr c = []) : esc1 c = [c] := by unfold esc1; rw [if_pos h]
theorem esc1_five (c : UInt8) (h : wr c ≠ []) : esc1 c = wr c := by unfold esc1; rw [if_neg h]

theorem hit_wr (c : UInt8) (r : List UInt8) (h : wr c ≠ []) : hit (wr c ++ r) = some (c, wr c) := by
  rcases wr_cases c with h0 | rfl | rfl | rfl | rfl | rfl
  · exact absurd h0.1 h
  all_goals rfl
theorem wr_head (c : UInt8) (h : wr c ≠ []) : ∃ t, wr c = 38 :: t ∧ t.length = (wr c).length - 1 := by
  rcases wr_cases c with h0 | rfl | rfl | rfl | rfl | rfl
  · exact absurd h0.1 h
  all_goals exact ⟨_, rfl, rfl⟩

theorem unesc_esc1 (c : UInt8) (r : List UInt8) : unesc (esc1 c ++ r) = (unesc r).map (c :: ·) := by
  by_cases h : wr c = []
  · rw [esc1_plain c h]; exact unesc_plain c r h
  · rw [esc1_five c h]
    obtain ⟨t, ht, hl⟩ := wr_head c h
    have hh := hit_wr c r h
    rw [ht] at hh ⊢
    rw [List.cons_append] at hh ⊢
    rw [unesc_hit 38 _ _ (by decide) hh, ← ht]
    show (unesc ((t ++ r).drop ((wr c).length - 1))).map (c :: ·) = _
    rw [← hl, List.drop_left]
theorem mean_esc1 (c : UInt8) (r : List UInt8) : mean (esc1 c ++ r) = c :: mean r := by
  by_cases h : wr c = []
  · rw [esc1_plain c h]
    refine mean_no c r (hit_other c r ?_)
    rintro rfl
    exact absurd h (by decide)
  · rw [esc1_five c h]
    obtain ⟨t, ht, hl⟩ := wr_head c h
    have hh := hit_wr c r h
    rw [ht] at hh ⊢
    rw [List.cons_append] at hh ⊢
    rw [mean_hit 38 _ _ hh, ← ht]
    show c :: mean ((t ++ r).drop ((wr c).length - 1)) = _
    rw [← hl, List.drop_left]

theorem esc_nil : esc [] = [] := rfl
theorem esc_cons (c : UInt8) (l : List UInt8) : esc (c :: l) = esc1 c ++ esc l := by simp [esc]
theorem esc_append (a b : List UInt8) : esc (a ++ b) = esc a ++ esc b := by simp [esc]
/-- P5.2: what was escaped is read back -/
theorem unesc_esc (l : List UInt8) : unesc (esc l) = some l := by
  induction l with
  | nil => exact unesc_nil
  | cons c l ih => rw [esc_cons, unesc_esc1, ih]; rfl
theorem mean_esc (l : List UInt8) : mean (esc l) = l := by
  induction l with
  | nil => exact mean_nil
  | cons c l ih => rw [esc_cons, mean_esc1, ih]

/-- what stands there is the writing of its byte -/
theorem hit_is {l : List UInt8} {p : UInt8 × List UInt8} (h : hit l = some p) : p.2 = wr p.1 ∧ p.2.isPrefixOf l = true ∧ wr p.1 ≠ [] := by
  have h1 := List.find?_some h
  have h2 := List.mem_of_find?_eq_some h
  have : ∀ q ∈ tab, q.2 = wr q.1 ∧ wr q.1 ≠ [] := by decide
  exact ⟨(this p h2).1, h1, (this p h2).2⟩
theorem prefix_split {a l : List UInt8} (h : a.isPrefixOf l = true) : l = a ++ l.drop a.length := by
  have := List.prefix_iff_eq_append.1 (List.isPrefixOf_iff_prefix.1 h)
  exact this.symm

/-- no text has two spellings -/
theorem only_esc {l t : List UInt8} (h : unesc l = some t) : esc t = l := by
  induction hn : l.length using Nat.strongRecOn generalizing l t with
  | _ n ih =>
    subst hn
    match l with
    | [] => rw [unesc_nil] at h; cases h; rfl
    | c :: r =>
      by_cases hc : wr c = []
      · rw [unesc_plain c r hc] at h
        obtain ⟨t', h', rfl⟩ := Option.map_eq_some_iff.1 h
        rw [esc_cons, esc1_plain c hc, ih _ (by simp) h' rfl]; rfl
      · cases hp : hit (c :: r) with
        | none => rw [unesc_no c r hc hp] at h; cases h
        | some p =>
          rw [unesc_hit c r p hc hp] at h
          obtain ⟨t', h', rfl⟩ := Option.map_eq_some_iff.1 h
          obtain ⟨e, hpre, hne⟩ := hit_is hp
          rw [esc_cons, esc1_five _ hne, ih _ (by simp; omega) h' rfl, ← e]
          have hs := prefix_split hpre
          obtain ⟨x, y, hxy⟩ : ∃ x y, p.2 = x :: y := by
            rw [e]; cases hw : wr p.1 with
            | nil => exact absurd hw hne
            | cons x y => exact ⟨x, y, rfl⟩
          rw [hxy] at hs ⊢
          rw [List.length_cons, List.drop_succ_cons] at hs
          simpa using hs.symm
theorem unesc_mean (l : List UInt8) : unesc l = if esc (mean l) = l then some (mean l) else none := by
  cases h : unesc l with
  | some t =>
    have e := only_esc h
    have m : mean l = t := by rw [← e, mean_esc]
    rw [m, if_pos e]
  | none =>
    rw [if_neg]
    intro e
    have := unesc_esc (mean l)
    rw [e, h] at this
    cases this

theorem esc1_len (c : UInt8) : 1 ≤ (esc1 c).length ∧ (esc1 c).length ≤ 6 := by
  rcases wr_cases c with h0 | rfl | rfl | rfl | rfl | rfl
  · rw [esc1_plain c h0.1]; simp
  all_goals decide
theorem esc_len (l : List UInt8) : l.length ≤ (esc l).length ∧ (esc l).length ≤ 6 * l.length := by
  induction l with
  | nil => simp [esc]
  | cons c l ih => have := esc1_len c; rw [esc_cons, List.length_append, List.length_cons]; omega
/-- none of the bytes that end a text or a value -/
def quotable (c : UInt8) : Bool := c == 60 || c == 62 || c == 34 || c == 39
theorem esc_any (l : List UInt8) : (esc l).any quotable = false := by
  induction l with
  | nil => rfl
  | cons c l ih =>
    rw [esc_cons, List.any_append, ih, Bool.or_false]
    rcases wr_cases c with h0 | rfl | rfl | rfl | rfl | rfl
    · rw [esc1_plain c h0.1]; simp [quotable, h0.2]
    all_goals decide
end Go.Proofs.YtjalggkhpnfbiaaDoor.Pg
