import Derived.Test.YtcpflfpgnbihiaaGreatDoorRows
import Derived.Test.YtcpflfpgnbihiaaGreatDoorMRanges
import Derived.Test.YtcpflfpgnbihiaaGreatDoorMPctMath
import Derived.Deep.MidRow
import Derived.WalkKit
import Derived.WalkSpells
import Derived.WalkLawsBesides
import Derived.Outline
import Derived.Laws.BitsAllLaws
import Derived.Laws.IdiomStrings
import Derived.Deep.OwnRows
import Derived.Maps.AppendAt
import Derived.Below
namespace Go.Proofs.YtcpflfpgnbihiaaGreatDoor.pctw
open Go.ChangeShapes Go.WideShapes Go.ChangeAt Go.RowKit Go.Proofs.YtcpflfpgnbihiaaGreatDoor.common

abbrev B (c : UInt8) : Value := .int .u8 (c.toNat : Int)
abbrev S (l : List UInt8) : Value := .string ⟨l.toArray⟩

theorem info8 : (Tryz.prog.info? 5).map (fun i => (i.zero, i.size, i.bytes)) = some (some (.int .u8 0), 1, 1) := by kernel_rfl

theorem own_ge {w : World} {base : Nat} {e : TypeId} {size : Nat} {v : Value} {n : Nat} {xs : List Value} (h : w.ownsRow base e size v n xs) : ∀ b, v.ownBlock = some b → base ≤ b := by
  intro b hb
  exact (h.lt b hb).1

theorem conv_own {w : World} {base : Nat} {e : TypeId} {v : Value} {l : List UInt8} {n : Nat} (h : w.ownsRow base e 1 v n (l.map B)) (hn : l.length = n) :
    (convert 80 9 v).run Tryz.prog w = .ok (S l) w := by
  subst hn
  rcases h.2 with ⟨rfl, h0⟩ | ⟨g, cap, cur, rfl, hg, hh, hn, _, hsz, htk⟩
  · rw [run_convert_bytes_nil (P := Tryz.prog) w 80 5 Tryz.underlying80 Tryz.underlying5 0 0 9 Tryz.underlying9]
    obtain rfl : l = [] := List.eq_nil_of_length_eq_zero h0
    rfl
  · refine run_convert_bytes_back (P := Tryz.prog) w 80 9 5 ⟨g, 0, none⟩ cap l Tryz.underlying80 Tryz.underlying5 Tryz.underlying9 ?_
    intro j hj
    rw [Addr.add_mid, Nat.zero_add]
    have : (cur.toList.take (l.length * 1))[j]? = (l.map B)[j]? := by rw [htk]
    rw [List.getElem?_take_of_lt (by omega)] at this
    simp only [World.cell?, hh]
    simp [hj] at this
    simpa using this

theorem toNat_of {n : Nat} (h : n < 256) : (UInt8.ofNat n).toNat = n := by simp [Nat.mod_eq_of_lt h]
theorem getD_list (s : ByteArray) (k : Nat) (h : k < s.size) : s.data.toList.getD k 0 = s[k] := by
  rw [List.getD_eq_getElem?_getD, List.getElem?_eq_getElem (by simpa using h)]; rfl
theorem len_list (s : ByteArray) : s.data.toList.length = s.size := by simp

theorem ba_ext {a b : ByteArray} (h : a.data.toList = b.data.toList) : a = b := by
  apply ByteArray.ext; apply Array.toList_inj.1; exact h
theorem ne_list {a b : ByteArray} (h : a ≠ b) : (a.toList == b.toList) = false := by
  rw [ByteArray.toList_eq, ByteArray.toList_eq]
  exact beq_false_of_ne fun e => h (ba_ext e)
theorem eq_list {a b : ByteArray} (h : a = b) : (a.toList == b.toList) = true := by subst h; simp
theorem str_eq (l : List UInt8) (s : ByteArray) (h : l = s.data.toList) : (⟨l.toArray⟩ : ByteArray) = s := by
  subst h; rfl
theorem str_size (l : List UInt8) : (⟨l.toArray⟩ : ByteArray).size = l.length := by
  show l.toArray.size = _; simp
theorem str_list (l : List UInt8) : (⟨l.toArray⟩ : ByteArray).data.toList = l := rfl

theorem cells_new (w : World) (l : List Value) (t : TypeId) : ∀ j u, l[j]? = some u → (w.alloc (.cells l.toArray t)).cell? ((⟨w.heap.size, 0, none⟩ : Addr).add j) = some u := by
  intro j u h
  rw [Addr.add_mid]
  exact range_new w l.toArray t j u h

end Go.Proofs.YtcpflfpgnbihiaaGreatDoor.pctw

namespace Go.Proofs.YtcpflfpgnbihiaaGreatDoor.Pct

abbrev By := List UInt8

/-- what stands between the ampersands -/
def split : By → List By
  | [] => [[]]
  | c :: r => if c = 38 then [] :: split r else match split r with
    | h :: t => (c :: h) :: t
    | [] => [[c]]

def pieces (l : By) : List By := (split l).filter (fun p => p ≠ [])

theorem split_ne (l : By) : split l ≠ [] := by
  cases l with
  | nil => simp [split]
  | cons c r =>
    unfold split
    split
    · simp
    · split <;> simp

theorem split_amp (r : By) : split (38 :: r) = [] :: split r := by rw [split]; rfl
theorem split_other (c : UInt8) (r : By) (hc : c ≠ 38) : ∃ h t, split r = h :: t ∧ split (c :: r) = (c :: h) :: t := by
  cases hs : split r with
  | nil => exact absurd hs (split_ne r)
  | cons h t => exact ⟨h, t, rfl, by rw [split, if_neg hc, hs]⟩

/-- a text without ampersands is one piece -/
theorem split_one (l : By) (h : ∀ c ∈ l, c ≠ 38) : split l = [l] := by
  induction l with
  | nil => rfl
  | cons c r ih =>
    rw [split, if_neg (h c (by simp)), ih (fun x hx => h x (by simp [hx]))]

/-- ahead of the first ampersand -/
theorem split_at (a r : By) (h : ∀ c ∈ a, c ≠ 38) : split (a ++ 38 :: r) = a :: split r := by
  induction a with
  | nil => exact split_amp r
  | cons c t ih =>
    show split (c :: (t ++ 38 :: r)) = _
    rw [split, if_neg (h c (by simp)), ih (fun x hx => h x (by simp [hx]))]

theorem split_join (a b : By) : ∃ x y h t, split a = x ++ [y] ∧ split b = h :: t ∧ split (a ++ 38 :: b) = x ++ y :: h :: t := by
  induction a with
  | nil =>
    cases hs : split b with
    | nil => exact absurd hs (split_ne b)
    | cons h t => exact ⟨[], [], h, t, rfl, rfl, by rw [List.nil_append, split_amp, hs]; rfl⟩
  | cons c r ih =>
    obtain ⟨x, y, h, t, e1, e2, e3⟩ := ih
    by_cases hc : c = 38
    · subst hc
      refine ⟨[] :: x, y, h, t, ?_, e2, ?_⟩
      · rw [split_amp, e1]; rfl
      · show split (38 :: (r ++ 38 :: b)) = _
        rw [split_amp, e3]; rfl
    · cases x with
      | nil =>
        refine ⟨[], c :: y, h, t, ?_, e2, ?_⟩
        · rw [split, if_neg hc, e1]; rfl
        · show split (c :: (r ++ 38 :: b)) = _
          rw [split, if_neg hc, e3]; rfl
      | cons z x =>
        refine ⟨(c :: z) :: x, y, h, t, ?_, e2, ?_⟩
        · rw [split, if_neg hc, e1]; rfl
        · show split (c :: (r ++ 38 :: b)) = _
          rw [split, if_neg hc, e3]; rfl

theorem pieces_join (a b : By) : pieces (a ++ 38 :: b) = pieces a ++ pieces b := by
  obtain ⟨x, y, h, t, e1, e2, e3⟩ := split_join a b
  unfold pieces
  rw [e1, e2, e3, ← List.filter_append]
  simp

/-- ahead of the first equals sign, and behind it -/
def name : By → By
  | [] => []
  | c :: r => if c = 61 then [] else c :: name r
def value : By → By
  | [] => []
  | c :: r => if c = 61 then r else value r

theorem name_at (a r : By) (h : ∀ c ∈ a, c ≠ 61) : name (a ++ 61 :: r) = a := by
  induction a with
  | nil => rfl
  | cons c t ih => show name (c :: (t ++ 61 :: r)) = _; rw [name, if_neg (h c (by simp)), ih (fun x hx => h x (by simp [hx]))]
theorem value_at (a r : By) (h : ∀ c ∈ a, c ≠ 61) : value (a ++ 61 :: r) = r := by
  induction a with
  | nil => rfl
  | cons c t ih => show value (c :: (t ++ 61 :: r)) = _; rw [value, if_neg (h c (by simp)), ih (fun x hx => h x (by simp [hx]))]
theorem name_no (a : By) (h : ∀ c ∈ a, c ≠ 61) : name a = a := by
  induction a with
  | nil => rfl
  | cons c t ih => rw [name, if_neg (h c (by simp)), ih (fun x hx => h x (by simp [hx]))]
theorem value_no (a : By) (h : ∀ c ∈ a, c ≠ 61) : value a = [] := by
  induction a with
  | nil => rfl
  | cons c t ih => rw [value, if_neg (h c (by simp)), ih (fun x hx => h x (by simp [hx]))]

abbrev Pr := By × By

/-- a piece as a pair -/
def pair (p : By) : Option Pr := match unesc true (name p), unesc true (value p) with
  | some n, some v => some (n, v)
  | _, _ => none

/-- all of them, or none -/
def pairAll : List By → Option (List Pr)
  | [] => some []
  | p :: r => match pair p, pairAll r with
    | some x, some y => some (x :: y)
    | _, _ => none

theorem pairAll_cons (p : By) (r : List By) : pairAll (p :: r) = (pair p).bind fun x => (pairAll r).map (x :: ·) := by
  rw [pairAll]; cases pair p <;> cases pairAll r <;> rfl

theorem pairAll_app (a b : List By) : pairAll (a ++ b) = (pairAll a).bind fun x => (pairAll b).map (x ++ ·) := by
  induction a with
  | nil => cases h : pairAll b <;> simp [pairAll, h]
  | cons p r ih =>
    rw [List.cons_append, pairAll_cons, ih, pairAll_cons]
    cases pair p <;> cases pairAll r <;> cases pairAll b <;> rfl

theorem pairAll_len {l : List By} {x : List Pr} (h : pairAll l = some x) : x.length = l.length := by
  induction l generalizing x with
  | nil => cases h; rfl
  | cons p r ih =>
    rw [pairAll_cons] at h
    cases hp : pair p with
    | none => rw [hp] at h; cases h
    | some y =>
      cases hr : pairAll r with
      | none => rw [hp, hr] at h; cases h
      | some z =>
        rw [hp, hr] at h
        cases h
        show z.length + 1 = r.length + 1
        rw [ih hr]

/-- a pair as a piece -/
def shown (x : Pr) : By := esc true x.1 ++ 61 :: esc true x.2

set_option maxRecDepth 100000 in
theorem esc1_free : ∀ c : UInt8, ∀ d ∈ esc1 true c, d ≠ 38 ∧ d ≠ 61 := by
  intro c d hd
  have h1 : ∀ c : UInt8, unres c = true → c ≠ 38 ∧ c ≠ 61 := u8 _ (by decide)
  have h2 : ∀ c : UInt8, dig (c.toNat / 16) ≠ 38 ∧ dig (c.toNat / 16) ≠ 61 ∧ dig (c.toNat % 16) ≠ 38 ∧ dig (c.toNat % 16) ≠ 61 := u8 _ (by decide)
  unfold esc1 at hd
  split at hd
  · rename_i hu; simp at hd; subst hd; exact h1 _ hu
  · split at hd
    · simp at hd; subst hd; decide
    · simp at hd
      have := h2 c
      rcases hd with rfl | rfl | rfl
      · decide
      · exact ⟨this.1, this.2.1⟩
      · exact this.2.2
theorem esc_free (l : By) : ∀ d ∈ esc true l, d ≠ 38 ∧ d ≠ 61 := by
  intro d hd
  unfold esc at hd
  rw [List.mem_flatMap] at hd
  obtain ⟨c, _, h⟩ := hd
  exact esc1_free c d h

theorem shown_free (x : Pr) : ∀ d ∈ shown x, d ≠ 38 := by
  intro d hd
  unfold shown at hd
  simp at hd
  rcases hd with h | rfl | h
  · exact (esc_free _ d h).1
  · decide
  · exact (esc_free _ d h).1
theorem shown_ne (x : Pr) : shown x ≠ [] := by unfold shown; simp

theorem pair_shown (x : Pr) : pair (shown x) = some x := by
  unfold pair shown
  rw [name_at _ _ (fun c h => (esc_free _ c h).2), value_at _ _ (fun c h => (esc_free _ c h).2), back, back]

/-- a form -/
def form : List Pr → By
  | [] => []
  | [x] => shown x
  | x :: r => shown x ++ 38 :: form r

theorem form_cons (x y : Pr) (r : List Pr) : form (x :: y :: r) = shown x ++ 38 :: form (y :: r) := rfl

theorem form_snoc (l : List Pr) (x : Pr) (h : l ≠ []) : form (l ++ [x]) = form l ++ 38 :: shown x := by
  induction l with
  | nil => exact absurd rfl h
  | cons y r ih =>
    cases r with
    | nil => rfl
    | cons z r =>
      show form (y :: z :: (r ++ [x])) = _
      rw [form_cons, form_cons, List.append_assoc]
      have := ih (by simp)
      rw [show z :: (r ++ [x]) = (z :: r) ++ [x] from rfl, this]; rfl

theorem pieces_form (l : List Pr) : pieces (form l) = l.map shown := by
  induction l with
  | nil => rfl
  | cons x r ih =>
    cases r with
    | nil =>
      show pieces (shown x) = _
      unfold pieces
      rw [split_one _ (shown_free x)]
      simp [shown_ne]
    | cons y r =>
      rw [form_cons, pieces_join, ih]
      unfold pieces
      rw [split_one _ (shown_free x)]
      simp [shown_ne]

theorem pairAll_form (l : List Pr) : pairAll (pieces (form l)) = some l := by
  rw [pieces_form]
  induction l with
  | nil => rfl
  | cons x r ih => rw [List.map_cons, pairAll_cons, pair_shown, ih]; rfl

end Go.Proofs.YtcpflfpgnbihiaaGreatDoor.Pct
