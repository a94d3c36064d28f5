import Derived.Test.YtlefalplljgkeaaGreatDoorMRdCookie
import Derived.Test.YtlefalplljgkeaaGreatDoorMFieldRef
namespace Go.Proofs.YtlefalplljgkeaaGreatDoor.fd
open Go.Proofs.YtlefalplljgkeaaGreatDoor.common Go.Proofs.YtlefalplljgkeaaGreatDoor.bk

/-- a byte that stands in a quoted text by itself -/
def isIn (c : UInt8) : Bool := Fd.val c && decide (c ≠ 34) && decide (c ≠ 92)
/-- what stands behind the last quote -/
def qL : List UInt8 → Option (List UInt8)
  | [] => none
  | [c] => if c = 34 then some [] else none
  | c :: d :: r => if c = 34 then some (d :: r) else if c = 92 then (if Fd.val d then qL r else none) else if isIn c then qL (d :: r) else none
/-- what stands behind a token -/
def tokL (l : List UInt8) : Option (List UInt8) := if l.takeWhile Fd.tok = [] then none else some (l.dropWhile Fd.tok)
def valL : List UInt8 → Option (List UInt8)
  | [] => none
  | c :: r => if c = 34 then qL r else tokL (c :: r)
def eqL : List UInt8 → Option (List UInt8)
  | [] => none
  | c :: r => if c = 61 then valL r else none
/-- what stands behind a parameter -/
def parL (l : List UInt8) : Option (List UInt8) := (tokL l).bind eqL
def slL : List UInt8 → Option (List UInt8)
  | [] => none
  | c :: r => if c = 47 then tokL r else none
/-- what stands behind a type -/
def kindL (l : List UInt8) : Option (List UInt8) := (tokL l).bind slL
/-- what stands behind a semicolon, white on both sides let go -/
def semL (l : List UInt8) : Option (List UInt8) :=
  match l.dropWhile Fd.white with
  | [] => none
  | c :: r => if c = 59 then some (r.dropWhile Fd.white) else none
/-- one time round -/
def oneP (l : List UInt8) : Option (List UInt8) := (semL l).bind fun r => if hd Fd.tok r then parL r else some r
def parsN : Nat → List UInt8 → Bool
  | 0, l => l.isEmpty
  | n + 1, l => if l = [] then true else match oneP l with | none => false | some r => parsN n r
/-- are these parameters to the end? -/
def pars (l : List UInt8) : Bool := parsN l.length l

theorem tokL_len {l r : List UInt8} (h : tokL l = some r) : r.length < l.length := by
  unfold tokL at h
  split at h
  · cases h
  · rename_i hne
    injection h with h; subst h
    have e : l.takeWhile Fd.tok ++ l.dropWhile Fd.tok = l := List.takeWhile_append_dropWhile
    have h2 := congrArg List.length e
    rw [List.length_append] at h2
    have h3 : 0 < (l.takeWhile Fd.tok).length := List.length_pos_iff.2 hne
    omega
theorem qL_len : ∀ (l r : List UInt8), qL l = some r → r.length < l.length
  | [], r, h => by cases h
  | [c], r, h => by
    unfold qL at h
    split at h
    · injection h with h; subst h; simp
    · cases h
  | c :: d :: t, r, h => by
    unfold qL at h
    split at h
    · injection h with h; subst h; simp
    · split at h
      · split at h
        · have := qL_len t r h; simp only [List.length_cons]; omega
        · cases h
      · split at h
        · have := qL_len (d :: t) r h; simp only [List.length_cons] at this ⊢; omega
        · cases h
theorem valL_len {l r : List UInt8} (h : valL l = some r) : r.length < l.length := by
  cases l with
  | nil => cases h
  | cons c t =>
    simp only [valL] at h
    split at h
    · have := qL_len t r h; simp only [List.length_cons]; omega
    · exact tokL_len h
theorem eqL_len {l r : List UInt8} (h : eqL l = some r) : r.length < l.length := by
  cases l with
  | nil => cases h
  | cons c t =>
    simp only [eqL] at h
    split at h
    · have := valL_len h; simp only [List.length_cons]; omega
    · cases h
theorem parL_len {l r : List UInt8} (h : parL l = some r) : r.length < l.length := by
  unfold parL at h
  cases ht : tokL l with
  | none => rw [ht] at h; cases h
  | some t =>
    rw [ht] at h
    have h1 := tokL_len ht
    have h2 := eqL_len (l := t) h
    omega
theorem semL_len {l r : List UInt8} (h : semL l = some r) : r.length < l.length := by
  unfold semL at h
  have h0 := (List.dropWhile_suffix (l := l) Fd.white).length_le
  split at h
  · cases h
  · rename_i c t e
    rw [e, List.length_cons] at h0
    split at h
    · injection h with h; subst h
      have := (List.dropWhile_suffix (l := t) Fd.white).length_le
      omega
    · cases h
theorem oneP_len {l r : List UInt8} (h : oneP l = some r) : r.length < l.length := by
  unfold oneP at h
  cases hs : semL l with
  | none => rw [hs] at h; cases h
  | some t =>
    rw [hs] at h
    have h1 := semL_len hs
    simp only [Option.bind_some] at h
    split at h
    · have := parL_len h; omega
    · injection h with h; subst h; exact h1
theorem parsN_fuel : ∀ (n m : Nat) (l : List UInt8), l.length ≤ n → l.length ≤ m → parsN n l = parsN m l := by
  intro n
  induction n with
  | zero =>
    intro m l h1 _
    obtain rfl : l = [] := List.length_eq_zero_iff.1 (by omega)
    cases m with
    | zero => rfl
    | succ m => show true = if _ then _ else _; rw [if_pos rfl]
  | succ n ih =>
    intro m l h1 h2
    by_cases hl : l = []
    · subst hl
      cases m with
      | zero => show (if _ then _ else _) = true; rw [if_pos rfl]
      | succ m => show (if _ then _ else _) = if _ then _ else _; rw [if_pos rfl, if_pos rfl]
    · cases m with
      | zero => exact absurd (List.length_eq_zero_iff.1 (by omega)) hl
      | succ m =>
        show (if _ then _ else _) = if _ then _ else _
        rw [if_neg hl, if_neg hl]
        cases ho : oneP l with
        | none => rfl
        | some r =>
          have := oneP_len ho
          exact ih m r (by omega) (by omega)
theorem pars_nil : pars [] = true := rfl
theorem pars_no {l : List UInt8} (hl : l ≠ []) (h : oneP l = none) : pars l = false := by
  unfold pars
  cases l with
  | nil => exact absurd rfl hl
  | cons c t => show (if _ then _ else _) = _; rw [if_neg hl, h]
theorem pars_yes {l r : List UInt8} (hl : l ≠ []) (h : oneP l = some r) : pars l = pars r := by
  have hlen := oneP_len h
  unfold pars
  cases l with
  | nil => exact absurd rfl hl
  | cons c t =>
    show (if _ then _ else _) = _
    rw [if_neg hl, h]
    simp only [List.length_cons] at hlen
    exact parsN_fuel _ _ _ (by omega) (Nat.le_refl _)

end Go.Proofs.YtlefalplljgkeaaGreatDoor.fd

namespace Go.Proofs.YtlefalplljgkeaaGreatDoor.fd
open Go.ChangeShapes Go.WideShapes Go.ChangeAt Go.RowKit Go.Proofs.YtlefalplljgkeaaGreatDoor.common Go.Proofs.YtlefalplljgkeaaGreatDoor.bk
attribute [local go_sem ↓] Go.wp_at_zero Go.wp_at_succ

theorem zsize_media : Tryz.zeroCells105.size = 258 := by kernel_rfl
/-- a reader as it is made: what the walk asks of it -/
structure New_media (v : ByteArray) (T C : Array Value) : Prop where
  list : C.toList = .string v :: .int .i64 0 :: tabL
  built : Tryz.prog.built 105 [(0, .agg #[.string v, .int .i64 0]), (1, .agg T)] = some C
  room : ∀ w1 : World, (w1.alloc (.cells Tryz.zeroCells105 105)).there w1.heap.size 0 C.size
  size : (Tryz.prog.info? 105).map (·.size) = some C.size
  one : C.all (·.oneCell') = true
theorem new_media (v : ByteArray) : ∃ T C, TabA T ∧ New_media v T C := by
  have hl : ((.string v :: .int .i64 0 :: tabL : List Value).toArray).size = 258 := by rw [List.size_toArray, List.length_cons, List.length_cons, tabL_len]
  refine ⟨tabL.toArray, (.string v :: .int .i64 0 :: tabL : List Value).toArray, ⟨rfl, classes_any, there_put, size_tab2, tabL_one⟩, rfl, by kernel_rfl, ?_, ?_, ?_⟩
  · intro w1
    rw [hl, ← zsize_media]
    exact there_new_at w1 _ _ _ _ rfl rfl
  · rw [hl]; kernel_rfl
  · refine all_oneCell_toArray ?_
    intro x hx
    rcases List.mem_cons.1 hx with rfl | hx
    · rfl
    · rcases List.mem_cons.1 hx with rfl | hx
      · rfl
      · obtain ⟨y, _, rfl⟩ := List.mem_map.1 hx; rfl
/-- a world with the reader in a new block -/
def putMedia (Z C : Array Value) (w : World) : World := (w.alloc (.cells Z 105)).setCells w.heap.size 0 C.toList
theorem putMedia_below (Z C : Array Value) (w : World) : Below w.heap.size w (putMedia Z C w) := below_setCells ((Below.refl _ _).alloc (Nat.le_refl _) _) (Nat.le_refl _) _ _
theorem New_media.at {v : ByteArray} {T C : Array Value} (h : New_media v T C) (w : World) : At (putMedia Tryz.zeroCells105 C w) w.heap.size v v.data.toList := by
  have hr := h.room w
  have hrange : (putMedia Tryz.zeroCells105 C w).rangeAt w.heap.size 0 C.toList := World.rangeAt_setCells_same _ w.heap.size 0 C.toList (by simpa using hr)
  rw [h.list] at hrange
  refine ⟨List.suffix_refl _, ?_, ?_, ?_, ?_⟩
  · exact hrange 0 _ rfl
  · rw [len_list, Nat.sub_self]; exact hrange 1 _ rfl
  · unfold putMedia
    rw [World.frozen?_setCells]
    exact World.frozen?_alloc_at _ _ _ _ rfl
  · intro j u hu
    have := hrange (j + 2) u (by simpa using hu)
    rw [Nat.zero_add] at this
    rw [Nat.add_comm 2 j]; exact this

end Go.Proofs.YtlefalplljgkeaaGreatDoor.fd
