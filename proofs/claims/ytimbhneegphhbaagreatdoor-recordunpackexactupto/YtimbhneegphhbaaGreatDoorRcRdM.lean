import Derived.Test.YtimbhneegphhbaaGreatDoorRcLent
import Derived.Deep.DeepAppendWide
import Derived.Test.YtimbhneegphhbaaGreatDoorRcNum
import Derived.Deep.RegionLaw
import Derived.Deep.AppendLies
import Derived.Test.YtimbhneegphhbaaGreatDoorStrBase
import Derived.Test.YtimbhneegphhbaaGreatDoorRcCheck
namespace Go.Proofs.YtimbhneegphhbaaGreatDoor.dk
open Go.ChangeShapes Go.WideShapes Go.ChangeAt Go.RowKit Go.Proofs.YtimbhneegphhbaaGreatDoor.common

theorem append_text (w : World) (base : Nat) (v : Value) (l : List UInt8) (h : w.ownsRow base 5 1 v l.length (l.map B)) (t : ByteArray) (hb : l.length + t.size ≤ 140738562097152) (hbase : base ≤ w.heap.size) :
    ∃ v' W', (Builtin.append_ #[27, 9] 27 #[v, .string t]).run Tryz.prog w = .ok v' W' ∧ W'.ownsRow base 5 1 v' (l ++ t.data.toList).length ((l ++ t.data.toList).map B) ∧ Fr v.ownBlock.toList w W' ∧ (v'.ownBlock = v.ownBlock ∨ ∃ g, v'.ownBlock = some g ∧ w.heap.size ≤ g) := by
  obtain ⟨i0, hi, hz0, hz1, hz2⟩ := info_parts info8
  have hts : t.data.toList.length = t.size := by rw [Array.length_toList]; rfl
  have hbc : byteCells t = t.data.toList.map B := rfl
  have hsrc : Src Tryz.prog i0.size 9 (.string t) t.size (byteCells t) w := by rw [hz1]; exact Src.ofString w Tryz.underlying9 t
  have hlen : (byteCells t).length = t.size := byteCells_length t
  rcases h.2 with ⟨rfl, h0⟩ | ⟨g, cap, cur, rfl, h1, h2, h3, h4, h5, h6⟩
  · obtain rfl : l = [] := List.eq_nil_of_length_eq_zero h0
    by_cases ht : t.size = 0
    · have htn : t.data.toList = [] := List.eq_nil_of_length_eq_zero (by omega)
      refine ⟨.slice none 0 0, w, ?_, by rw [htn]; exact h, Fr.refl _ _, Or.inl rfl⟩
      have : t = ⟨#[]⟩ := by
        apply ByteArray.ext
        apply Array.toList_inj.1
        exact htn
      rw [this]
      simp [Builtin.append_, run_underlying (P := Tryz.prog) Tryz.underlying27, run_underlying (P := Tryz.prog) Tryz.underlying9, sizeOf, typeInfo, hi, Builtin.lenOf, Builtin.firstCells]
      rw [if_pos (show (⟨#[]⟩ : ByteArray) = ByteArray.empty from rfl)]
      rfl
    · have hold : (Builtin.firstCells i0.size 0 (.slice none 0 0)).run Tryz.prog w.drew = .ok ([] : List Value).toArray w.drew := run_firstCells_none w.drew i0.size 0 0 0
      have hrun := run_append_grow_src (P := Tryz.prog) w 27 9 27 5 i0 _ Tryz.underlying27 hi hz0 none 0 0 [] hold _ t.size _ hsrc (by omega) (by omega) (growslice_fits_wide (by omega) (by rw [hz2]; simp at hb; omega))
      have hge := grownCap_ge w (0 + t.size) 0 5
      have hle := grownCap_le_maxLen w (0 + t.size) 0 5 (by unfold maxLen; simp at hb; omega)
      refine ⟨_, _, hrun, ?_, (((Fr.refl _ w).drew).alloc _), Or.inr ⟨w.heap.size, rfl, Nat.le_refl _⟩⟩
      simp only [List.nil_append]
      rw [hts]
      have e0 : 0 + t.size = t.size := Nat.zero_add _
      rw [e0] at hge hle ⊢
      refine ⟨by rw [List.length_map, hts, Nat.mul_one], Or.inr ⟨w.heap.size, _, _, rfl, hbase, heap_alloc_new _ _, hge, hle, ?_, ?_⟩⟩
      · rw [Array.size_append, size_zeroCells, List.size_toArray, hlen]
        show t.size + (_ - _) * 1 = _
        omega
      · rw [Array.toList_append, List.toList_toArray, hbc]
        exact List.take_left' (by rw [List.length_map, hts, Nat.mul_one])
  · have hl : (l.map B).length = l.length := List.length_map ..
    by_cases hroom : l.length + t.size ≤ cap
    · have hrun := run_append_room_src (P := Tryz.prog) w 27 9 27 5 i0 Tryz.underlying27 hi g 0 l.length cap _ t.size _ hsrc hroom
        (fun j hj => by
          rw [hlen] at hj
          have : 0 + l.length * i0.size + j < cur.size := by rw [hz1, h5]; omega
          rw [cell_of h2, Array.getElem?_eq_getElem this]; rfl) (fun j hj => free_of h2 _)
      rw [hz1, Nat.zero_add, Nat.mul_one] at hrun
      have hc2 : w.heap[g]? = some (.cells cur.toList.toArray 5 (0, 0)) := by rw [Array.toArray_toList]; exact h2
      have hcl : cur.toList.length = cap * 1 := (Array.length_toList (xs := cur)).trans h5
      have hst := sets_here hc2 (byteCells t) l.length (by rw [hlen, hcl]; omega)
      refine ⟨_, _, hrun, ⟨by rw [List.length_map, Nat.mul_one], Or.inr ⟨g, cap, _, by rw [List.length_append, hts], h1, hst, by rw [List.length_append, hts]; exact hroom, h4, ?_, ?_⟩⟩, (Fr.refl _ w).sets g _ _ (Or.inl (by simp [Value.ownBlock])), Or.inl rfl⟩
      · rw [List.size_toArray, List.length_append, List.length_append, List.length_take, List.length_drop, hlen, hcl]; omega
      · rw [Nat.mul_one] at h6
        rw [List.toList_toArray, h6, ← List.append_assoc, List.map_append, hbc]
        exact List.take_left' (by rw [← List.map_append, List.length_map, Nat.mul_one])
    · have hcells : ∀ j u, (l.map B)[j]? = some u → w.cell? ((⟨g, 0, none⟩ : Addr).add j) = some u := h.cells (g := g) rfl
      have hold : (Builtin.firstCells i0.size l.length (.slice (some ⟨g, 0, none⟩) l.length cap)).run Tryz.prog w.drew = .ok (l.map B).toArray w.drew := run_firstCells_some w.drew i0.size l.length _ l.length cap (l.map B) (by rw [hl, hz1, Nat.mul_one]) hcells
      have hrun := run_append_grow_src (P := Tryz.prog) w 27 9 27 5 i0 _ Tryz.underlying27 hi hz0 (some ⟨g, 0, none⟩) l.length cap (l.map B) hold _ t.size _ hsrc (by omega) (by omega) (growslice_fits_wide (by omega) (by rw [hz2]; omega))
      have hge := grownCap_ge w (l.length + t.size) cap 5
      have hle := grownCap_le_maxLen w (l.length + t.size) cap 5 (by unfold maxLen; omega)
      refine ⟨_, _, hrun, ⟨by rw [List.length_map, Nat.mul_one], Or.inr ⟨w.heap.size, _, _, by rw [List.length_append, hts], hbase, heap_alloc_new _ _, by rw [List.length_append, hts]; exact hge, hle, ?_, ?_⟩⟩, (((Fr.refl _ w).drew).alloc _), Or.inr ⟨w.heap.size, rfl, Nat.le_refl _⟩⟩
      · rw [Array.size_append, size_zeroCells, List.size_toArray, List.length_append, hlen, hl]
        show l.length + t.size + (_ - _) * 1 = _
        omega
      · rw [Array.toList_append, List.toList_toArray, hbc, ← List.map_append]
        exact List.take_left' (by rw [List.length_map, Nat.mul_one])
end Go.Proofs.YtimbhneegphhbaaGreatDoor.dk

namespace Go.Proofs.YtimbhneegphhbaaGreatDoor.rc
open Go.ChangeShapes Go.WideShapes Go.ChangeAt Go.RowKit Go.Proofs.YtimbhneegphhbaaGreatDoor.common Go.Proofs.YtimbhneegphhbaaGreatDoor.dk

/-- a writer at p that has written l -/
def Wr (p : Nat) (w : World) (l : List UInt8) : Prop := ∃ v, w.heap[p]? = some (.cells #[v] 73 (0, 0)) ∧ w.ownsRow (p + 1) 5 1 v l.length (l.map B)
theorem Wr.lt {p : Nat} {w : World} {l : List UInt8} (h : Wr p w l) : p < w.heap.size := by
  obtain ⟨v, h1, _⟩ := h
  exact (Array.getElem?_eq_some_iff.1 h1).1
end Go.Proofs.YtimbhneegphhbaaGreatDoor.rc

namespace Go.Proofs.YtimbhneegphhbaaGreatDoor.rc
open Go.ChangeShapes Go.WideShapes Go.ChangeAt Go.RowKit Go.Proofs.YtimbhneegphhbaaGreatDoor.common Go.Proofs.YtimbhneegphhbaaGreatDoor.dk

/-- a text, a list, as bytes -/
def txL (s : ByteArray) : List UInt8 := numL s.size ++ s.data.toList
def lsL (l : List ByteArray) : List UInt8 := numL l.length ++ l.flatMap txL
theorem txL_len (s : ByteArray) : (txL s).length ≤ s.size + 10 := by
  unfold txL numL
  have := (numF_len 9 s.size).2
  rw [List.length_append]
  have : s.data.toList.length = s.size := by simp
  omega
theorem flat_len (l : List ByteArray) (B : Nat) (h : ∀ s ∈ l, s.size ≤ B) : (l.flatMap txL).length ≤ l.length * (B + 10) := by
  induction l with
  | nil => simp
  | cons x r ih =>
    have h1 := txL_len x
    have h2 := h x (List.mem_cons_self ..)
    have h3 := ih (fun s hs => h s (List.mem_cons_of_mem _ hs))
    rw [List.flatMap_cons, List.length_append, List.length_cons, Nat.add_mul, Nat.one_mul]
    omega
theorem Wr.keep {p : Nat} {w w' : World} {l : List UInt8} (h : Wr p w l) (hb : Below w.heap.size w w') : Wr p w' l := by
  obtain ⟨v, h1, h2⟩ := h
  exact ⟨v, (hb.block p (Array.getElem?_eq_some_iff.1 h1).1).trans h1, own_below h2 hb⟩

end Go.Proofs.YtimbhneegphhbaaGreatDoor.rc

namespace Go.Proofs.YtimbhneegphhbaaGreatDoor.rc
open Go.ChangeShapes Go.WideShapes Go.ChangeAt Go.RowKit Go.Proofs.YtimbhneegphhbaaGreatDoor.common Go.Proofs.YtimbhneegphhbaaGreatDoor.dk

/-- a record as bytes -/
def idL (r : Rec) : List UInt8 := if nm r.k 1 then txL r.id else []
def midL (r : Rec) : List UInt8 := if r.k = 4 then txL r.rd ++ txL r.ch else if r.k = 6 ∨ r.k = 9 then txL r.cd else []
def endL (r : Rec) : List UInt8 := if r.k = 4 ∨ r.k = 6 ∨ r.k = 9 ∨ r.k = 3 then txL r.cl ++ (lsL r.ss ++ (txL r.us ++ numL r.at_.toNat)) else if r.k = 1 then txL r.us ++ numL r.at_.toNat else if r.k = 11 then txL r.cl ++ txL r.us else []
def recL (r : Rec) : List UInt8 := [UInt8.ofNat r.k.toNat] ++ (idL r ++ (midL r ++ endL r))
/-- what the writer is handed: a record in its box below, its list, the table of kinds -/
structure Src (b p : Nat) (r : Rec) (v : Value) (w : World) : Prop where
  lt : b < p
  box : ∀ X, Below p w X → X.cell? ⟨b, 0, none⟩ = some (.int .i64 r.k) ∧ X.cell? ⟨b, 1, none⟩ = some (.string r.id) ∧ X.cell? ⟨b, 2, none⟩ = some (.string r.us) ∧ X.cell? ⟨b, 3, none⟩ = some (.string r.cl) ∧ X.cell? ⟨b, 4, none⟩ = some (.string r.rd) ∧ X.cell? ⟨b, 5, none⟩ = some (.string r.ch) ∧ X.cell? ⟨b, 6, none⟩ = some (.string r.cd) ∧ X.cell? ⟨b, 7, none⟩ = some v ∧ X.cell? ⟨b, 8, none⟩ = some (.int .i64 r.at_)
  own : ∀ X, Below p w X → Go.Proofs.YtimbhneegphhbaaGreatDoor.ss.Lies X v r.ss
  tab : ∀ X, Below p w X → KTab X
/-- texts that can be written -/
structure Rec.Fine (r : Rec) : Prop where
  id : r.id.size ≤ 281474976
  us : r.us.size ≤ 281474976
  cl : r.cl.size ≤ 281474976
  rd : r.rd.size ≤ 281474976
  ch : r.ch.size ≤ 281474976
  cd : r.cd.size ≤ 281474976
  len : r.ss.length ≤ 16
  ss : ∀ s ∈ r.ss, s.size ≤ 281474976
  at0 : 0 ≤ r.at_
  at1 : r.at_ ≤ 9223372036854775807
end Go.Proofs.YtimbhneegphhbaaGreatDoor.rc

namespace Go.Proofs.YtimbhneegphhbaaGreatDoor.rc
open Go.Proofs.YtimbhneegphhbaaGreatDoor.common

/-- the number at the head of l, in its one way, of f groups at most; b: nothing of it was read yet -/
def rdF : Nat → Bool → List UInt8 → Option (Nat × List UInt8)
  | 0, _, _ => none
  | _ + 1, _, [] => none
  | f + 1, b, c :: t =>
    if c.toNat = 0 ∧ b = false then none
    else if c.toNat < 128 then some (c.toNat, t)
    else match rdF f false t with
      | none => none
      | some (m, r) => some (c.toNat % 128 + 128 * m, r)
def rdN (l : List UInt8) : Option (Nat × List UInt8) := rdF 9 true l
theorem u8_lt (c : UInt8) : c.toNat < 256 := c.toNat_lt
theorem u8_of (c : UInt8) (n : Nat) (h : n = c.toNat) : UInt8.ofNat n = c := by rw [h]; exact UInt8.ofNat_toNat
theorem rdF_num : ∀ (f g n : Nat) (b : Bool) (rest : List UInt8), n < 128 ^ (f + 1) → f ≤ g → (n ≠ 0 ∨ b = true) → rdF (f + 1) b (numF g n ++ rest) = some (n, rest)
  | f, g, n, b, rest, hn, hg, hb => by
    by_cases h : n < 128
    · rw [numF_small g n h]
      have e : (UInt8.ofNat n).toNat = n := by rw [UInt8.toNat_ofNat']; omega
      show rdF (f + 1) b (UInt8.ofNat n :: rest) = _
      unfold rdF
      rw [e, if_neg (by rcases hb with h0 | h0 <;> simp [h0]), if_pos h]
    · obtain ⟨f', rfl⟩ : ∃ f', f = f' + 1 := ⟨f - 1, by
        rcases f with _ | f
        · exact absurd hn (by omega)
        · omega⟩
      obtain ⟨g', rfl⟩ : ∃ g', g = g' + 1 := ⟨g - 1, by omega⟩
      rw [numF_big g' n h]
      have e : (UInt8.ofNat (128 + n % 128)).toNat = 128 + n % 128 := by rw [UInt8.toNat_ofNat']; omega
      show rdF (f' + 1 + 1) b (UInt8.ofNat (128 + n % 128) :: (numF g' (n / 128) ++ rest)) = _
      have ih := rdF_num f' g' (n / 128) false rest (by
        rw [Nat.pow_succ] at hn
        exact (Nat.div_lt_iff_lt_mul (by decide)).2 hn) (by omega) (Or.inl (by omega))
      unfold rdF
      rw [e, if_neg (by omega), if_neg (by omega), ih]
      simp only [Option.some.injEq, Prod.mk.injEq, and_true]
      omega
theorem rdF_is : ∀ (f : Nat) (b : Bool) (l : List UInt8) (n : Nat) (r : List UInt8), rdF f b l = some (n, r) → (∀ g, f ≤ g + 1 → l = numF g n ++ r) ∧ n < 128 ^ f ∧ (b = false → n ≠ 0)
  | 0, _, _, _, _, h => by simp [rdF] at h
  | _ + 1, _, [], _, _, h => by simp [rdF] at h
  | f + 1, b, c :: t, n, r, h => by
    unfold rdF at h
    by_cases h0 : c.toNat = 0 ∧ b = false
    · rw [if_pos h0] at h; cases h
    rw [if_neg h0] at h
    by_cases h1 : c.toNat < 128
    · rw [if_pos h1] at h
      simp only [Option.some.injEq, Prod.mk.injEq] at h
      obtain ⟨rfl, rfl⟩ := h
      refine ⟨fun g _ => ?_, ?_, fun hb hc => h0 ⟨hc, hb⟩⟩
      · rw [numF_small g _ h1, u8_of c _ rfl]; rfl
      · rw [Nat.pow_succ]; exact Nat.lt_of_lt_of_le h1 (Nat.le_mul_of_pos_left _ (Nat.pow_pos (by decide)))
    rw [if_neg h1] at h
    cases hm : rdF f false t with
    | none => rw [hm] at h; cases h
    | some x =>
      obtain ⟨m, r'⟩ := x
      rw [hm] at h
      simp only [Option.some.injEq, Prod.mk.injEq] at h
      obtain ⟨rfl, rfl⟩ := h
      obtain ⟨i1, i2, i3⟩ := rdF_is f false t m r' hm
      have hm0 := i3 rfl
      have hc := u8_lt c
      have hf : f ≠ 0 := by rintro rfl; simp [rdF] at hm
      refine ⟨fun g hg => ?_, ?_, fun _ => by omega⟩
      · obtain ⟨g', rfl⟩ : ∃ g', g = g' + 1 := ⟨g - 1, by omega⟩
        rw [numF_big g' _ (by omega), show (c.toNat % 128 + 128 * m) / 128 = m by omega, u8_of c _ (by omega), i1 g' (by omega)]
        rfl
      · rw [Nat.pow_succ]; omega
theorem rdN_num (n : Nat) (rest : List UInt8) (h : n < 9223372036854775808) : rdN (numL n ++ rest) = some (n, rest) := rdF_num 8 9 n true rest h (by decide) (Or.inr rfl)
theorem rdN_is {l : List UInt8} {n : Nat} {r : List UInt8} (h : rdN l = some (n, r)) : l = numL n ++ r ∧ n < 9223372036854775808 := by
  obtain ⟨h1, h2, _⟩ := rdF_is 9 true l n r h
  exact ⟨h1 9 (by decide), h2⟩
theorem rdN_nil : rdN [] = none := rfl

/-- what is left to read: nothing any more, once it has failed -/
abbrev St := Option (List UInt8)
/-- x was read, or it has failed; and what was written is read -/
structure Step {α : Type} (enc : α → List UInt8) (ok : α → Prop) (s : St) (x : α) (s' : St) : Prop where
  back : s' = none ∨ ∃ l, s = some (enc x ++ l) ∧ s' = some l
  on : ∀ y l, ok y → s = some (enc y ++ l) → x = y ∧ s' = some l
abbrev TStep := Step txL (fun s => s.size < 9223372036854775808)
abbrev NStep := Step numL (fun n => n < 9223372036854775808)
abbrev LStep := Step lsL (fun l => l.length ≤ 16 ∧ ∀ s ∈ l, s.size < 9223372036854775808)
theorem step_none {α : Type} (enc : α → List UInt8) (ok : α → Prop) (x : α) : Step enc ok none x none := ⟨Or.inl rfl, fun _ _ _ h => by cases h⟩
theorem nstep_some {l : List UInt8} {n : Nat} {r : List UInt8} (h : rdN l = some (n, r)) : NStep (some l) n (some r) := by
  obtain ⟨h1, h2⟩ := rdN_is h
  refine ⟨Or.inr ⟨r, by rw [← h1], rfl⟩, fun y t hy e => ?_⟩
  cases e
  rw [rdN_num y t hy] at h
  cases h
  exact ⟨rfl, rfl⟩
theorem nstep_fail {l : List UInt8} (h : rdN l = none) (x : Nat) : NStep (some l) x none :=
  ⟨Or.inl rfl, fun y t hy e => by cases e; rw [rdN_num y t hy] at h; cases h⟩
/-- n texts one behind the other -/
abbrev TsStep (n : Nat) := Step (fun l : List ByteArray => l.flatMap txL) (fun l => l.length = n ∧ ∀ s ∈ l, s.size < 9223372036854775808)
theorem tsstep_nil (s : St) : TsStep 0 s [] s := by
  refine ⟨?_, fun y l hy e => ?_⟩
  · cases s with
    | none => exact Or.inl rfl
    | some l => exact Or.inr ⟨l, rfl, rfl⟩
  · obtain rfl := List.eq_nil_of_length_eq_zero hy.1
    exact ⟨rfl, e⟩
theorem tsstep_snoc {n : Nat} {s s1 s2 : St} {l : List ByteArray} {x : ByteArray} (h : TsStep n s l s1) (hx : TStep s1 x s2) : TsStep (n + 1) s (l ++ [x]) s2 := by
  refine ⟨?_, fun y t hy e => ?_⟩
  · rcases hx.back with h0 | ⟨r, h1, h2⟩
    · exact Or.inl h0
    · rcases h.back with h0 | ⟨r', h3, h4⟩
      · rw [h0] at h1; cases h1
      · rw [h4] at h1
        cases h1
        exact Or.inr ⟨r, by rw [h3]; simp [List.flatMap_append], h2⟩
  · obtain ⟨z, u, rfl⟩ : ∃ z u, y = z ++ [u] := ⟨y.dropLast, y.getLast (by rintro rfl; simp at hy), (List.dropLast_concat_getLast _).symm⟩
    have hz : z.length = n := by have := hy.1; simp at this; exact this
    obtain ⟨a1, a2⟩ := h.on z (txL u ++ t) ⟨hz, fun q hq => hy.2 q (by simp [hq])⟩ (by rw [e]; simp [List.flatMap_append])
    obtain ⟨b1, b2⟩ := hx.on u t (hy.2 u (by simp)) a2
    exact ⟨by rw [a1, b1], b2⟩
end Go.Proofs.YtimbhneegphhbaaGreatDoor.rc
