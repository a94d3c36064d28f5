import Derived.Test.YtimbhneegphhbaaGreatDoorRcWkA
import Derived.Test.YtimbhneegphhbaaGreatDoorRcWqA
namespace Go.Proofs.YtimbhneegphhbaaGreatDoor.rc
open Go.ChangeShapes Go.WideShapes Go.ChangeAt Go.RowKit Go.Proofs.YtimbhneegphhbaaGreatDoor.common Go.Proofs.YtimbhneegphhbaaGreatDoor.dk

/-- the document's number: f bytes at most, in whatever way -/
def dnF : Nat → List UInt8 → Option (Nat × List UInt8)
  | 0, _ => none
  | _ + 1, [] => none
  | f + 1, c :: t =>
    if c.toNat < 128 then some (c.toNat, t)
    else match dnF f t with
      | none => none
      | some (m, r) => some (c.toNat % 128 + 128 * m, r)
theorem dnF_num : ∀ (f g n : Nat) (rest : List UInt8), n < 128 ^ (f + 1) → f ≤ g → dnF (f + 1) (numF g n ++ rest) = some (n, rest)
  | f, g, n, rest, hn, hg => by
    by_cases h : n < 128
    · rw [numF_small g n h]
      have e : (UInt8.ofNat n).toNat = n := by rw [UInt8.toNat_ofNat']; omega
      show dnF (f + 1) (UInt8.ofNat n :: rest) = _
      unfold dnF
      rw [e, if_pos h]
    · obtain ⟨f', rfl⟩ : ∃ f', f = f' + 1 := ⟨f - 1, by
        rcases f with _ | f
        · exact absurd hn (by omega)
        · omega⟩
      obtain ⟨g', rfl⟩ : ∃ g', g = g' + 1 := ⟨g - 1, by omega⟩
      rw [numF_big g' n h]
      have e : (UInt8.ofNat (128 + n % 128)).toNat = 128 + n % 128 := by rw [UInt8.toNat_ofNat']; omega
      show dnF (f' + 1 + 1) (UInt8.ofNat (128 + n % 128) :: (numF g' (n / 128) ++ rest)) = _
      have ih := dnF_num f' g' (n / 128) rest (by
        rw [Nat.pow_succ] at hn
        exact (Nat.div_lt_iff_lt_mul (by decide)).2 hn) (by omega)
      unfold dnF
      rw [e, if_neg (by omega), ih]
      simp only [Option.some.injEq, Prod.mk.injEq, and_true]
      omega
theorem dn_num (y : Nat) (t : List UInt8) (h : y < 72057594037927936) : dnF 8 (numL y ++ t) = some (y, t) := dnF_num 7 9 y t h (by decide)
/-- k bytes of the number at a were read, they are n -/
def DI (l : List UInt8) (a k n : Nat) : Prop := n < 128 ^ k ∧ dnF 8 (l.drop a) = match dnF (8 - k) (l.drop (a + k)) with | none => none | some (m, r) => some (n + 128 ^ k * m, r)
theorem di_zero (l : List UInt8) (a : Nat) : DI l a 0 0 := by
  refine ⟨by decide, ?_⟩
  show dnF 8 (l.drop a) = match dnF 8 (l.drop a) with | none => none | some (m, r) => some (0 + 128 ^ 0 * m, r)
  cases dnF 8 (l.drop a) with
  | none => rfl
  | some x => obtain ⟨m, r⟩ := x; simp
theorem di_at {l : List UInt8} {a k n : Nat} (h : DI l a k n) (hi : a + k < l.length) (h8 : k < 8) :
    (l[a + k].toNat < 128 → dnF 8 (l.drop a) = some (n + 128 ^ k * (l[a + k].toNat % 128), l.drop (a + k + 1))) ∧ DI l a (k + 1) (n + 128 ^ k * (l[a + k].toNat % 128)) ∨ l[a + k].toNat < 128 ∧ dnF 8 (l.drop a) = some (n + 128 ^ k * (l[a + k].toNat % 128), l.drop (a + k + 1)) := by
  obtain ⟨h1, h2⟩ := h
  have e9 : 8 - k = (7 - k) + 1 := by omega
  have ed : l.drop (a + k) = l[a + k] :: l.drop (a + k + 1) := List.drop_eq_getElem_cons hi
  rw [e9, ed] at h2
  generalize hX : dnF 8 (l.drop a) = X at h2
  unfold dnF at h2
  by_cases hl : l[a + k].toNat < 128
  · refine Or.inr ⟨hl, ?_⟩
    rw [h2, if_pos hl, Nat.mod_eq_of_lt hl]
  · refine Or.inl ⟨fun h => absurd h hl, ?_, ?_⟩
    · rw [Nat.pow_succ]
      have := Nat.mul_le_mul_left (128 ^ k) (show l[a + k].toNat % 128 ≤ 127 by omega)
      omega
    · rw [hX, h2, if_neg hl, show 8 - (k + 1) = 7 - k by omega, show a + (k + 1) = a + k + 1 by omega]
      cases dnF (7 - k) (l.drop (a + k + 1)) with
      | none => rfl
      | some x =>
        obtain ⟨m, r⟩ := x
        simp only [Option.some.injEq, Prod.mk.injEq, and_true]
        rw [Nat.pow_succ, Nat.mul_add, Nat.mul_assoc, Nat.add_assoc]
theorem di_end {l : List UInt8} {a k n : Nat} (h : DI l a k n) (hi : l.length ≤ a + k ∨ k = 8) : dnF 8 (l.drop a) = none := by
  obtain ⟨_, h2⟩ := h
  rw [h2]
  rcases hi with h | h
  · rw [List.drop_eq_nil_of_le h]
    cases 8 - k <;> rfl
  · rw [h]; rfl
theorem di_lt {k n c : Nat} (hk : k < 8) (h : n < 128 ^ k) : n + 128 ^ k * (c % 128) < 72057594037927936 ∧ 128 ^ k ≤ 562949953421312 ∧ 128 ^ (k + 1) ≤ 72057594037927936 := by
  have h1 : 128 ^ k ≤ 128 ^ 7 := Nat.pow_le_pow_right (by decide) (by omega)
  have h2 : 128 ^ (k + 1) ≤ 128 ^ 8 := Nat.pow_le_pow_right (by decide) (by omega)
  have e1 : (128 : Nat) ^ 7 = 562949953421312 := by decide
  have e2 : (128 : Nat) ^ 8 = 72057594037927936 := by decide
  have h3 := Nat.mul_le_mul_left (128 ^ k) (show c % 128 ≤ 127 by omega)
  rw [Nat.pow_succ] at h2
  refine ⟨?_, by omega, by rw [Nat.pow_succ]; omega⟩
  omega

/-- at p lies a place in l: at a, lost or not -/
def Pl (K p : Nat) (v : Value) (l : List UInt8) (w : World) (a : Nat) (b : Bool) : Prop :=
  w.heap[p]? = some (.cells #[v, .int .i64 (a : Int), .bool b] 63 (0, 0)) ∧ Lo K w v l ∧ a ≤ l.length ∧ l.length ≤ 1048576
/-- what is left to read of it -/
def stP (l : List UInt8) (a : Nat) (b : Bool) : St := if b then none else some (l.drop a)
theorem Pl.lost {K p : Nat} {v : Value} {l : List UInt8} {w : World} {a : Nat} {b : Bool} (h : Pl K p v l w a b) (hK : K ≤ p) : Pl K p v l (w.setCell ⟨p, 2, none⟩ (.bool true)) a true :=
  ⟨at_set (j := 2) h.1 _, h.2.1.keep (fun g hg _ => set_other _ _ _ _ (show g ≠ p by omega)) (by rw [size_set]; exact Nat.le_refl _), h.2.2⟩
theorem Pl.to {K p : Nat} {v : Value} {l : List UInt8} {w : World} {a : Nat} {b : Bool} (h : Pl K p v l w a b) (hK : K ≤ p) (a' : Nat) (ha : a' ≤ l.length) : Pl K p v l (w.setCell ⟨p, 1, none⟩ (.int .i64 (a' : Int))) a' b :=
  ⟨at_set (j := 1) h.1 _, h.2.1.keep (fun g hg _ => set_other _ _ _ _ (show g ≠ p by omega)) (by rw [size_set]; exact Nat.le_refl _), ha, h.2.2.2⟩
theorem Pl.fr {K p : Nat} {F : List Nat} {v : Value} {l : List UInt8} {w w' : World} {a : Nat} {b : Bool} (h : Pl K p v l w a b) (hf : Fr F w w') (hp : p ∉ F) (hF : ∀ k ∈ F, K ≤ k) : Pl K p v l w' a b :=
  ⟨(hf.block p (Array.getElem?_eq_some_iff.1 h.1).1 hp).trans h.1, h.2.1.fr hf hF, h.2.2⟩
/-- what was written is read -/
def On {α : Type} (enc : α → List UInt8) (ok : α → Prop) (s : St) (x : α) (s' : St) : Prop := ∀ y l, ok y → s = some (enc y ++ l) → x = y ∧ s' = some l
end Go.Proofs.YtimbhneegphhbaaGreatDoor.rc

namespace Go.Proofs.YtimbhneegphhbaaGreatDoor.rc
open Go.ChangeShapes Go.WideShapes Go.ChangeAt Go.RowKit Go.Proofs.YtimbhneegphhbaaGreatDoor.common Go.Proofs.YtimbhneegphhbaaGreatDoor.dk
attribute [local go_sem ↓] Go.wp_at_zero Go.wp_at_succ

/-- how the document's number ends -/
def DnOut (K p : Nat) (v : Value) (l : List UInt8) (a : Nat) (b : Bool) (w : World) (x : Ending) (w' : World) : Prop :=
  ∃ (n a' : Nat) (b' : Bool), x = .returned (.int .i64 (n : Int)) ∧ Pl K p v l w' a' b' ∧ Fr [p] w w' ∧ n < 72057594037927936 ∧ On numL (fun y => y < 72057594037927936) (stP l a b) n (stP l a' b')
theorem dn_yes {l r : List UInt8} {a a' n : Nat} {b : Bool} (h : dnF 8 (l.drop a) = some (n, r)) (hr : l.drop a' = r) : On numL (fun y => y < 72057594037927936) (stP l a b) n (stP l a' b) := fun y t hy e => by
  cases b with
  | true => cases e
  | false =>
    have e : some (l.drop a) = some (numL y ++ t) := e
    rw [Option.some.inj e, dn_num y t hy] at h
    cases h
    exact ⟨rfl, congrArg some hr⟩
theorem dn_not {l : List UInt8} {a n : Nat} {b : Bool} (s : St) (h : dnF 8 (l.drop a) = none) : On numL (fun y => y < 72057594037927936) (stP l a b) n s := fun y t hy e => by
  cases b with
  | true => cases e
  | false =>
    have e : some (l.drop a) = some (numL y ++ t) := e
    rw [Option.some.inj e, dn_num y t hy] at h
    cases h
theorem fr_sets {p : Nat} {w w' : World} (h : Fr [p] w w') (j : Nat) (u : Value) : Fr [p] w (w'.setCell ⟨p, j, none⟩ u) := fr_set h p j u (List.mem_singleton.2 rfl)

theorem Pl.drew {K p : Nat} {v : Value} {l : List UInt8} {w : World} {a : Nat} {b : Bool} (h : Pl K p v l w a b) : Pl K p v l w.drew a b := ⟨h.1, h.2.1.keep (fun _ _ _ => rfl) (Nat.le_refl _), h.2.2⟩
theorem fr_drew {F : List Nat} {w w' : World} (h : Fr F w w') : Fr F w w'.drew := h.next ((Below.refl _ _).drew)
theorem wrap_nat (n : Nat) (h : n < 9223372036854775808) : wrap64 (n : Int) = (n : Int) := by unfold wrap64; omega
theorem dn_wrap {n U cn : Nat} (h : n + U * (cn % 128) < 72057594037927936) : wrap64 ((n : Int) + wrap64 ((U : Int) * ((cn : Int) % 128))) = ((n + U * (cn % 128) : Nat) : Int) := by
  have e : (U : Int) * ((cn : Int) % 128) = ((U * (cn % 128) : Nat) : Int) := by rw [Int.natCast_mul, Int.natCast_emod]; rfl
  rw [e, wrap_nat _ (by omega), ← Int.natCast_add, wrap_nat _ (by omega)]
set_option maxRecDepth 100000 in
set_option maxHeartbeats 6400000 in
theorem dnumber_any (K p : Nat) (v : Value) (l : List UInt8) (a : Nat) (b : Bool) (w : World) (hp : Pl K p v l w a b) (hK : K ≤ p) :
    Calls Tryz.prog 32 #[.pointer (some ⟨p, 0, none⟩)] w (DnOut K p v l a b w) := by
  obtain ⟨ov, cv, hvv⟩ : ∃ ov cv, v = .slice ov l.length cv := by obtain ⟨x, y, h, _⟩ := hp.2.1; exact ⟨x, y, h⟩
  subst hvv
  have HP := hide hp
  have hl := hp.2.2.2
  clear hp
  unfold DnOut
  go_enter Tryz.func32, Tryz.ntmps32
  go_wp2_with fail
  go_loopw [3, 4, 5] (fun nn un i wr => ∃ k n : Nat, k ≤ 8 ∧ a + k ≤ l.length ∧ i = .int .i64 (k : Int) ∧ nn = .int .i64 (n : Int) ∧ un = .int .i64 ((128 ^ k : Nat) : Int) ∧ DI l a k n ∧ Pl K p (.slice ov l.length cv) l wr (a + k) b ∧ Fr [p] w wr) (fun _ _ i _ => 8 - (intOf i).toNat)
  case atStart => exact ⟨0, 0, by decide, HP.out.2.2.1, rfl, rfl, rfl, di_zero l a, HP.out, Fr.refl _ _⟩
  case round =>
    obtain ⟨k, n, hk, hka, rfl, rfl, rfl, hI, hpl, hfr⟩ := hrel
    have HPL := hide hpl
    have HFR := hide hfr
    by_cases hlt : k < 8
    · have j1 : (k : Int) < 8 := by omega
      have c0 : wr.cell? ⟨p, 0, none⟩ = some (.slice ov l.length cv) := cell_of hpl.1 0
      have c1 : wr.cell? ⟨p, 1, none⟩ = some (.int .i64 ((a + k : Nat) : Int)) := cell_of hpl.1 1
      by_cases hin : a + k < l.length
      · obtain ⟨g, o, rfl, hcell⟩ := hpl.2.1.rd.cell (by omega)
        have cb := hcell (a + k) hin
        have hcc := di_at hI hin hlt
        obtain ⟨z1, z2, z3⟩ := di_lt (c := l[a + k].toNat) hlt hI.1
        have hc256 : l[a + k].toNat < 256 := u8_lt _
        have cb' : wr.cell? ⟨g, o + (a + k), none⟩ = some (.int .u8 ((l[a + k].toNat : Nat) : Int)) := cb
        obtain ⟨A, hA⟩ : ∃ A, A = a + k := ⟨_, rfl⟩
        have HPT := hide (hpl.to hK (A + 1) (by omega))
        have HF1 := hide (fr_sets hfr 1 (.int .i64 ((A + 1 : Nat) : Int)))
        have f1 : wr.frozen? ⟨p, 1, none⟩ = false := free_of hpl.1 1
        have hA0 : (0 : Int) ≤ (A : Int) := Int.natCast_nonneg _
        have hA1 : (A : Int) < (l.length : Int) := by omega
        have hA2 : ¬ (l.length : Int) ≤ (A : Int) := by omega
        have hA3 : A ≤ 1048576 := by omega
        obtain ⟨U, hU⟩ : ∃ U, U = 128 ^ k := ⟨_, rfl⟩
        rw [← hU] at z1 z2 ⊢
        have z3' : U * 128 ≤ 72057594037927936 := by rw [hU, ← Nat.pow_succ]; exact z3
        have HU := hide hU
        have HA := hide hA
        have HKA : Hid (A + 1 = a + (k + 1)) := by show _ = _; omega
        have hn : n < 72057594037927936 := by omega
        obtain ⟨cn, hcn⟩ : ∃ cn, cn = l[a + k].toNat := ⟨_, rfl⟩
        rw [← hcn] at z1 cb' hc256
        rw [← hA] at c1 cb'
        have HY : Hid (cn < 128 → dnF 8 (l.drop a) = some (n + U * (cn % 128), l.drop (A + 1))) := fun h => by
          rw [hU, hcn, hA]
          rcases hcc with ⟨h1, _⟩ | ⟨_, h4⟩
          · exact h1 (by rw [← hcn]; exact h)
          · exact h4
        have HN : Hid (¬ cn < 128 → DI l a (k + 1) (n + U * (cn % 128))) := fun h => by
          rw [hU, hcn]
          rcases hcc with ⟨_, h2⟩ | ⟨h3, _⟩
          · exact h2
          · exact absurd (by rw [hcn]; exact h3) h
        have hpr : U * (cn % 128) ≤ 72057594037927936 := by omega
        clear hcell cb hcc hI hpl hfr hA hU z3 hcn hka hin
        have hA4 : ¬ l.length ≤ A := by omega
        have hA5 : decide (l.length ≤ A) = false := decide_eq_false hA4
        by_cases hc : cn < 128
        · have k1 : (cn : Int) < 128 := by omega
          go_wp2_with fail
          go_region
          all_goals
            go_wp2_with fail
            go_region
            all_goals
              go_wp2_with fail
              go_ret
              exact ⟨n + U * (cn % 128), A + 1, b, by rw [dn_wrap z1]; rfl, HPT.out.drew.drew, fr_drew (fr_drew HF1.out), z1, dn_yes (HY.out hc) rfl⟩
        · have k1 : ¬ (cn : Int) < 128 := by omega
          go_wp2_with fail
          go_region
          all_goals
            go_wp2_with fail
            go_region
            all_goals
              go_wp2_with fail
              refine ⟨⟨k + 1, n + U * (cn % 128), by omega, ?_, by go_num, by rw [dn_wrap z1], ?_, HN.out hc, ?_, fr_drew (fr_drew HF1.out)⟩, by simp [intOf]; omega⟩
              · have := HKA.out; omega
              · rw [Nat.pow_succ, ← HU.out]; simp
              · rw [← HKA.out]; exact HPT.out.drew.drew
      · have hA4 : l.length ≤ a + k := by omega
        have hA5 : decide (l.length ≤ a + k) = true := decide_eq_true hA4
        have hA6 : (l.length : Int) ≤ ((a + k : Nat) : Int) := by omega
        have c2 : wr.cell? ⟨p, 2, none⟩ = some (.bool b) := cell_of hpl.1 2
        have f2 : wr.frozen? ⟨p, 2, none⟩ = false := free_of hpl.1 2
        have HEND := hide (di_end hI (Or.inl hA4))
        have HLO := hide (hpl.lost hK)
        have HF2 := hide (fr_sets hfr 2 (.bool true))
        obtain ⟨A, hA⟩ : ∃ A, A = a + k := ⟨_, rfl⟩
        rw [← hA] at hA4 hA5 hA6 c1 HLO
        obtain ⟨U, hU⟩ : ∃ U, U = 128 ^ k := ⟨_, rfl⟩
        rw [← hU]
        clear hI hpl hfr hA hka hin hU
        go_wp2_with fail
        go_region
        all_goals
          go_wp2_with fail
          go_ret
          exact ⟨0, A, true, rfl, HLO.out.drew, fr_drew HF2.out, by decide, dn_not _ HEND.out⟩
    · obtain rfl : k = 8 := by omega
      have c2 : wr.cell? ⟨p, 2, none⟩ = some (.bool b) := cell_of hpl.1 2
      have f2 : wr.frozen? ⟨p, 2, none⟩ = false := free_of hpl.1 2
      have HEND := hide (di_end hI (Or.inr rfl))
      have HLO := hide (hpl.lost hK)
      have HF2 := hide (fr_sets hfr 2 (.bool true))
      obtain ⟨U, hU⟩ : ∃ U, U = 128 ^ 8 := ⟨_, rfl⟩
      rw [← hU]
      clear hI hpl hfr hU
      go_wp2_with fail
      go_ret
      exact ⟨0, a + 8, true, rfl, HLO.out, HF2.out, by decide, dn_not _ HEND.out⟩
end Go.Proofs.YtimbhneegphhbaaGreatDoor.rc

namespace Go.Proofs.YtimbhneegphhbaaGreatDoor.rc
open Go.ChangeShapes Go.WideShapes Go.ChangeAt Go.RowKit Go.Proofs.YtimbhneegphhbaaGreatDoor.common Go.Proofs.YtimbhneegphhbaaGreatDoor.dk
attribute [local go_sem ↓] Go.wp_at_zero Go.wp_at_succ

abbrev TOn := On txL (fun s => s.size ≤ 1048576)
/-- how the document's text ends -/
def DtOut (K p : Nat) (v : Value) (l : List UInt8) (a : Nat) (b : Bool) (w : World) (x : Ending) (w' : World) : Prop :=
  ∃ (y : ByteArray) (a' : Nat) (b' : Bool), x = .returned (.string y) ∧ Pl K p v l w' a' b' ∧ Fr [p] w w' ∧ y.size ≤ 1048576 ∧ TOn (stP l a b) y (stP l a' b')
theorem ton_num {s : St} {n : Nat} {y : ByteArray} {t : List UInt8} {s1 : St} (h : On numL (fun y => y < 72057594037927936) s n s1) (hy : y.size ≤ 1048576) (e : s = some (txL y ++ t)) : n = y.size ∧ s1 = some (y.data.toList ++ t) := by
  unfold txL at e
  rw [List.append_assoc] at e
  exact h y.size _ (by show _ < _; omega) e
theorem ton_yes {l : List UInt8} {s : St} {n a : Nat} (h : On numL (fun y => y < 72057594037927936) s n (stP l a false)) : TOn s ⟨((l.drop a).take n).toArray⟩ (stP l (a + n) false) := fun y t hy e => by
  obtain ⟨h1, h2⟩ := ton_num h hy e
  have h2 : some (l.drop a) = some (y.data.toList ++ t) := h2
  have h3 := Option.some.inj h2
  have hl : y.data.toList.length = y.size := by simp
  refine ⟨?_, ?_⟩
  · rw [h3, h1, ← hl, List.take_left]
  · show some (l.drop (a + n)) = some t
    rw [← List.drop_drop, h3, h1, ← hl, List.drop_left]
theorem ton_lost {l : List UInt8} {s s' : St} {n a : Nat} {y : ByteArray} (h : On numL (fun y => y < 72057594037927936) s n (stP l a true)) : TOn s y s' := fun z t hz e => by
  have := (ton_num h hz e).2
  cases this
theorem ton_short {l : List UInt8} {s s' : St} {n a : Nat} {y : ByteArray} (h : On numL (fun y => y < 72057594037927936) s n (stP l a false)) (hn : (l.drop a).length < n) : TOn s y s' := fun z t hz e => by
  obtain ⟨h1, h2⟩ := ton_num h hz e
  have h2 : some (l.drop a) = some (z.data.toList ++ t) := h2
  rw [Option.some.inj h2, List.length_append, h1] at hn
  have hl : z.data.toList.length = z.size := by simp
  omega

theorem Pl.drewN {K p : Nat} {v : Value} {l : List UInt8} {w : World} {a : Nat} {b : Bool} (h : Pl K p v l w a b) (n : Nat) : Pl K p v l (w.drewN n) a b := ⟨h.1, h.2.1.keep (fun _ _ _ => rfl) (Nat.le_refl _), h.2.2⟩
theorem fr_drewN {F : List Nat} {w w' : World} (h : Fr F w w') (n : Nat) : Fr F w (w'.drewN n) := h.next (bdN (Below.refl _ _) n)
set_option maxRecDepth 100000 in
set_option maxHeartbeats 6400000 in
theorem dtext_any (K p : Nat) (v : Value) (l : List UInt8) (a : Nat) (b : Bool) (w : World) (hp : Pl K p v l w a b) (hK : K ≤ p) :
    Calls Tryz.prog 33 #[.pointer (some ⟨p, 0, none⟩)] w (DtOut K p v l a b w) := by
  have HN := hide (dnumber_any K p v l a b w hp hK)
  obtain ⟨ov, cv, hvv⟩ : ∃ ov cv, v = .slice ov l.length cv := by obtain ⟨x, y, h, _⟩ := hp.2.1; exact ⟨x, y, h⟩
  subst hvv
  clear hp
  unfold DtOut
  go_enter Tryz.func33, Tryz.ntmps33
  go_wp2_with fail
  refine HN.out.mono ?_
  rintro x w1 ⟨n, a1, b1, rfl, hpl, hfr, hn56, hon⟩
  have c0 : w1.cell? ⟨p, 0, none⟩ = some (.slice ov l.length cv) := cell_of hpl.1 0
  have c1 : w1.cell? ⟨p, 1, none⟩ = some (.int .i64 (a1 : Int)) := cell_of hpl.1 1
  have c2 : w1.cell? ⟨p, 2, none⟩ = some (.bool b1) := cell_of hpl.1 2
  have f1 : w1.frozen? ⟨p, 1, none⟩ = false := free_of hpl.1 1
  have f2 : w1.frozen? ⟨p, 2, none⟩ = false := free_of hpl.1 2
  have ha := hpl.2.2.1
  have hl := hpl.2.2.2
  have HPL := hide hpl
  have HFR := hide hfr
  have HON := hide hon
  have HLO := hide (hpl.lost hK)
  have HF2 := hide (fr_sets hfr 2 (.bool true))
  clear hpl hfr hon HN
  cases b1 with
  | true =>
    go_wp2_with fail
    go_quiet (fail)
    go_wp2_with fail
    go_ret
    exact ⟨⟨#[]⟩, a1, true, rfl, (HPL.out.drewN nq).lost hK, fr_sets (fr_drewN HFR.out nq) 2 _, by decide, ton_lost HON.out⟩
  | false =>
    by_cases hn : n ≤ l.length - a1
    · have hn1 : ¬ ((l.length : Int) - (a1 : Int)) < (n : Int) := by omega
      have hn2 : decide (((l.length : Int) - (a1 : Int)) < (n : Int)) = false := decide_eq_false hn1
      obtain ⟨_, _, hq, hcap, _⟩ := HPL.out.2.1
      cases hq
      have q0 : (0 : Int) ≤ (a1 : Int) := Int.natCast_nonneg _
      have q1 : (a1 : Int) ≤ (a1 : Int) + (n : Int) := by omega
      have q2 : (a1 : Int) + (n : Int) ≤ (cv : Int) := by omega
      have q3 : a1 + n - a1 = n := by omega
      have hyl : ((l.drop a1).take n).length ≤ 1048576 := by rw [List.length_take, List.length_drop]; omega
      have HY : Hid ((⟨((l.drop a1).take n).toArray⟩ : ByteArray).size ≤ 1048576) := by show _ ≤ _; rw [ba_len]; exact hyl
      have HCV : Hid (∀ oa', (∀ g o, ov = some ⟨g, o, none⟩ → ¬ cv = a1 → oa' = some ⟨g, o + a1, none⟩) → ∀ m, (convert 27 9 (.slice oa' n (cv - a1))).run Tryz.prog (w1.drewN m) = .ok (.string ⟨((l.drop a1).take n).toArray⟩) (w1.drewN m)) := fun oa' ho m => by
        have h1 := (HPL.out.drewN m).2.1.from a1 ha oa' ho
        have h2 := Lo.upto (l := l.drop a1) (by rw [List.length_drop]; exact h1) n (by rw [List.length_drop]; exact hn)
        exact conv_rd h2.rd
      have HTY := hide (ton_yes HON.out)
      obtain ⟨Y, hY⟩ : ∃ Y : ByteArray, Y = ⟨((l.drop a1).take n).toArray⟩ := ⟨_, rfl⟩
      rw [← hY] at HY HCV HTY
      clear hY hyl
      by_cases hce : cv = a1
      · subst hce
        have hn0 : n = 0 := by omega
        subst hn0
        have hcc : cv - cv = 0 := Nat.sub_self _
        have hcv := HCV.out ov (fun g o _ h => absurd rfl h)
        rw [hcc] at hcv
        clear HCV
        go_wp2_with fail
        go_quiet (fail)
        go_wp2_with fail
        go_quiet (fail)
        go_wp2_with fail
        go_ret
        exact ⟨Y, cv, false, rfl, (HPL.out.drewN _).to hK cv ha, fr_sets (fr_drewN HFR.out _) 1 _, HY.out, HTY.out⟩
      · have hce' : ¬ cv - a1 = 0 := by omega
        have hcv := HCV.out (Option.map (fun x : Addr => x.add a1) ov) (fun g o h _ => by rw [h]; show some (Addr.add _ _) = _; rw [Addr.add_mid])
        clear HCV hce
        go_wp2_with fail
        go_quiet (fail)
        go_wp2_with fail
        go_quiet (fail)
        go_wp2_with fail
        go_ret
        exact ⟨Y, a1 + n, false, rfl, (HPL.out.drewN _).to hK (a1 + n) (by omega), fr_sets (fr_drewN HFR.out _) 1 _, HY.out, HTY.out⟩
    · have hn1 : ((l.length : Int) - (a1 : Int)) < (n : Int) := by omega
      have hn2 : decide (((l.length : Int) - (a1 : Int)) < (n : Int)) = true := decide_eq_true hn1
      go_wp2_with fail
      go_quiet (fail)
      go_wp2_with fail
      go_ret
      exact ⟨⟨#[]⟩, a1, true, rfl, (HPL.out.drewN nq).lost hK, fr_sets (fr_drewN HFR.out nq) 2 _, by decide, ton_short HON.out (by rw [List.length_drop]; omega)⟩
end Go.Proofs.YtimbhneegphhbaaGreatDoor.rc

namespace Go.Proofs.YtimbhneegphhbaaGreatDoor.rc
open Go.ChangeShapes Go.WideShapes Go.ChangeAt Go.RowKit Go.Proofs.YtimbhneegphhbaaGreatDoor.common Go.Proofs.YtimbhneegphhbaaGreatDoor.dk
attribute [local go_sem ↓] Go.wp_at_zero Go.wp_at_succ

theorem Pl.low {K p B : Nat} {v : Value} {l : List UInt8} {w w' : World} {a : Nat} {b : Bool} (h : Pl K p v l w a b) (hb : Below B w w') (hp : p < B) (hK : K ≤ p) : Pl K p v l w' a b :=
  ⟨(hb.block p hp).trans h.1, h.2.1.keep (fun g hg _ => hb.block g (by omega)) hb.size, h.2.2⟩
theorem fr_low {F : List Nat} {w w1 w2 : World} (h : Fr F w w1) (hb : Below w.heap.size w1 w2) : Fr F w w2 :=
  ⟨hb.os.trans h.os, hb.tape.trans h.tape, hb.output.trans h.output, Nat.le_trans h.size hb.size, fun k hk hn => (hb.block k hk).trans (h.block k hk hn)⟩
abbrev TsOn (n : Nat) := On (fun l : List ByteArray => l.flatMap txL) (fun l => l.length = n ∧ ∀ s ∈ l, s.size ≤ 1048576)
abbrev LOn := On lsL (fun l => l.length ≤ 16 ∧ ∀ s ∈ l, s.size ≤ 1048576)
theorem tson_nil (s : St) : TsOn 0 s [] s := fun y l hy e => by
  obtain rfl := List.eq_nil_of_length_eq_zero hy.1
  exact ⟨rfl, e⟩
theorem tson_snoc {n : Nat} {s s1 s2 : St} {l : List ByteArray} {x : ByteArray} (h : TsOn n s l s1) (hx : TOn s1 x s2) : TsOn (n + 1) s (l ++ [x]) s2 := fun y t hy e => by
  obtain ⟨z, u, rfl⟩ : ∃ z u, y = z ++ [u] := ⟨y.dropLast, y.getLast (by rintro rfl; simp at hy), (List.dropLast_concat_getLast _).symm⟩
  have hz : z.length = n := by have := hy.1; simp at this; exact this
  obtain ⟨a1, a2⟩ := h z (txL u ++ t) ⟨hz, fun q hq => hy.2 q (by simp [hq])⟩ (by rw [e]; simp [List.flatMap_append])
  obtain ⟨b1, b2⟩ := hx u t (hy.2 u (by simp)) a2
  exact ⟨by rw [a1, b1], b2⟩
theorem lon_num {s : St} {n : Nat} {y : List ByteArray} {t : List UInt8} {s1 : St} (h : On numL (fun y => y < 72057594037927936) s n s1) (hy : y.length ≤ 16) (e : s = some (lsL y ++ t)) : n = y.length ∧ s1 = some (y.flatMap txL ++ t) := by
  unfold lsL at e
  rw [List.append_assoc] at e
  exact h y.length _ (by show _ < _; omega) e
theorem lon_over {s s1 s' : St} {n : Nat} {x : List ByteArray} (h : On numL (fun y => y < 72057594037927936) s n s1) (hn : 16 < n) : LOn s x s' := fun y t hy e => by
  have := (lon_num h hy.1 e).1
  have := hy.1
  omega
theorem lon_all {s s1 s2 : St} {n : Nat} {x : List ByteArray} (h : On numL (fun y => y < 72057594037927936) s n s1) (hx : TsOn n s1 x s2) : LOn s x s2 := fun y t hy e => by
  obtain ⟨h1, h2⟩ := lon_num h hy.1 e
  exact hx y t ⟨h1.symm, hy.2⟩ h2
theorem lon_lost {s s1 s' : St} {n i : Nat} {x : List ByteArray} (h : On numL (fun y => y < 72057594037927936) s n s1) (hi : i ≤ n) (hx : TsOn i s1 x none) : LOn s x s' := fun y t hy e => by
  obtain ⟨h1, h2⟩ := lon_num h hy.1 e
  have e2 : y.flatMap txL ++ t = (y.take i).flatMap txL ++ ((y.drop i).flatMap txL ++ t) := by
    rw [← List.append_assoc, ← List.flatMap_append, List.take_append_drop]
  rw [e2] at h2
  have := (hx (y.take i) _ ⟨by rw [List.length_take]; omega, fun q hq => hy.2 q (List.mem_of_mem_take hq)⟩ h2).2
  cases this
def DlOut (K p : Nat) (v : Value) (l : List UInt8) (a : Nat) (b : Bool) (w : World) (x : Ending) (w' : World) : Prop :=
  ∃ (xs : List ByteArray) (v' : Value) (a' : Nat) (b' : Bool), x = .returned v' ∧ Pl K p v l w' a' b' ∧ Fr [p] w w' ∧ w'.ownsRow w.heap.size 9 1 v' xs.length (xs.map Value.string) ∧ (xs.length ≤ 16 ∧ ∀ y ∈ xs, y.size ≤ 1048576) ∧ LOn (stP l a b) xs (stP l a' b')
theorem one_cell (w : World) (x : Value) (t : TypeId) : ∀ j u, [x][j]? = some u → (w.alloc (.cells #[x] t)).cell? ((⟨w.heap.size, 0, none⟩ : Addr).add j) = some u := by
  intro j u h
  have h1 := heap_alloc_new w (.cells #[x] t (0, 0))
  rw [Addr.add_mid, Nat.zero_add]
  simp only [World.cell?, h1]
  simpa using h

set_option maxRecDepth 100000 in
set_option maxHeartbeats 6400000 in
theorem dtexts_any (K p : Nat) (v : Value) (l : List UInt8) (a : Nat) (b : Bool) (w : World) (hp : Pl K p v l w a b) (hK : K ≤ p) :
    Calls Tryz.prog 46 #[.pointer (some ⟨p, 0, none⟩)] w (DlOut K p v l a b w) := by
  obtain ⟨i0, hi, hz0, hz1, hz2⟩ := info_parts infoSt
  have HN := hide (dnumber_any K p v l a b w hp hK)
  have HPW : Hid (p < w.heap.size) := (Array.getElem?_eq_some_iff.1 hp.1).1
  clear hp
  go_enter Tryz.func46, Tryz.ntmps46
  go_wp2_with fail
  refine HN.out.mono ?_
  rintro x w1 ⟨n, a1, b1, rfl, hpl, hfr, hn56, hon⟩
  have c2 : w1.cell? ⟨p, 2, none⟩ = some (.bool b1) := cell_of hpl.1 2
  have f2 : w1.frozen? ⟨p, 2, none⟩ = false := free_of hpl.1 2
  have HON := hide hon
  clear HN hon
  by_cases hn : 16 < n
  · have k1 : (16 : Int) < (n : Int) := by omega
    have HLO := hide (hpl.lost hK)
    have HF2 := hide (fr_sets hfr 2 (.bool true))
    have c3 : (w1.setCell ⟨p, 2, none⟩ (.bool true)).cell? ⟨p, 2, none⟩ = some (.bool true) := cell_of HLO.out.1 2
    clear hpl hfr
    go_wp2_with fail
    go_loopw [4, 5] (fun vo i wr => vo = .slice none 0 0 ∧ i = .int .i64 0 ∧ wr = w1.setCell ⟨p, 2, none⟩ (.bool true)) (fun _ _ _ => 0)
    case atStart => exact ⟨rfl, rfl, rfl⟩
    case round =>
      obtain ⟨rfl, rfl, h9⟩ := hrel
      obtain rfl := h9.symm
      have n0 : (0 : Int) < (n : Int) := by omega
      go_wp2_with fail
      go_ret
      unfold DlOut
      exact ⟨[], _, a1, true, rfl, HLO.out, HF2.out, World.ownsRow_nil _ _ _ _, ⟨Nat.zero_le _, (fun y hy => by cases hy)⟩, lon_over HON.out hn⟩
  · have k1 : ¬ (16 : Int) < (n : Int) := by omega
    have HPL := hide hpl
    have HFR := hide hfr
    clear hpl hfr c2 f2
    go_wp2_with fail
    go_loopw [4, 5] (fun vo i wr => ∃ (xs : List ByteArray) (a' : Nat) (b' : Bool), xs.length ≤ n ∧ i = .int .i64 (xs.length : Int) ∧ Pl K p v l wr a' b' ∧ Fr [p] w wr ∧ wr.ownsRow w.heap.size 9 1 vo xs.length (xs.map Value.string) ∧ (∀ y ∈ xs, y.size ≤ 1048576) ∧ TsOn xs.length (stP l a1 b1) xs (stP l a' b')) (fun _ i _ => n - (intOf i).toNat)
    case atStart => exact ⟨[], a1, b1, Nat.zero_le _, rfl, HPL.out, HFR.out, World.ownsRow_nil _ _ _ _, (fun y hy => by cases hy), tson_nil _⟩
    case round =>
      obtain ⟨xs, a', b', hxn, rfl, hpl, hfr, hown, hall, hts⟩ := hrel
      have c2 : wr.cell? ⟨p, 2, none⟩ = some (.bool b') := cell_of hpl.1 2
      obtain ⟨oo, co, rfl⟩ := own_slice hown
      have HPR := hide hpl
      have HFX := hide hfr
      have HOW := hide hown
      have HAL := hide hall
      have HTS := hide hts
      have hsz := hfr.size
      clear hpl hfr hown hall hts
      obtain ⟨L, hL⟩ : ∃ L, L = xs.length := ⟨_, rfl⟩
      have HLL := hide hL
      rw [← hL] at hxn HOW ⊢
      clear hL
      by_cases hlt : L < n
      · have j1 : (L : Int) < (n : Int) := by omega
        cases b' with
        | true =>
          go_wp2_with fail
          go_ret
          unfold DlOut
          exact ⟨xs, _, a', true, rfl, HPR.out, HFX.out, by rw [← HLL.out]; exact HOW.out, ⟨by rw [← HLL.out]; omega, HAL.out⟩, lon_lost HON.out (by rw [← HLL.out]; exact hxn) HTS.out⟩
        | false =>
          have HT := hide (dtext_any K p v l a' false wr HPR.out hK)
          go_wp2_with fail
          refine HT.out.mono ?_
          rintro x w2 ⟨y, a2, b2, rfl, hpl2, hfr2, hy, hon2⟩
          have hown2 : w2.ownsRow w.heap.size 9 1 (.slice oo L co) L (xs.map Value.string) := own_pq HOW.out (q := p) (hfr2.mono (fun k hk => by rw [List.mem_singleton.1 hk]; exact List.mem_cons_self ..)) HPW.out HPW.out
          have HO2 := hide (hown2.alloc (.cells #[.string y] 9))
          have HC1 := hide (one_cell w2 (.string y) 9)
          have HP2 := hide hpl2
          have HF2 := hide (HFX.out.trans hfr2 (fun i hi => Or.inl hi))
          have HB2 : Hid (Below w.heap.size w2 (w2.alloc (.cells #[.string y] 9))) := (Below.refl _ _).alloc (Nat.le_trans hsz hfr2.size) _
          have HY := hide hy
          have HTN := hide (tson_snoc HTS.out hon2)
          have hs2 : w.heap.size ≤ w2.heap.size := Nat.le_trans hsz hfr2.size
          clear hpl2 hfr2 hy hon2 hown2 HT c2
          go_wp2_with (at_builtin; refine wpList_append_own _ rfl _ _ 24 rfl w.heap.size 9 i0 (.string ⟨#[]⟩) 1 16 Tryz.underlying24 hi hz0 hz1 hz2 rfl (by decide) _ L _ rfl HO2.out ⟨w2.heap.size, 0, none⟩ 1 1 [.string y] rfl rfl HC1.out ?d2 ?d3 ?d4 ?d5 ?_)
          case d2 => first | rfl | (intro u hu; simp at hu; rw [hu]; rfl)
          case d3 => unfold maxLen; omega
          case d4 => omega
          case d5 => first | omega | (simp; omega)
          intro v' w3 hown' hgrow _
          have HB3 : Hid (Below w.heap.size w2 w3) := HB2.out.grown hgrow (by simp; omega) (fun k hk => (HO2.out.lt k hk).1)
          have HN3 : Hid (∃ (xs' : List ByteArray), xs'.length = L + 1 ∧ w3.ownsRow w.heap.size 9 1 v' xs'.length (xs'.map Value.string) ∧ (∀ y ∈ xs', y.size ≤ 1048576) ∧ TsOn xs'.length (stP l a1 b1) xs' (stP l a2 b2)) := by
            have hl2 : (xs ++ [y]).length = L + 1 := by rw [List.length_append, HLL.out]; rfl
            refine ⟨xs ++ [y], hl2, ?_, ?_, ?_⟩
            · rw [hl2, List.map_append]; exact hown'
            · intro z hz
              rcases List.mem_append.1 hz with h | h
              · exact HAL.out z h
              · rw [List.mem_singleton.1 h]; exact HY.out
            · rw [hl2, HLL.out]; exact HTN.out
          have HP3 := hide (HP2.out.low HB3.out HPW.out hK)
          have HF3 := hide (fr_low HF2.out HB3.out)
          clear hown' hgrow HO2 HC1
          go_wp2_with fail
          obtain ⟨xs', hl3, e1, e2, e3⟩ := HN3.out
          go_roundw
          case rel => exact ⟨xs', a2, b2, by omega, by rw [hl3]; go_num, HP3.out, HF3.out, e1, e2, e3⟩
          case measure => simp [intOf]; omega
      · have j1 : ¬ (L : Int) < (n : Int) := by omega
        have hLn : n = L := by omega
        have HLA := hide (lon_all (n := L) (by rw [← hLn]; exact HON.out) (by rw [HLL.out]; exact HTS.out))
        have HL16 : Hid (L ≤ 16) := by show _ ≤ _; omega
        clear hLn
        go_wp2_with fail
        go_ret
        unfold DlOut
        exact ⟨xs, _, a', b', rfl, HPR.out, HFX.out, by rw [← HLL.out]; exact HOW.out, ⟨by rw [← HLL.out]; exact HL16.out, HAL.out⟩, HLA.out⟩
end Go.Proofs.YtimbhneegphhbaaGreatDoor.rc
