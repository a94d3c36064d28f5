import Derived.Test.YtkkkgpcdnjijbabDoorRefScopes9
import Derived.Test.YtkkkgpcdnjijbabDoorApartSW
import Derived.Test.YtkkkgpcdnjijbabDoorScopeOrd
namespace Go.Proofs.YtkkkgpcdnjijbabDoor.tm
open Go.ChangeShapes Go.WideShapes Go.ChangeAt Go.RowKit Go.Proofs.YtkkkgpcdnjijbabDoor.common Go.Proofs.YtkkkgpcdnjijbabDoor.bk
open Go.Proofs.YtkkkgpcdnjijbabDoor.ss (joinS tot Lies Room sc same_any lies_of_own)
open Go.Proofs.YtkkkgpcdnjijbabDoor.aps (Mid Marked Three apart_any own_next)
attribute [local go_sem ↓] Go.wp_at_zero Go.wp_at_succ

theorem own_mid {B0 B1 : Nat} {w w' : World} {e : TypeId} {size : Nat} {v : Value} {n : Nat} {xs : List Value} (h : w.ownsRow B1 e size v n xs) (hm : Mid B0 B1 w w') : w'.ownsRow B1 e size v n xs := by
  refine ⟨h.1, ?_⟩
  rcases h.2 with h2 | ⟨g, cap, cur, hv, hg, hh, r⟩
  · exact Or.inl h2
  · exact Or.inr ⟨g, cap, cur, hv, hg, by rw [hm.block g (Array.getElem?_eq_some_iff.1 hh).1 (Or.inr hg)]; exact hh, r⟩

/-- the three lists, by number -/
def pick (a b c : Value) (i : Nat) : Value := if i = 0 then a else if i = 1 then b else c
def pickN (a b c : Nat) (i : Nat) : Nat := if i = 0 then a else if i = 1 then b else c

theorem three_of {w w1 w2 w3 : World} {e : TypeId} {a b c : Value} {la lb lc : List ByteArray} (ha : w1.ownsRow w.heap.size e 1 a la.length (sc la)) (hb : w2.ownsRow w1.heap.size e 1 b lb.length (sc lb)) (hc : w3.ownsRow w2.heap.size e 1 c lc.length (sc lc))
    (h1 : w.heap.size ≤ w1.heap.size) (h2 : w1.heap.size ≤ w2.heap.size) (h3 : w2.heap.size ≤ w3.heap.size) : Three w.heap.size w3.heap.size (pick a b c) := by
  have ra := ha.lt
  have rb := hb.lt
  have rc := hc.lt
  have rng : ∀ i, i < 3 → ∀ g, (pick a b c i).ownBlock = some g → (i = 0 ∧ w.heap.size ≤ g ∧ g < w1.heap.size) ∨ (i = 1 ∧ w1.heap.size ≤ g ∧ g < w2.heap.size) ∨ (i = 2 ∧ w2.heap.size ≤ g ∧ g < w3.heap.size) := by
    intro i hi g hg
    rcases (show i = 0 ∨ i = 1 ∨ i = 2 by omega) with rfl | rfl | rfl
    · have := ra g hg; omega
    · have := rb g hg; omega
    · have := rc g hg; omega
  refine ⟨fun i j hi hj hij => ?_, fun i hi g hg => by have := rng i hi g hg; omega⟩
  cases hg : (pick a b c i).ownBlock with
  | none => exact Or.inl rfl
  | some g =>
    right
    intro he
    have q1 := rng i hi g hg
    have q2 := rng j hj g he.symm
    omega

theorem marked_of {B0 : Nat} {e : TypeId} {w : World} {a b c : Value} {la lb lc : List ByteArray} (ha : w.ownsRow B0 e 1 a la.length (sc la)) (hb : w.ownsRow B0 e 1 b lb.length (sc lb)) (hc : w.ownsRow B0 e 1 c lc.length (sc lc)) :
    Marked B0 e (pick a b c) (pickN la.length lb.length lc.length) (fun _ => 0) w := by
  intro j hj
  rcases (show j = 0 ∨ j = 1 ∨ j = 2 by omega) with rfl | rfl | rfl
  · exact ⟨la, rfl, fun t _ h => absurd h (Nat.not_lt_zero _), ha⟩
  · exact ⟨lb, rfl, fun t _ h => absurd h (Nat.not_lt_zero _), hb⟩
  · exact ⟨lc, rfl, fun t _ h => absurd h (Nat.not_lt_zero _), hc⟩


theorem own_form {w : World} {base : Nat} {e : TypeId} {size : Nat} {v : Value} {n : Nat} {xs : List Value} (h : w.ownsRow base e size v n xs) : ∃ oa cap, v = .slice oa n cap := by
  rcases h.2 with ⟨h, h0⟩ | ⟨g, cap, cur, h, _⟩
  · exact ⟨none, 0, by rw [h, h0]⟩
  · exact ⟨_, cap, h⟩
theorem num_is (s : ByteArray) (w : World) (e : Nat → Addr) (h : errw.Errs w e) : Calls Tryd.prog 14 #[scE (errw.E e 1) (errw.E e 2) s] w fun x w' => x = .returned (.int .i64 (scN s)) ∧ w' = w := by
  unfold scE scN
  cases areSc s with
  | false => exact errw.num_1 w e h
  | true => cases many s with
    | false => exact errw.num_nil w
    | true => exact errw.num_2 w e h
theorem scL_len (s : ByteArray) : (scL s).length ≤ 16 := by
  unfold scL many
  split
  · rename_i hh
    simp at hh
    exact hh.2
  · simp
def abL : List ByteArray := [⟨#[97]⟩, ⟨#[98]⟩]
theorem good_ba (eT eM : Value) : scE eT eM ⟨#[98, 32, 97]⟩ = .nilIface ∧ scL ⟨#[98, 32, 97]⟩ = abL := by
  have ep : tsq.parts 32 ⟨#[98, 32, 97]⟩ = [⟨#[98]⟩, ⟨#[97]⟩] := rfl
  have ea : areSc ⟨#[98, 32, 97]⟩ = true := rfl
  have hr : rise [[98], [97]] = [[97], [98]] := by
    apply Tm.rising_one _ _ (Tm.rise_spec _).1 (by decide)
    intro x
    rw [(Tm.rise_spec _).2 x]
    simp only [List.mem_cons, List.not_mem_nil, or_false]
    constructor
    · rintro (h | h) <;> simp [h]
    · rintro (h | h) <;> simp [h]
  have er : riseB (tsq.parts 32 ⟨#[98, 32, 97]⟩) = abL := by
    rw [ep]
    unfold riseB
    rw [show raw [(⟨#[98]⟩ : ByteArray), ⟨#[97]⟩] = [[98], [97]] from rfl, hr]; rfl
  constructor
  · unfold scE many; rw [ea, er]; rfl
  · unfold scL many; rw [ea, er]; rfl

set_option maxRecDepth 100000 in
set_option maxHeartbeats 12800000 in
theorem lawScopes (s : ByteArray) (w : World) (hs : s.size ≤ 1048600) (e : Nat → Addr) (he : errw.Errs w e) (hm : ∃ m : Int, w.cell? ⟨15, 0, none⟩ = some (.int .i64 m)) :
    Calls Tryd.prog 4 #[.string s] w fun e w' => e = .returned (.bool true) ∧ Below w.heap.size w w' := by
  have HE := hide he
  have HS := hide (errs_env he hm)
  have HPR : Hid (∀ X, Below w.heap.size w X → Calls Tryd.prog 12 #[.string s] X fun x X' => ∃ v, x = .returned (.tuple #[v, scE (errw.E e 1) (errw.E e 2) s]) ∧ X'.ownsRow X.heap.size 9 1 v (scL s).length (sc (scL s)) ∧ Below X.heap.size X X') := fun X hX => scopes_any _ _ _ X (HS.out.below hX) (by omega)
  have HPB : Hid (∀ X, Below w.heap.size w X → Calls Tryd.prog 12 #[.string ⟨#[98, 32, 97]⟩] X fun x X' => ∃ v, x = .returned (.tuple #[v, .nilIface]) ∧ X'.ownsRow X.heap.size 9 1 v abL.length (sc abL) ∧ Below X.heap.size X X') := fun X hX => by
    have h := scopes_any (errw.E e 1) (errw.E e 2) ⟨#[98, 32, 97]⟩ X (HS.out.below hX) (by decide)
    rw [(good_ba _ _).1, (good_ba (errw.E e 1) (errw.E e 2)).2] at h
    exact h
  have HRF : Hid (∀ X, Calls Tryd.prog 13 #[.string s] X fun x X' => ∃ v, x = .returned (.tuple #[v, .int .i64 (scN s)]) ∧ X'.ownsRow X.heap.size 9 1 v (scL s).length (sc (scL s)) ∧ Below X.heap.size X X') := fun X => refScopes_any s X (by omega)
  have HNR : Hid (∀ X, Below w.heap.size w X → Calls Tryd.prog 14 #[scE (errw.E e 1) (errw.E e 2) s] X fun x X' => x = .returned (.int .i64 (scN s)) ∧ X' = X) := fun X hX => num_is s X e (HE.out.below hX)
  have hlen := scL_len s
  clear he hm
  generalize scL s = L at *
  generalize scE (errw.E e 1) (errw.E e 2) s = E at *
  generalize scN s = N at *
  go_enter Tryd.func4, Tryd.ntmps4
  go_wp2_with fail
  refine (HPR.out w (Below.refl _ _)).mono ?_
  rintro x w1 ⟨v1, rfl, ho1, hb1⟩
  have O1 := hide ho1
  have B1 := hide hb1
  clear ho1 hb1
  go_wp2_with fail
  refine (HPB.out w1 B1.out).mono ?_
  rintro x w2 ⟨v2, rfl, ho2, hb2⟩
  have O2 := hide ho2
  have B2 := hide hb2
  have A2 := hide (keepD B1.out hb2)
  clear ho2 hb2
  go_wp2_with fail
  refine (HPR.out w2 A2.out).mono ?_
  rintro x w3 ⟨v3, rfl, ho3, hb3⟩
  have O3 := hide ho3
  have B3 := hide hb3
  have A3 := hide (keepD A2.out hb3)
  clear ho3 hb3
  go_wp2_with fail
  refine (HRF.out w3).mono ?_
  rintro x w4 ⟨v4, rfl, ho4, hb4⟩
  have O4 := hide ho4
  have B4 := hide hb4
  have A4 := hide (keepD A3.out hb4)
  clear ho4 hb4
  have O14 := hide (own_next (own_next (own_next O1.out B2.out) B3.out) B4.out)
  have O24 := hide (own_next (own_next O2.out B3.out) B4.out)
  have O34 := hide (own_next O3.out B4.out)
  have HL1 := hide (lies_of_own O14.out)
  have HL2 := hide (lies_of_own O24.out)
  have HL3 := hide (lies_of_own O34.out)
  have HL4 := hide (lies_of_own O4.out)
  have HT := hide (three_of O1.out O2.out O3.out B1.out.size B2.out.size B3.out.size)
  have HN4 := hide (HNR.out w4 A4.out)
  have HAB : Hid (∀ X : World, Lies (X.alloc (.cells #[.string ⟨#[97]⟩, .string ⟨#[98]⟩] 9)) (.slice (some ⟨X.heap.size, 0, none⟩) 2 2) abL) := by
    intro X
    refine ⟨_, 2, rfl, fun i hi => ⟨X.heap.size, 0, rfl, by simp, ?_⟩⟩
    have hi2 : i < 2 := hi
    rw [Nat.zero_add]
    rcases (show i = 0 ∨ i = 1 by omega) with rfl | rfl
    · exact range_new X #[.string ⟨#[97]⟩, .string ⟨#[98]⟩] _ 0 _ rfl
    · exact range_new X #[.string ⟨#[97]⟩, .string ⟨#[98]⟩] _ 1 _ rfl
  go_wp2_with (go_at_call 14; refine HN4.out.mono ?_; rintro x w5 ⟨rfl, hw5⟩; obtain rfl := hw5.symm)
  refine (same_any _ _ L _ HL1.out HL4.out (by omega)).mono ?_
  rintro x w7 ⟨rfl, hb7⟩
  have Z7 := hide hb7
  clear hb7
  go_wp2_with fail
  refine (same_any _ _ L _ (HL3.out.below Z7.out) (HL4.out.below Z7.out) (by omega)).mono ?_
  rintro x w8 ⟨rfl, hb8⟩
  have Z8 := hide (keepD Z7.out hb8)
  clear hb8 Z7
  go_wp2_with fail
  have Z9 := hide (keepD Z8.out ((Below.refl w8.heap.size w8).alloc (Nat.le_refl _) (.cells #[.string ⟨#[97]⟩, .string ⟨#[98]⟩] 9)))
  refine (same_any _ _ abL _ (HL2.out.below Z9.out) (HAB.out w8) (by decide)).mono ?_
  rintro x w10 ⟨rfl, hb10⟩
  have Z10 := hide (keepD Z9.out hb10)
  clear hb10 Z9 Z8
  obtain ⟨oa1, cp1, rfl⟩ := own_form O1.out
  obtain ⟨oa2, cp2, rfl⟩ := own_form O2.out
  obtain ⟨oa3, cp3, rfl⟩ := own_form O3.out
  obtain ⟨oa4, cp4, rfl⟩ := own_form O4.out
  go_wp2_with fail
  obtain ⟨X, hX⟩ : ∃ X, w10.alloc (.cells #[.slice oa1 L.length cp1, .slice oa2 abL.length cp2, .slice oa3 L.length cp3] 25) = X := ⟨_, rfl⟩
  have ZX : Hid (Below w10.heap.size w10 X) := by rw [← hX]; exact (Below.refl _ _).alloc (Nat.le_refl _) _
  have hXs : w10.heap.size < X.heap.size := by rw [← hX]; simp
  have HCX : Hid (∀ i, i < 3 → X.cell? ⟨w10.heap.size, i, none⟩ = some (pick (.slice oa1 L.length cp1) (.slice oa2 abL.length cp2) (.slice oa3 L.length cp3) i)) := by
    intro i hi
    have hN := fun j u h => range_new w10 #[.slice oa1 L.length cp1, .slice oa2 abL.length cp2, .slice oa3 L.length cp3] 25 j u h
    rw [hX] at hN
    rcases (show i = 0 ∨ i = 1 ∨ i = 2 by omega) with rfl | rfl | rfl
    · exact hN 0 _ rfl
    · exact hN 1 _ rfl
    · exact hN 2 _ rfl
  first | rw [hX] | (have hX' := hX; simp only [abL] at hX'; rw [hX'])
  clear hX
  have Z4X := hide (keepD Z10.out ZX.out)
  have Z0X := hide (keepD A4.out Z4X.out)
  have q1 := B1.out.size
  have q2 := B2.out.size
  have q3 := B3.out.size
  have q4 := B4.out.size
  have q10 := Z10.out.size
  have HMX : Hid (Marked w.heap.size 9 (pick (.slice oa1 L.length cp1) (.slice oa2 abL.length cp2) (.slice oa3 L.length cp3)) (pickN L.length abL.length L.length) (fun _ => 0) X) :=
    marked_of (own_next O14.out Z4X.out) (own_mono (own_next O24.out Z4X.out) q1) (own_mono (own_next O34.out Z4X.out) (Nat.le_trans q1 q2))
  refine (apart_any w.heap.size w3.heap.size w10.heap.size 3 _ _ X HT.out (fun i _ => by unfold pickN; split; omega; split; decide; omega) ⟨by omega, hXs⟩ HCX.out HMX.out (by omega)).mono ?_
  rintro x w11 ⟨rfl, hmid⟩
  have O4e := hide (own_mid (own_next O4.out Z4X.out) hmid)
  have Z11 := hide (Z0X.out.trans (hmid.low (by have := Z0X.out.size; omega)))
  clear hmid HCX HMX
  go_wp2_with fail
  refine (HPR.out w11 Z11.out).mono ?_
  rintro x w12 ⟨v5, rfl, ho12, hb12⟩
  have HL5 := hide (lies_of_own ho12)
  have HL4e := hide (lies_of_own (own_next O4e.out hb12))
  have Z12 := hide (keepD Z11.out hb12)
  obtain ⟨oa5, cp5, rfl⟩ := own_form ho12
  clear hb12 ho12
  have HN5 := hide (HNR.out w12 Z12.out)
  go_wp2_with (first
    | (go_at_call 14; refine HN5.out.mono ?_; rintro x w13 ⟨rfl, hw13⟩; obtain rfl := hw13.symm)
    | (go_at_call 15; refine (same_any _ _ L _ HL5.out HL4e.out (by omega)).mono ?_; rintro x w14 ⟨rfl, hb14⟩; have Z14 := hide (keepD Z12.out hb14); clear hb14))
  go_ret
  exact ⟨by first | rfl | simp, Z14.out⟩

end Go.Proofs.YtkkkgpcdnjijbabDoor.tm
