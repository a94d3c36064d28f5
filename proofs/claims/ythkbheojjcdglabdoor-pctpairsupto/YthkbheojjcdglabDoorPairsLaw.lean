import Derived.Test.YthkbheojjcdglabDoorRefPairsAll
import Derived.Test.YthkbheojjcdglabDoorApartWalk
import Derived.Test.YthkbheojjcdglabDoorErrWalks
import Derived.Test.YthkbheojjcdglabDoorPctJoinLaw
import Derived.Test.YthkbheojjcdglabDoorKeptWalks
namespace Go.Proofs.YthkbheojjcdglabDoor.pctw
open Go.ChangeShapes Go.WideShapes Go.ChangeAt Go.RowKit Go.Proofs.YthkbheojjcdglabDoor.common
open Go.Proofs.YthkbheojjcdglabDoor.lst (PB Lies cl cl_app cl_len infoP same_any lies_of_own own_below row_of_own own_ge Mid Marked Three apart_any own_next keepD)
open Go.Proofs.YthkbheojjcdglabDoor.errw (Errs E num_nil num_1 num_2)
attribute [local go_sem ↓] Go.wp_at_zero Go.wp_at_succ

/-- what a text reads as, and the number of its refusal -/
def res (s : ByteArray) : List PB × Nat :=
  if 33 ≤ (Pct.pieces s.data.toList).length then ([], 3) else
    match Pct.pairAll (Pct.pieces s.data.toList) with
    | none => ([], 2)
    | some q => (q.map mk, 0)
/-- the refusal of a number -/
def errV (e : Nat → Addr) (k : Nat) : Value := if k = 0 then .nilIface else E e (k - 1)

theorem res_len (s : ByteArray) : (res s).1.length ≤ 32 := by
  unfold res
  split
  · exact Nat.zero_le _
  · rename_i h
    split
    · exact Nat.zero_le _
    · rename_i q hq
      have := Pct.pairAll_len hq
      simp only [List.length_map]
      omega
theorem res_num (s : ByteArray) : (res s).2 = 0 ∨ (res s).2 = 2 ∨ (res s).2 = 3 := by
  unfold res
  split
  · exact Or.inr (Or.inr rfl)
  · split
    · exact Or.inr (Or.inl rfl)
    · exact Or.inl rfl

theorem txt_of {w : World} {e : Nat → Addr} (h : Errs w e) : Txt w (e 1) := h.cell 1 (by decide)
theorem mny_of {w : World} {e : Nat → Addr} (h : Errs w e) : Mny w (e 2) := h.cell 2 (by decide)

theorem pairs_res (s : ByteArray) (w : World) (hs : s.size ≤ reachBytes) (e : Nat → Addr) (h : Errs w e) :
    Calls Tryd.prog 14 #[.string s] w fun x w' => Below w.heap.size w w' ∧ ∃ v, x = .returned (.tuple #[v, errV e (res s).2]) ∧ w'.ownsRow w.heap.size 34 2 v (res s).1.length (cl (res s).1) := by
  refine (pairs_any s w hs (e 1) (e 2) (txt_of h) (mny_of h)).mono ?_
  rintro x w' ⟨hb, ⟨h1, rfl⟩ | ⟨h1, h2, rfl⟩ | ⟨h1, q, v, h2, rfl, h3⟩⟩
  · have hr : res s = ([], 3) := by unfold res; rw [if_pos h1]
    rw [hr]
    exact ⟨hb, _, rfl, World.ownsRow_nil _ _ _ _⟩
  · have hr : res s = ([], 2) := by unfold res; rw [if_neg (by omega), h2]
    rw [hr]
    exact ⟨hb, _, rfl, World.ownsRow_nil _ _ _ _⟩
  · have hr : res s = (q.map mk, 0) := by unfold res; rw [if_neg (by omega), h2]
    rw [hr]
    exact ⟨hb, _, rfl, h3⟩
theorem refPairs_res (s : ByteArray) (w : World) (hs : s.size ≤ 1048576) :
    Calls Tryd.prog 19 #[.string s] w fun x w' => Below w.heap.size w w' ∧ ∃ v, x = .returned (.tuple #[v, .int .i64 ((res s).2 : Nat)]) ∧ w'.ownsRow w.heap.size 34 2 v (res s).1.length (cl (res s).1) := by
  refine (refPairs_any s w hs).mono ?_
  rintro x w' ⟨hb, ⟨h1, rfl⟩ | ⟨h1, h2, rfl⟩ | ⟨h1, q, v, h2, rfl, h3⟩⟩
  · have hr : res s = ([], 3) := by unfold res; rw [if_pos h1]
    rw [hr]
    exact ⟨hb, _, rfl, World.ownsRow_nil _ _ _ _⟩
  · have hr : res s = ([], 2) := by unfold res; rw [if_neg (by omega), h2]
    rw [hr]
    exact ⟨hb, _, rfl, World.ownsRow_nil _ _ _ _⟩
  · have hr : res s = (q.map mk, 0) := by unfold res; rw [if_neg (by omega), h2]
    rw [hr]
    exact ⟨hb, _, rfl, h3⟩
theorem num_res (s : ByteArray) (w : World) (e : Nat → Addr) (h : Errs w e) :
    Calls Tryd.prog 20 #[errV e (res s).2] w fun x w' => x = .returned (.int .i64 ((res s).2 : Nat)) ∧ Below w.heap.size w w' := by
  rcases res_num s with hk | hk | hk <;> rw [hk]
  · exact (num_nil w).mono fun x w' ⟨h1, h2⟩ => ⟨h1, by rw [h2]; exact Below.refl _ _⟩
  · exact (num_1 w e h).mono fun x w' ⟨h1, h2⟩ => ⟨h1, by rw [h2]; exact Below.refl _ _⟩
  · exact (num_2 w e h).mono fun x w' ⟨h1, h2⟩ => ⟨h1, by rw [h2]; exact Below.refl _ _⟩

def ab : ByteArray := ⟨#[97, 61, 49, 38, 98, 61, 50]⟩
def abL : List PB := [(⟨#[97]⟩, ⟨#[49]⟩), (⟨#[98]⟩, ⟨#[50]⟩)]
theorem res_ab : res ab = (abL, 0) := by
  have hp : Pct.pieces ab.data.toList = [[97, 61, 49], [98, 61, 50]] := by decide
  have h1 : Pct.pair [97, 61, 49] = some ([97], [49]) := Pct.pair_shown ([97], [49])
  have h2 : Pct.pair [98, 61, 50] = some ([98], [50]) := Pct.pair_shown ([98], [50])
  unfold res
  rw [hp, if_neg (by decide), Pct.pairAll_cons, h1, Pct.pairAll_cons, h2]
  rfl

theorem two_any (w : World) : Calls Tryd.prog 21 #[] w fun x w' => ∃ v, x = .returned v ∧ Lies w' v abL ∧ Below w.heap.size w w' := by
  go_enter Tryd.func21, Tryd.ntmps21
  go_wp2_with fail
  go_ret
  refine ⟨_, rfl, ⟨some ⟨w.heap.size, 0, none⟩, 2, rfl, fun i hi => ?_⟩, (Below.refl _ _).alloc (Nat.le_refl _) _⟩
  have hN := fun j u h => range_new w #[.string ⟨#[97]⟩, .string ⟨#[49]⟩, .string ⟨#[98]⟩, .string ⟨#[50]⟩] 34 j u h
  refine ⟨w.heap.size, 0, rfl, by simp, ?_⟩
  rcases (show i = 0 ∨ i = 1 by simp [abL] at hi; omega) with rfl | rfl
  · exact ⟨hN 0 _ rfl, hN 1 _ rfl⟩
  · exact ⟨hN 2 _ rfl, hN 3 _ rfl⟩

theorem own_mid {B0 B1 : Nat} {w w' : World} {e : TypeId} {size : Nat} {v : Value} {n : Nat} {xs : List Value} (h : w.ownsRow B1 e size v n xs) (hm : Mid B0 B1 w w') : w'.ownsRow B1 e size v n xs := by
  refine ⟨h.1, ?_⟩
  rcases h.2 with h2 | ⟨g, cap, cur, hv, hg, hh, r⟩
  · exact Or.inl h2
  · exact Or.inr ⟨g, cap, cur, hv, hg, by rw [hm.block g (Array.getElem?_eq_some_iff.1 hh).1 (Or.inr hg)]; exact hh, r⟩

theorem own_form {w : World} {base : Nat} {e : TypeId} {size : Nat} {v : Value} {n : Nat} {xs : List Value} (h : w.ownsRow base e size v n xs) : ∃ oa cap, v = .slice oa n cap := by
  rcases h.2 with ⟨h, h0⟩ | ⟨g, cap, cur, h, _⟩
  · exact ⟨none, 0, by rw [h, h0]⟩
  · exact ⟨_, cap, h⟩

/-- the three lists, by number -/
def pick (a b c : Value) (i : Nat) : Value := if i = 0 then a else if i = 1 then b else c
def pickN (a b c : Nat) (i : Nat) : Nat := if i = 0 then a else if i = 1 then b else c

theorem three_of {w w1 w2 w3 : World} {e : TypeId} {a b c : Value} {la lb lc : List PB} (ha : w1.ownsRow w.heap.size e 2 a la.length (cl la)) (hb : w2.ownsRow w1.heap.size e 2 b lb.length (cl lb)) (hc : w3.ownsRow w2.heap.size e 2 c lc.length (cl lc))
    (h1 : w.heap.size ≤ w1.heap.size) (h2 : w1.heap.size ≤ w2.heap.size) (h3 : w2.heap.size ≤ w3.heap.size) : Three w.heap.size w3.heap.size (pick a b c) := by
  have ra := ha.lt
  have rb := hb.lt
  have rc := hc.lt
  have rng : ∀ i, i < 3 → ∀ g, (pick a b c i).ownBlock = some g → (i = 0 ∧ w.heap.size ≤ g ∧ g < w1.heap.size) ∨ (i = 1 ∧ w1.heap.size ≤ g ∧ g < w2.heap.size) ∨ (i = 2 ∧ w2.heap.size ≤ g ∧ g < w3.heap.size) := by
    intro i hi g hg
    rcases (show i = 0 ∨ i = 1 ∨ i = 2 by omega) with rfl | rfl | rfl
    · have := ra g hg; omega
    · have := rb g hg; omega
    · have := rc g hg; omega
  refine ⟨fun i j hi hj hij => ?_, fun i hi g hg => by have := rng i hi g hg; omega⟩
  cases hg : (pick a b c i).ownBlock with
  | none => exact Or.inl rfl
  | some g =>
    right
    intro he
    have q1 := rng i hi g hg
    have q2 := rng j hj g he.symm
    omega

theorem marked_of {B0 : Nat} {e : TypeId} {w : World} {a b c : Value} {la lb lc : List PB} (ha : w.ownsRow B0 e 2 a la.length (cl la)) (hb : w.ownsRow B0 e 2 b lb.length (cl lb)) (hc : w.ownsRow B0 e 2 c lc.length (cl lc)) :
    Marked B0 e (pick a b c) (pickN la.length lb.length lc.length) (fun _ => 0) w := by
  intro j hj
  rcases (show j = 0 ∨ j = 1 ∨ j = 2 by omega) with rfl | rfl | rfl
  · exact ⟨la, rfl, fun t _ h => absurd h (Nat.not_lt_zero _), ha⟩
  · exact ⟨lb, rfl, fun t _ h => absurd h (Nat.not_lt_zero _), hb⟩
  · exact ⟨lc, rfl, fun t _ h => absurd h (Nat.not_lt_zero _), hc⟩

set_option maxRecDepth 100000 in
set_option maxHeartbeats 6400000 in
theorem lawPairs (s : ByteArray) (w : World) (hs : s.size ≤ 1048576) (e : Nat → Addr) (he : Errs w e) :
    Calls Tryd.prog 7 #[.string s] w fun x w' => x = .returned (.bool true) ∧ Below w.heap.size w w' := by
  have HS := hide hs
  have HR : Hid (s.size ≤ reachBytes) := by show _ ≤ _; unfold reachBytes; omega
  have HE := hide he
  clear hs he
  go_enter Tryd.func7, Tryd.ntmps7
  go_wp2_with fail
  refine (pairs_res s w HR.out e HE.out).mono ?_
  rintro x w1 ⟨hb1, v1, rfl, ho1⟩
  have B1 := hide hb1
  have O1 := hide ho1
  clear hb1 ho1
  have hr := res_num s
  have hlen := res_len s
  have HNR : Hid (∀ W, Errs W e → Calls Tryd.prog 20 #[errV e (res s).2] W fun x w' => x = .returned (.int .i64 ((res s).2 : Nat)) ∧ Below W.heap.size W w') := fun W h => num_res s W e h
  have HPR : Hid (∀ W, Errs W e → Calls Tryd.prog 14 #[.string s] W fun x w' => Below W.heap.size W w' ∧ ∃ v, x = .returned (.tuple #[v, errV e (res s).2]) ∧ w'.ownsRow W.heap.size 34 2 v (res s).1.length (cl (res s).1)) := fun W h => pairs_res s W HR.out e h
  have HPF : Hid (∀ W, Calls Tryd.prog 19 #[.string s] W fun x w' => Below W.heap.size W w' ∧ ∃ v, x = .returned (.tuple #[v, .int .i64 ((res s).2 : Nat)]) ∧ w'.ownsRow W.heap.size 34 2 v (res s).1.length (cl (res s).1)) := fun W => refPairs_res s W HS.out
  generalize res s = rs at *
  obtain ⟨L, f⟩ := rs
  dsimp only at hr hlen O1 HNR HPR HPF ⊢
  have hf : (f : Int) ≤ 3 := by omega
  clear hr
  generalize errV e f = ev at *
  go_wp2_with fail
  have E1 := hide (HE.out.below B1.out)
  refine (pairs_res ab w1 (by decide) e E1.out).mono ?_
  rintro x w2 ⟨hb2, v2, rfl, ho2⟩
  rw [res_ab] at ho2 ⊢
  have B2 := hide hb2
  have O2 : Hid (w2.ownsRow w1.heap.size 34 2 v2 abL.length (cl abL)) := ho2
  clear hb2 ho2
  have E2 := hide (E1.out.below B2.out)
  rw [show errV e (abL, 0).2 = .nilIface from rfl]
  go_wp2_with fail
  refine (HPR.out w2 E2.out).mono ?_
  rintro x w3 ⟨hb3, v3, rfl, ho3⟩
  have B3 := hide hb3
  have O3 := hide ho3
  clear hb3 ho3
  have E3 := hide (E2.out.below B3.out)
  go_wp2_with fail
  refine (HPF.out w3).mono ?_
  rintro x w4 ⟨hb4, v4, rfl, ho4⟩
  have B4 := hide hb4
  have O4 := hide ho4
  clear hb4 ho4
  have E4 := hide (E3.out.below B4.out)
  have O14 := hide (own_next (own_next (own_next O1.out B2.out) B3.out) B4.out)
  have O24 := hide (own_next (own_next O2.out B3.out) B4.out)
  have O34 := hide (own_next O3.out B4.out)
  have Z04 := hide (keepD (keepD (keepD B1.out B2.out) B3.out) B4.out)
  have HL1 := hide (lies_of_own O14.out)
  have HL2 := hide (lies_of_own O24.out)
  have HL3 := hide (lies_of_own O34.out)
  have HL4 := hide (lies_of_own O4.out)
  have HT := hide (three_of O1.out O2.out O3.out B1.out.size B2.out.size B3.out.size)
  go_wp2_with fail
  refine (HNR.out _ E4.out).mono ?_
  rintro x w5 ⟨rfl, hb5⟩
  have Z5 := hide hb5
  clear hb5
  go_wp2_with fail
  refine (HNR.out _ (E4.out.below Z5.out)).mono ?_
  rintro x w6 ⟨rfl, hb6⟩
  have Z6 := hide (keepD Z5.out hb6)
  clear hb6 Z5
  go_wp2_with fail
  refine (same_any _ _ L _ (HL1.out.below Z6.out) (HL4.out.below Z6.out) (by omega)).mono ?_
  rintro x w7 ⟨rfl, hb7⟩
  have Z7 := hide (keepD Z6.out hb7)
  clear hb7 Z6
  go_wp2_with fail
  refine (same_any _ _ L _ (HL3.out.below Z7.out) (HL4.out.below Z7.out) (by omega)).mono ?_
  rintro x w8 ⟨rfl, hb8⟩
  have Z8 := hide (keepD Z7.out hb8)
  clear hb8 Z7
  go_wp2_with fail
  refine (two_any _).mono ?_
  rintro x w9 ⟨vt, rfl, hlt9, hb9⟩
  have Z9 := hide (keepD Z8.out hb9)
  have HT9 := hide hlt9
  clear hb9 hlt9 Z8
  go_wp2_with fail
  refine (same_any _ _ abL _ (HL2.out.below Z9.out) HT9.out (by decide)).mono ?_
  rintro x w10 ⟨rfl, hb10⟩
  have Z10 := hide (keepD Z9.out hb10)
  clear hb10 Z9 HT9
  obtain ⟨oa1, cp1, rfl⟩ := own_form O1.out
  obtain ⟨oa2, cp2, rfl⟩ := own_form O2.out
  obtain ⟨oa3, cp3, rfl⟩ := own_form O3.out
  obtain ⟨oa4, cp4, rfl⟩ := own_form O4.out
  go_wp2_with fail
  obtain ⟨X, hX⟩ : ∃ X, w10.alloc (.cells #[.slice oa1 L.length cp1, .slice oa2 abL.length cp2, .slice oa3 L.length cp3] 22) = X := ⟨_, rfl⟩
  have ZX : Hid (Below w10.heap.size w10 X) := by rw [← hX]; exact (Below.refl _ _).alloc (Nat.le_refl _) _
  have hXs : w10.heap.size < X.heap.size := by rw [← hX]; simp
  have HCX : Hid (∀ i, i < 3 → X.cell? ⟨w10.heap.size, i, none⟩ = some (pick (.slice oa1 L.length cp1) (.slice oa2 abL.length cp2) (.slice oa3 L.length cp3) i)) := by
    intro i hi
    have hN := fun j u h => range_new w10 #[.slice oa1 L.length cp1, .slice oa2 abL.length cp2, .slice oa3 L.length cp3] 22 j u h
    rw [hX] at hN
    rcases (show i = 0 ∨ i = 1 ∨ i = 2 by omega) with rfl | rfl | rfl
    · exact hN 0 _ rfl
    · exact hN 1 _ rfl
    · exact hN 2 _ rfl
  rw [hX]
  clear hX
  have Z4X := hide (keepD Z10.out ZX.out)
  have Z0X := hide (keepD Z04.out Z4X.out)
  have q1 := B1.out.size
  have q2 := B2.out.size
  have q3 := B3.out.size
  have q4 := B4.out.size
  have q10 := Z10.out.size
  have HMX : Hid (Marked w.heap.size 34 (pick (.slice oa1 L.length cp1) (.slice oa2 abL.length cp2) (.slice oa3 L.length cp3)) (pickN L.length abL.length L.length) (fun _ => 0) X) :=
    marked_of (own_next O14.out Z4X.out) (own_mono (own_next O24.out Z4X.out) q1) (own_mono (own_next O34.out Z4X.out) (Nat.le_trans q1 q2))
  refine (apart_any w.heap.size w3.heap.size w10.heap.size 3 _ _ X HT.out (fun i _ => by unfold pickN; split; exact hlen; split; decide; exact hlen) ⟨by omega, hXs⟩ HCX.out HMX.out (by omega)).mono ?_
  rintro x w11 ⟨rfl, hmid⟩
  have O4e := hide (own_mid (own_next O4.out Z4X.out) hmid)
  have Z11 := hide (Z0X.out.trans (hmid.low (by omega)))
  clear hmid HCX HMX
  go_wp2_with fail
  refine (HPR.out w11 (HE.out.below Z11.out)).mono ?_
  rintro x w12 ⟨hb12, v5, rfl, ho12⟩
  have HL5 := hide (lies_of_own ho12)
  have HL4e := hide (lies_of_own (own_next O4e.out hb12))
  have Z12 := hide (keepD Z11.out hb12)
  obtain ⟨oa5, cp5, rfl⟩ := own_form ho12
  clear hb12 ho12
  go_wp2_with fail
  refine (HNR.out _ (HE.out.below Z12.out)).mono ?_
  rintro x w13 ⟨rfl, hb13⟩
  have Z13 := hide (keepD Z12.out hb13)
  have HL5e := hide (HL5.out.below hb13)
  have HL4f := hide (HL4e.out.below hb13)
  clear hb13
  go_wp2_with fail
  refine (same_any _ _ L _ HL5e.out HL4f.out (by omega)).mono ?_
  rintro x w14 ⟨rfl, hb14⟩
  have Z14 := hide (keepD Z13.out hb14)
  clear hb14
  go_wp2_with fail
  go_ret
  exact ⟨by simp, Z14.out⟩

end Go.Proofs.YthkbheojjcdglabDoor.pctw
