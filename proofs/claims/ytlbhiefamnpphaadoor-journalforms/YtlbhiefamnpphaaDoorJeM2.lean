import Derived.Test.YtlbhiefamnpphaaDoorJeM
namespace Go.Proofs.YtlbhiefamnpphaaDoor.je
open Go.Proofs.YtlbhiefamnpphaaDoor.common Go.Proofs.YtlbhiefamnpphaaDoor.Jc Go.Proofs.YtlbhiefamnpphaaDoor.jc
set_option maxRecDepth 100000
theorem nm_two {s : List UInt8} {p : Nat} {a b : UInt8} (h : (s.drop p).take 2 = [a, b]) : nmS s p 2 = 10 * ((a.toNat : Int) - 48) + (b.toNat : Int) - 48 := by
  unfold nmS
  rw [h]
  simp [nmF]
theorem mo_three (i : Nat) (h : i < 12) : ∃ M o t : UInt8, moN.getD i [] = [M, o, t] ∧ 65 ≤ M.toNat ∧ M.toNat ≤ 83 ∧ 97 ≤ o.toNat ∧ 97 ≤ t.toNat := by
  match i, h with
  | 0, _ | 1, _ | 2, _ | 3, _ | 4, _ | 5, _ | 6, _ | 7, _ | 8, _ | 9, _ | 10, _ | 11, _ => exact ⟨_, _, _, rfl, by decide, by decide, by decide, by decide⟩
theorem mo_none {s R : List UInt8} {p : Nat} {t : UInt8} (h : s.drop p = t :: R) (ht : 97 ≤ t.toNat) : moS s p = 1 := by
  have e : moN.findIdx? (fun n => n.isPrefixOf (s.drop p)) = none := by
    apply List.findIdx?_eq_none_iff.2
    intro n hn
    have key : (moN.all fun n => match n with | M :: _ => decide (M.toNat ≤ 83) | [] => false) = true := by decide
    have k := List.all_eq_true.1 key n hn
    rw [h]
    match n, k with
    | M :: r, k =>
      have k' : M.toNat ≤ 83 := by simpa using k
      have hne : (M == t) = false := by
        apply beq_false_of_ne
        intro e3; subst e3; omega
      simp [List.isPrefixOf, hne]
  unfold moS
  rw [e]
theorem wrong (k w : Nat) (hk : k < 7) (hw : w < 7) (hne : plc w ≠ plc k) (a b M o t : UInt8) (R S : List UInt8) (hS : S = wdF.getD k [] ++ 44 :: 32 :: a :: b :: 45 :: M :: o :: t :: 45 :: R) :
    (S.drop (plc w)).take 2 = [32, a] ∨ (S.drop (plc w)).take 2 = [44, 32] ∨ (S.drop (plc w)).take 2 = [121, 44] ∨ (S.drop (plc w)).take 2 = [b, 45] ∨ ((S.drop (plc w)).take 2 = [45, M] ∧ S.drop (plc w + 3) = t :: 45 :: R) ∨ (S.drop (plc w)).take 2 = [M, o] := by
  subst hS
  match k, hk with
  | 0, _ | 1, _ | 2, _ | 3, _ | 4, _ | 5, _ | 6, _ =>
    match w, hw with
    | 0, _ | 1, _ | 2, _ | 3, _ | 4, _ | 5, _ | 6, _ => first | exact absurd rfl hne | exact Or.inl rfl | exact Or.inr (Or.inl rfl) | exact Or.inr (Or.inr (Or.inl rfl)) | exact Or.inr (Or.inr (Or.inr (Or.inl rfl))) | exact Or.inr (Or.inr (Or.inr (Or.inr (Or.inl ⟨rfl, rfl⟩)))) | exact Or.inr (Or.inr (Or.inr (Or.inr (Or.inr rfl))))
theorem G2_ok {s : List UInt8} {x : Dt} {L w : Nat} (hw : w < 7) (h : G2 s L w = some x) (e : s = rfcL x) (h1 : 2000 ≤ L) (h2 : L ≤ 9999) : x.y ≤ L ∧ L < x.y + 100 := by
  obtain ⟨hv, hm⟩ := gD_some h
  have hf := hv.fm
  by_cases hp : plc w = plc x.w
  · have e1 := (rfc_at hf e).1
    have ea := hm.ea
    rw [hp, e1, cent_lk _ _ (Nat.mod_lt _ (by decide)) h1 h2] at ea
    have := lk_is (x.y % 100) L (Nat.mod_lt _ (by decide)) (by omega)
    omega
  · exfalso
    have hd31 := (md_most x.y x.m hv.ok.m0 hv.ok.m1).2
    have d0 := hv.ok.d0
    have d1 := hv.ok.d1
    have ec := hm.ec
    have eb := hm.eb
    obtain ⟨M, o, t, em, m1, m2, o1, t1⟩ := mo_three (x.m - 1) (by have := hf.m1; have := hf.m0; omega)
    have ed : dg 2 x.d = [UInt8.ofNat (48 + x.d / 10 % 10), UInt8.ofNat (48 + x.d % 10)] := rfl
    obtain ⟨R, hR⟩ : ∃ R, s = wdF.getD x.w [] ++ 44 :: 32 :: UInt8.ofNat (48 + x.d / 10 % 10) :: UInt8.ofNat (48 + x.d % 10) :: 45 :: M :: o :: t :: 45 :: R := ⟨dg 2 (x.y % 100) ++ [32] ++ tmL x ++ [32, 71, 77, 84], by rw [e]; unfold rfcL; rw [em, ed]; simp⟩
    have ha := dig_to (x.d / 10)
    have hb := dig_to x.d
    have n32 : (32 : UInt8).toNat = 32 := rfl
    have n44 : (44 : UInt8).toNat = 44 := rfl
    have n45 : (45 : UInt8).toNat = 45 := rfl
    have n121 : (121 : UInt8).toNat = 121 := rfl
    rcases wrong x.w w hf.w hw hp _ _ M o t R s hR with k | k | k | k | ⟨k, k2⟩ | k
    · rw [nm_two k, n32, ha] at ec; omega
    · rw [nm_two k, n32, n44] at ec; omega
    · rw [nm_two k, n121, n44] at ec; omega
    · rw [nm_two k, n45, hb] at ec; omega
    · rw [mo_none k2 t1] at eb
      have : x.m = 1 := by omega
      rw [this] at em
      have hM : [M, o, t] = [74, 97, 110] := em.symm
      have hM2 : M = 74 := by injection hM
      have n74 : (74 : UInt8).toNat = 74 := rfl
      rw [nm_two k, n45, hM2, n74] at ec; omega
    · rw [nm_two k] at ec; omega
/-- the document's answer -/
def Ans (s : List UInt8) (L : Nat) : Option Nat → Prop
  | some n => ∃ x, VD x ∧ Says s L x ∧ n = x.sec
  | none => ∀ x, VD x → ¬ Says s L x
/-- the program's answer out of what was read -/
def prS : Option Dt → Option Nat
  | some x => if dateB x.y x.m x.d x.h x.i x.s x.w = true then some x.sec else none
  | none => none
theorem date_vd (x : Dt) : dateB x.y x.m x.d x.h x.i x.s x.w = true ↔ VD x := by
  constructor
  · intro h
    unfold dateB at h
    simp only [Bool.and_eq_true, beq_iff_eq] at h
    have k := mo_of h.1
    have e : dt (x.y : Int) (x.m : Int) (x.d : Int) (x.h : Int) (x.i : Int) (x.s : Int) = { x with w := 0 } := by simp [dt]
    rw [e] at k h
    have hd : Dt.day { x with w := 0 } = x.day := rfl
    rw [hd] at h
    exact ⟨⟨k.ok.y0, k.ok.m0, k.ok.m1, k.ok.d0, k.ok.d1, k.ok.h1, k.ok.i1, k.ok.s1⟩, k.y1, by have := h.2; omega⟩
  · intro h
    unfold dateB
    have hm : momB x.y x.m x.d x.h x.i x.s = true := mom_of (x := x) ⟨h.ok, h.y1, rfl, rfl, rfl, rfl, rfl, rfl⟩
    have e : dt (x.y : Int) (x.m : Int) (x.d : Int) (x.h : Int) (x.i : Int) (x.s : Int) = { x with w := 0 } := by simp [dt]
    have hd : Dt.day { x with w := 0 } = x.day := rfl
    rw [hm, e, hd, ← h.w]
    simp
theorem ans_one {s : List UInt8} {L : Nat} {q : Option Dt} {r : Option Nat} (h : RdO s L q) (k : Ans s L r) : prS q = r := by
  cases q with
  | none =>
    cases r with
    | none => rfl
    | some n => obtain ⟨x, _, h2, _⟩ := k; exact absurd h2 (h x)
  | some x =>
    obtain ⟨h1, h2⟩ := h
    unfold prS
    simp only
    cases r with
    | none =>
      rw [if_neg]
      intro hd
      exact k x ((date_vd x).1 hd) h1
    | some n =>
      obtain ⟨z, kv, ks, rfl⟩ := k
      obtain rfl := h2 z ks
      rw [if_pos ((date_vd z).2 kv)]
/-- the document's forms, one behind the other -/
theorem ans_imf {s : List UInt8} {L : Nat} {x : Dt} (h : G1 s = some x) (e : imfL x = s) : Ans s L (some x.sec) := by
  have hv := (gD_some h).1
  exact ⟨x, hv, ⟨hv.fm, Or.inl e.symm⟩, rfl⟩
theorem not_imf {s : List UInt8} (h : ∀ x, G1 s = some x → imfL x ≠ s) : ∀ x, VD x → s ≠ imfL x := fun x hv e => h x (G1_on hv e) e.symm
theorem ans_rfc {s : List UInt8} {L w : Nat} {x : Dt} (hw : w < 7) (h : G2 s L w = some x) (e : rfcL x = s) (h1 : 2000 ≤ L) (h2 : L ≤ 9999) : Ans s L (some x.sec) := by
  have hv := (gD_some h).1
  exact ⟨x, hv, ⟨hv.fm, Or.inr (Or.inl ⟨e.symm, G2_ok hw h e.symm h1 h2⟩)⟩, rfl⟩
theorem not_rfcD {s : List UInt8} {L : Nat} (h1 : 2000 ≤ L) (h2 : L ≤ 9999) (h : ∀ w, w < 7 → ∀ x, G2 s L w = some x → rfcL x ≠ s) : ∀ x, VD x → x.y ≤ L → L < x.y + 100 → s ≠ rfcL x := fun x hv a b e => h x.w hv.fm.w x (G2_on hv e h1 h2 a b) e.symm
theorem ans_asc {s : List UInt8} {L : Nat} {x : Dt} (bl : Bool) (h : G3 s = some x) (e : ascL bl x = s) : Ans s L (some x.sec) := by
  have hv := (gD_some h).1
  exact ⟨x, hv, ⟨hv.fm, Or.inr (Or.inr (by cases bl; exact Or.inr e.symm; exact Or.inl e.symm))⟩, rfl⟩
theorem ans_none {s : List UInt8} {L : Nat} (n1 : ∀ x, VD x → s ≠ imfL x) (n2 : ∀ x, VD x → x.y ≤ L → L < x.y + 100 → s ≠ rfcL x) (n3 : ∀ x, G3 s = some x → ascL true x ≠ s ∧ ascL false x ≠ s) : Ans s L none := fun x hv hs => by
  obtain ⟨_, k | ⟨k, a, b⟩ | k | k⟩ := hs
  · exact n1 x hv k
  · exact n2 x hv a b k
  · exact (n3 x (G3_on hv k)).1 k.symm
  · exact (n3 x (G3_on hv k)).2 k.symm
end Go.Proofs.YtlbhiefamnpphaaDoor.je
