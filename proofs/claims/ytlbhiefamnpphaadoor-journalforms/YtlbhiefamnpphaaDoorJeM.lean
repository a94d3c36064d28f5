import Derived.Test.YtlbhiefamnpphaaDoorJeW1
namespace Go.Proofs.YtlbhiefamnpphaaDoor.je
open Go.Proofs.YtlbhiefamnpphaaDoor.common Go.Proofs.YtlbhiefamnpphaaDoor.Jc Go.Proofs.YtlbhiefamnpphaaDoor.jc
set_option maxRecDepth 100000
/-- a date with its weekday -/
structure VD (x : Dt) : Prop where
  ok : Ok x
  y1 : x.y ≤ 9999
  w : x.w = (4 + x.day) % 7
theorem VD.fm {x : Dt} (h : VD x) : Fm x := by
  have hd := (md_most x.y x.m h.ok.m0 h.ok.m1).2
  have := h.ok.d1; have := h.ok.h1; have := h.ok.i1; have := h.ok.s1; have := h.y1
  exact ⟨by rw [h.w]; exact Nat.mod_lt _ (by decide), h.ok.m0, h.ok.m1, by omega, by omega, by omega, by omega, by omega⟩
/-- the date that these numbers make, if they make one -/
def gD (a b c d e f : Int) : Option Dt := if momB a b c d e f = true then some { dt a b c d e f with w := (4 + (dt a b c d e f).day) % 7 } else none
theorem gD_some {a b c d e f : Int} {x : Dt} (h : gD a b c d e f = some x) : VD x ∧ Mo a b c d e f x := by
  unfold gD at h
  split at h
  · rename_i hm
    have k := mo_of hm
    have h := (Option.some.inj h).symm
    subst h
    exact ⟨⟨⟨k.ok.y0, k.ok.m0, k.ok.m1, k.ok.d0, k.ok.d1, k.ok.h1, k.ok.i1, k.ok.s1⟩, k.y1, rfl⟩, ⟨⟨k.ok.y0, k.ok.m0, k.ok.m1, k.ok.d0, k.ok.d1, k.ok.h1, k.ok.i1, k.ok.s1⟩, k.y1, k.ea, k.eb, k.ec, k.ed, k.ee, k.ef⟩⟩
  · cases h
theorem gD_of {x : Dt} (h : VD x) : gD x.y x.m x.d x.h x.i x.s = some x := by
  have hm : momB x.y x.m x.d x.h x.i x.s = true := mom_of (x := x) ⟨h.ok, h.y1, rfl, rfl, rfl, rfl, rfl, rfl⟩
  unfold gD
  rw [if_pos hm]
  have hw := h.w
  cases x
  simp only [Dt.day] at hw
  simp only [dt, Int.toNat_natCast, Dt.day, hw]
/-- a number off a text's places -/
def nmF (n : Int) (l : List UInt8) : Int := l.foldl (fun n a => 10 * n + (a.toNat : Int) - 48) n
def nmS (s : List UInt8) (p k : Nat) : Int := nmF 0 ((s.drop p).take k)
theorem nmF_snoc (n : Int) (l : List UInt8) (a : UInt8) : nmF n (l ++ [a]) = 10 * nmF n l + (a.toNat : Int) - 48 := by simp [nmF]
theorem nmF_dg : ∀ (k v : Nat), v < 10 ^ k → nmF 0 (dg k v) = (v : Int)
  | 0, v, h => by simp at h; subst h; rfl
  | k + 1, v, h => by
    have h' : v / 10 < 10 ^ k := by rw [Nat.pow_succ] at h; omega
    rw [dg, nmF_snoc, nmF_dg k _ h', dig_to]
    omega
theorem nm_at {s A R : List UInt8} {k v p : Nat} (h : s = A ++ (dg k v ++ R)) (hl : A.length = p) (hv : v < 10 ^ k) : nmS s p k = (v : Int) := by
  unfold nmS
  rw [h, ← hl, List.drop_left, List.take_append_of_le_length (by rw [dg_len]; exact Nat.le_refl _), List.take_of_length_le (by rw [dg_len]; exact Nat.le_refl _), nmF_dg k v hv]
/-- the month whose name stands there -/
def moS (s : List UInt8) (p : Nat) : Nat := match moN.findIdx? (fun n => n.isPrefixOf (s.drop p)) with
  | none => 1
  | some i => i + 1
theorem mo_at {s A R : List UInt8} {i p : Nat} (h : s = A ++ (moN.getD i [] ++ R)) (hl : A.length = p) (hi : i < 12) : moS s p = i + 1 := by
  have e : s.drop p = moN.getD i [] ++ R := by rw [h, ← hl, List.drop_left]
  obtain ⟨e1, e2⟩ := (name_rd moN moN_free (moN.getD i [] ++ R, false)).on i R (by show i < 12; exact hi) rfl
  unfold moS
  unfold nameS at e1 e2
  rw [e]
  split
  · rename_i h1
    simp only [h1] at e2
    cases (Prod.mk.inj e2).2
  · rename_i j h1
    simp only [h1] at e1
    rw [e1]
theorem moS_le (s : List UInt8) (p : Nat) : 1 ≤ moS s p ∧ moS s p ≤ 12 := by
  unfold moS
  split
  · decide
  · rename_i j h1
    obtain ⟨h2, _⟩ := List.findIdx?_eq_some_iff_getElem.1 h1
    have : moN.length = 12 := rfl
    omega
/-- the first form, off its places -/
def G1 (s : List UInt8) : Option Dt := gD (nmS s 12 4) (moS s 8) (nmS s 5 2) (nmS s 17 2) (nmS s 20 2) (nmS s 23 2)
theorem G1_on {s : List UInt8} {x : Dt} (h : VD x) (e : s = imfL x) : G1 s = some x := by
  have hf := h.fm
  have lw := wdN_len x.w hf.w
  have lm := moN_len (x.m - 1) (by have := hf.m1; have := hf.m0; omega)
  have e1 : nmS s 12 4 = (x.y : Int) := nm_at (A := wdN.getD x.w [] ++ [44, 32] ++ dg 2 x.d ++ [32] ++ moN.getD (x.m - 1) [] ++ [32]) (R := [32] ++ tmL x ++ [32, 71, 77, 84]) (by rw [e]; simp [imfL]) (by simp [-List.getD_eq_getElem?_getD, lw, lm, dg_len]) hf.y
  have e2 : moS s 8 = x.m - 1 + 1 := mo_at (A := wdN.getD x.w [] ++ [44, 32] ++ dg 2 x.d ++ [32]) (R := [32] ++ dg 4 x.y ++ [32] ++ tmL x ++ [32, 71, 77, 84]) (by rw [e]; simp [imfL]) (by simp [-List.getD_eq_getElem?_getD, lw, dg_len]) (by have := hf.m1; have := hf.m0; omega)
  have e3 : nmS s 5 2 = (x.d : Int) := nm_at (A := wdN.getD x.w [] ++ [44, 32]) (R := [32] ++ moN.getD (x.m - 1) [] ++ [32] ++ dg 4 x.y ++ [32] ++ tmL x ++ [32, 71, 77, 84]) (by rw [e]; simp [imfL]) (by simp [-List.getD_eq_getElem?_getD, lw]) hf.d
  have e4 : nmS s 17 2 = (x.h : Int) := nm_at (A := wdN.getD x.w [] ++ [44, 32] ++ dg 2 x.d ++ [32] ++ moN.getD (x.m - 1) [] ++ [32] ++ dg 4 x.y ++ [32]) (R := [58] ++ dg 2 x.i ++ [58] ++ dg 2 x.s ++ [32, 71, 77, 84]) (by rw [e]; simp [imfL, tmL]) (by simp [-List.getD_eq_getElem?_getD, lw, lm, dg_len]) hf.h
  have e5 : nmS s 20 2 = (x.i : Int) := nm_at (A := wdN.getD x.w [] ++ [44, 32] ++ dg 2 x.d ++ [32] ++ moN.getD (x.m - 1) [] ++ [32] ++ dg 4 x.y ++ [32] ++ dg 2 x.h ++ [58]) (R := [58] ++ dg 2 x.s ++ [32, 71, 77, 84]) (by rw [e]; simp [imfL, tmL]) (by simp [-List.getD_eq_getElem?_getD, lw, lm, dg_len]) hf.i
  have e6 : nmS s 23 2 = (x.s : Int) := nm_at (A := wdN.getD x.w [] ++ [44, 32] ++ dg 2 x.d ++ [32] ++ moN.getD (x.m - 1) [] ++ [32] ++ dg 4 x.y ++ [32] ++ dg 2 x.h ++ [58] ++ dg 2 x.i ++ [58]) (R := [32, 71, 77, 84]) (by rw [e]; simp [imfL, tmL]) (by simp [-List.getD_eq_getElem?_getD, lw, lm, dg_len]) hf.s
  have e7 : x.m - 1 + 1 = x.m := by have := hf.m0; omega
  unfold G1
  rw [e1, e2, e3, e4, e5, e6, e7]
  exact gD_of h
/-- the third form's day -/
def dyS (s : List UInt8) : Int := if 9 < s.length ∧ s[8]? = some 32 then nmS s 9 1 else nmS s 8 2
def G3 (s : List UInt8) : Option Dt := gD (nmS s 20 4) (moS s 4) (dyS s) (nmS s 11 2) (nmS s 14 2) (nmS s 17 2)
theorem dyL_len (bl : Bool) (d : Nat) : (dyL bl d).length = 2 := by unfold dyL; split <;> simp [dg_len]
theorem G3_on {s : List UInt8} {x : Dt} {bl : Bool} (h : VD x) (e : s = ascL bl x) : G3 s = some x := by
  have hf := h.fm
  have lw := wdN_len x.w hf.w
  have lm := moN_len (x.m - 1) (by have := hf.m1; have := hf.m0; omega)
  have ld := dyL_len bl x.d
  have e1 : nmS s 20 4 = (x.y : Int) := nm_at (A := wdN.getD x.w [] ++ [32] ++ moN.getD (x.m - 1) [] ++ [32] ++ dyL bl x.d ++ [32] ++ tmL x ++ [32]) (R := []) (by rw [e]; simp [ascL]) (by simp [-List.getD_eq_getElem?_getD, lw, lm, ld, tmL, dg_len]) hf.y
  have e2 : moS s 4 = x.m - 1 + 1 := mo_at (A := wdN.getD x.w [] ++ [32]) (R := [32] ++ dyL bl x.d ++ [32] ++ tmL x ++ [32] ++ dg 4 x.y) (by rw [e]; simp [ascL]) (by simp [-List.getD_eq_getElem?_getD, lw]) (by have := hf.m1; have := hf.m0; omega)
  have e4 : nmS s 11 2 = (x.h : Int) := nm_at (A := wdN.getD x.w [] ++ [32] ++ moN.getD (x.m - 1) [] ++ [32] ++ dyL bl x.d ++ [32]) (R := [58] ++ dg 2 x.i ++ [58] ++ dg 2 x.s ++ [32] ++ dg 4 x.y) (by rw [e]; simp [ascL, tmL]) (by simp [-List.getD_eq_getElem?_getD, lw, lm, ld]) hf.h
  have e5 : nmS s 14 2 = (x.i : Int) := nm_at (A := wdN.getD x.w [] ++ [32] ++ moN.getD (x.m - 1) [] ++ [32] ++ dyL bl x.d ++ [32] ++ dg 2 x.h ++ [58]) (R := [58] ++ dg 2 x.s ++ [32] ++ dg 4 x.y) (by rw [e]; simp [ascL, tmL]) (by simp [-List.getD_eq_getElem?_getD, lw, lm, ld, dg_len]) hf.i
  have e6 : nmS s 17 2 = (x.s : Int) := nm_at (A := wdN.getD x.w [] ++ [32] ++ moN.getD (x.m - 1) [] ++ [32] ++ dyL bl x.d ++ [32] ++ dg 2 x.h ++ [58] ++ dg 2 x.i ++ [58]) (R := [32] ++ dg 4 x.y) (by rw [e]; simp [ascL, tmL]) (by simp [-List.getD_eq_getElem?_getD, lw, lm, ld, dg_len]) hf.s
  have hlen : 9 < s.length := by rw [e]; simp [-List.getD_eq_getElem?_getD, ascL, lw, lm, ld, tmL, dg_len]
  have e3 : dyS s = (x.d : Int) := by
    obtain ⟨A, R, hA, hs⟩ : ∃ A R : List UInt8, A.length = 8 ∧ s = A ++ (dyL bl x.d ++ R) := ⟨wdN.getD x.w [] ++ [32] ++ moN.getD (x.m - 1) [] ++ [32], [32] ++ tmL x ++ [32] ++ dg 4 x.y, by simp [-List.getD_eq_getElem?_getD, lw, lm], by rw [e]; simp [ascL]⟩
    unfold dyS
    cases hb : (bl && decide (x.d < 10)) with
    | true =>
      have hd : dyL bl x.d = 32 :: dg 1 x.d := by unfold dyL; rw [hb]; rfl
      have h10 : x.d < 10 := by simp at hb; exact hb.2
      rw [if_pos ⟨hlen, by rw [hs, List.getElem?_append_right (by omega), hA, hd]; rfl⟩]
      exact nm_at (A := A ++ [32]) (R := R) (by rw [hs, hd]; simp) (by simp [hA]) (by simpa using h10)
    | false =>
      have hd : dyL bl x.d = dg 2 x.d := by unfold dyL; rw [hb]; rfl
      have h2 : dg 2 x.d = UInt8.ofNat (48 + x.d / 10 ^ 1 % 10) :: dg 1 (x.d % 10 ^ 1) := dg_cons 1 x.d hf.d
      rw [if_neg (fun k => ?_)]
      · exact nm_at (A := A) (R := R) (by rw [hs, hd]) hA hf.d
      · have k2 := k.2
        rw [hs, List.getElem?_append_right (by omega), hA, hd, h2] at k2
        have k3 := congrArg UInt8.toNat (Option.some.inj k2)
        rw [dig_to] at k3
        have : (32 : UInt8).toNat = 32 := rfl
        omega
  have e7 : x.m - 1 + 1 = x.m := by have := hf.m0; omega
  unfold G3
  rw [e1, e2, e3, e4, e5, e6, e7]
  exact gD_of h
/-- the year of two digits: hundred by hundred down -/
def cent : Nat → Int → Int → Int
  | 0, y, _ => y
  | k + 1, y, L => if L < y then cent k (y - 100) L else y
theorem cent_is : ∀ (k : Nat) (y L : Int), L < y + 100 → y ≤ L + 100 * k → cent k y L ≤ L ∧ L < cent k y L + 100 ∧ (y - cent k y L) % 100 = 0
  | 0, y, L, h, h1 => by unfold cent; omega
  | k + 1, y, L, h, h1 => by
    unfold cent
    split
    · have := cent_is k (y - 100) L (by omega) (by omega)
      omega
    · omega
theorem cent_lk (v L : Nat) (hv : v < 100) (h1 : 2000 ≤ L) (h2 : L ≤ 9999) : cent 100 (9900 + (v : Int)) L = (lk v L : Int) := by
  have a := cent_is 100 (9900 + (v : Int)) L (by omega) (by omega)
  have b := lk_is v L hv (by omega)
  omega
def plc (w : Nat) : Nat := (wdF.getD w []).length + 2
def G2 (s : List UInt8) (L w : Nat) : Option Dt := gD (cent 100 (9900 + nmS s (plc w + 7) 2) L) (moS s (plc w + 3)) (nmS s (plc w) 2) (nmS s (plc w + 10) 2) (nmS s (plc w + 13) 2) (nmS s (plc w + 16) 2)
/-- what stands at the places of the second form -/
theorem rfc_at {s : List UInt8} {x : Dt} (hf : Fm x) (e : s = rfcL x) : nmS s (plc x.w + 7) 2 = ((x.y % 100 : Nat) : Int) ∧ moS s (plc x.w + 3) = x.m ∧ nmS s (plc x.w) 2 = (x.d : Int) ∧ nmS s (plc x.w + 10) 2 = (x.h : Int) ∧ nmS s (plc x.w + 13) 2 = (x.i : Int) ∧ nmS s (plc x.w + 16) 2 = (x.s : Int) := by
  have lm := moN_len (x.m - 1) (by have := hf.m1; have := hf.m0; omega)
  have lw : (wdF.getD x.w []).length + 2 = plc x.w := rfl
  have e7 : x.m - 1 + 1 = x.m := by have := hf.m0; omega
  refine ⟨?_, ?_, ?_, ?_, ?_, ?_⟩
  · exact nm_at (A := wdF.getD x.w [] ++ [44, 32] ++ dg 2 x.d ++ [45] ++ moN.getD (x.m - 1) [] ++ [45]) (R := [32] ++ tmL x ++ [32, 71, 77, 84]) (by rw [e]; simp [rfcL]) (by simp [-List.getD_eq_getElem?_getD, lm, dg_len, ← lw] <;> omega) (Nat.mod_lt _ (by decide))
  · exact (mo_at (A := wdF.getD x.w [] ++ [44, 32] ++ dg 2 x.d ++ [45]) (R := [45] ++ dg 2 (x.y % 100) ++ [32] ++ tmL x ++ [32, 71, 77, 84]) (by rw [e]; simp [rfcL]) (by simp [-List.getD_eq_getElem?_getD, dg_len, ← lw] <;> omega) (by have := hf.m1; have := hf.m0; omega)).trans e7
  · exact nm_at (A := wdF.getD x.w [] ++ [44, 32]) (R := [45] ++ moN.getD (x.m - 1) [] ++ [45] ++ dg 2 (x.y % 100) ++ [32] ++ tmL x ++ [32, 71, 77, 84]) (by rw [e]; simp [rfcL]) (by simp [-List.getD_eq_getElem?_getD, ← lw]) hf.d
  · exact nm_at (A := wdF.getD x.w [] ++ [44, 32] ++ dg 2 x.d ++ [45] ++ moN.getD (x.m - 1) [] ++ [45] ++ dg 2 (x.y % 100) ++ [32]) (R := [58] ++ dg 2 x.i ++ [58] ++ dg 2 x.s ++ [32, 71, 77, 84]) (by rw [e]; simp [rfcL, tmL]) (by simp [-List.getD_eq_getElem?_getD, lm, dg_len, ← lw] <;> omega) hf.h
  · exact nm_at (A := wdF.getD x.w [] ++ [44, 32] ++ dg 2 x.d ++ [45] ++ moN.getD (x.m - 1) [] ++ [45] ++ dg 2 (x.y % 100) ++ [32] ++ dg 2 x.h ++ [58]) (R := [58] ++ dg 2 x.s ++ [32, 71, 77, 84]) (by rw [e]; simp [rfcL, tmL]) (by simp [-List.getD_eq_getElem?_getD, lm, dg_len, ← lw] <;> omega) hf.i
  · exact nm_at (A := wdF.getD x.w [] ++ [44, 32] ++ dg 2 x.d ++ [45] ++ moN.getD (x.m - 1) [] ++ [45] ++ dg 2 (x.y % 100) ++ [32] ++ dg 2 x.h ++ [58] ++ dg 2 x.i ++ [58]) (R := [32, 71, 77, 84]) (by rw [e]; simp [rfcL, tmL]) (by simp [-List.getD_eq_getElem?_getD, lm, dg_len, ← lw] <;> omega) hf.s
theorem G2_on {s : List UInt8} {x : Dt} {L : Nat} (h : VD x) (e : s = rfcL x) (h1 : 2000 ≤ L) (h2 : L ≤ 9999) (hy : x.y ≤ L) (hy2 : L < x.y + 100) : G2 s L x.w = some x := by
  obtain ⟨e1, e2, e3, e4, e5, e6⟩ := rfc_at h.fm e
  unfold G2
  rw [e1, e2, e3, e4, e5, e6, cent_lk _ _ (Nat.mod_lt _ (by decide)) h1 h2, lk_one x.y L hy hy2]
  exact gD_of h
end Go.Proofs.YtlbhiefamnpphaaDoor.je
