import Derived.Test.YtobflealcldgnaaGreatDoorRcWr
import Derived.Test.YtobflealcldgnaaGreatDoorStrBase
import Derived.Test.YtobflealcldgnaaGreatDoorRdKit
namespace Go.Proofs.YtobflealcldgnaaGreatDoor.rc
open Go.ChangeShapes Go.WideShapes Go.ChangeAt Go.RowKit Go.Proofs.YtobflealcldgnaaGreatDoor.common Go.Proofs.YtobflealcldgnaaGreatDoor.dk

/-- a text, a list, as bytes -/
def txL (s : ByteArray) : List UInt8 := numL s.size ++ s.data.toList
def lsL (l : List ByteArray) : List UInt8 := numL l.length ++ l.flatMap txL
theorem txL_len (s : ByteArray) : (txL s).length ≤ s.size + 10 := by
  unfold txL numL
  have := (numF_len 9 s.size).2
  rw [List.length_append]
  have : s.data.toList.length = s.size := by simp
  omega
theorem flat_len (l : List ByteArray) (B : Nat) (h : ∀ s ∈ l, s.size ≤ B) : (l.flatMap txL).length ≤ l.length * (B + 10) := by
  induction l with
  | nil => simp
  | cons x r ih =>
    have h1 := txL_len x
    have h2 := h x (List.mem_cons_self ..)
    have h3 := ih (fun s hs => h s (List.mem_cons_of_mem _ hs))
    rw [List.flatMap_cons, List.length_append, List.length_cons, Nat.add_mul, Nat.one_mul]
    omega
theorem Wr.keep {p : Nat} {w w' : World} {l : List UInt8} (h : Wr p w l) (hb : Below w.heap.size w w') : Wr p w' l := by
  obtain ⟨v, h1, h2⟩ := h
  exact ⟨v, (hb.block p (Array.getElem?_eq_some_iff.1 h1).1).trans h1, own_below h2 hb⟩

set_option maxRecDepth 100000 in
set_option maxHeartbeats 6400000 in
theorem wlist_any (p b j : Nat) (vs : Value) (ss : List ByteArray) (l : List UInt8) (w : World) (h : Wr p w l) (hc : w.cell? ⟨b, j, none⟩ = some vs) (hb : b < p) (hL : ∀ X, Below p w X → Go.Proofs.YtobflealcldgnaaGreatDoor.ss.Lies X vs ss) (hn : ss.length ≤ 16) (hs : ∀ s ∈ ss, s.size ≤ 281474976) (hl : l.length ≤ 140730000000000) :
    Calls Tryz.prog 205 #[.pointer (some ⟨p, 0, none⟩), .pointer (some ⟨b, j, none⟩)] w fun e w' => e = .returned (.tuple #[]) ∧ Wr p w' (l ++ lsL ss) ∧ Below p w w' := by
  obtain ⟨ov, cs, rfl⟩ : ∃ ov cs, vs = .slice ov ss.length cs := by
    obtain ⟨oa, cap, hv, _⟩ := hL w (Below.refl _ _)
    exact ⟨oa, cap, hv⟩
  have HL := hide hL
  have HS := hide hs
  have HCB : Hid (∀ X, Below p w X → X.cell? ⟨b, j, none⟩ = some (.slice ov ss.length cs)) := fun X hX => (hX.cell (p := ⟨b, j, none⟩) hb).trans hc
  have hnl : (numL ss.length).length ≤ 10 := (numF_len 9 ss.length).2
  have HFL : Hid (∀ k, ((ss.take k).flatMap txL).length ≤ 16 * (281474976 + 10)) := fun k => by
    have h1 := flat_len (ss.take k) 281474976 (fun s hs' => hs s (List.mem_of_mem_take hs'))
    have h2 : (ss.take k).length ≤ 16 := by rw [List.length_take]; omega
    exact Nat.le_trans h1 (Nat.mul_le_mul_right _ h2)
  obtain ⟨v, hp, hv⟩ := h
  have hlt := (Array.getElem?_eq_some_iff.1 hp).1
  have cp := cell_of hp 0
  have HP := hide hp
  have HV := hide hv
  obtain ⟨ow, cv, rfl⟩ : ∃ ow cv, v = .slice ow l.length cv := by
    rcases hv.2 with ⟨h1, h0⟩ | ⟨g, cap, cur, h1, _⟩
    · exact ⟨none, 0, by rw [h1, h0]⟩
    · exact ⟨_, cap, h1⟩
  have HC := hide (appendNumber_any (.slice ow l.length cv) l ss.length (p + 1) w.drew hv hlt (by omega) (by omega))
  clear hp hv hL hs
  go_enter Tryz.func205, Tryz.ntmps205
  go_wp2_with fail
  go_region_law (refine step_callsX (by rfl) (by simp [go_sem]) HC.out ?_; rintro v1 w2 ⟨hown, hgr⟩; obtain ⟨q1, q2, hW, hB⟩ := wr_set (w := w.drew) HP.out HV.out hgr hown; obtain ⟨o1, n1, c1, rfl⟩ : ∃ o1 n1 c1, v1 = .slice o1 n1 c1 := (by rcases hown.2 with ⟨h1, h0⟩ | ⟨g, cap, cur, h1, _⟩; exact ⟨none, 0, 0, h1⟩; exact ⟨_, _, cap, h1⟩); have HWW := hide hW; have HBB : Hid (Below p w (w2.setCell ⟨p, 0, none⟩ (.slice o1 n1 c1))) := (Below.refl p w).drew.trans hB; clear hown hgr hW hB)
  all_goals
    obtain ⟨X, hX⟩ : ∃ X, X = w2.setCell ⟨p, 0, none⟩ (.slice o1 n1 c1) := ⟨_, rfl⟩
    rw [← hX] at HWW HBB ⊢
    have cb := HCB.out X HBB.out
    clear hX q1 q2 HC HP HV cp
    go_wp2
    go_loopw [22] (fun i wr => ∃ k : Nat, k ≤ ss.length ∧ i = .int .i64 k ∧ Wr p wr (l ++ numL ss.length ++ (ss.take k).flatMap txL) ∧ Below p w wr) (fun i _ => ss.length - (intOf i).toNat)
    case atStart => exact ⟨0, Nat.zero_le _, rfl, by simpa using HWW.out, HBB.out⟩
    case round =>
      obtain ⟨k, hk, rfl, hwr, hnx⟩ := hrel
      have HWR := hide hwr
      have HX := hide hnx
      by_cases hlk : k < ss.length
      · have k0 : (0 : Int) ≤ (k : Int) := Int.natCast_nonneg _
        have k1 : (k : Int) < (ss.length : Int) := by omega
        obtain ⟨_, _, hvv, hcc⟩ := HL.out wr hnx
        cases hvv
        obtain ⟨g, o, rfl, hg, c0⟩ := hcc k hlk
        have hb1 : Below wr.heap.size wr (wr.alloc (.cells #[.string ss[k]] 9)) := (Below.refl _ _).alloc (Nat.le_refl _) _
        have hpl := hwr.lt
        have HT := hide (wtext_any p wr.heap.size 0 ss[k] _ (wr.alloc (.cells #[.string ss[k]] 9)) (hwr.keep hb1) (cell_of (heap_alloc_new wr _) 0) (Or.inr ⟨_, _, heap_alloc_new wr _, by decide⟩) (HS.out _ (List.getElem_mem hlk)) (by have := HFL.out k; simp only [List.length_append]; omega))
        have HTK : Hid ((ss.take (k + 1)).flatMap txL = (ss.take k).flatMap txL ++ txL ss[k]) := by
          show _ = _
          rw [List.take_succ_eq_append_getElem hlk, List.flatMap_append]
          simp
        have HTX : Hid (txL ss[k] = numL (ss[k]).size ++ (ss[k]).data.toList) := rfl
        have HB1 : Hid (Below p w (wr.alloc (.cells #[.string ss[k]] 9))) := hnx.alloc (by omega) _
        generalize ss[k]'hlk = s at *
        clear hwr hnx hcc hb1
        go_wp2_with fail
        refine HT.out.mono ?_
        rintro x w3 ⟨rfl, hW3, b3⟩
        have HW3 : Hid (Wr p w3 (l ++ numL ss.length ++ (ss.take (k + 1)).flatMap txL)) := by
          show Wr _ _ _
          rw [HTK.out, HTX.out, ← List.append_assoc]; exact hW3
        have HB3 := hide (HB1.out.trans b3)
        clear hW3 b3
        go_wp2_with fail
        go_roundw
        case rel => exact ⟨k + 1, by omega, by go_num, HW3.out, HB3.out⟩
        case measure => simp [intOf]; omega
      · have k1 : ¬ (k : Int) < (ss.length : Int) := by omega
        have HF : Hid (Wr p wr (l ++ lsL ss)) := by
          show Wr _ _ _
          rw [List.take_of_length_le (by omega), List.append_assoc] at hwr
          exact hwr
        clear hwr hnx
        go_wp2_with fail
        first | go_end0 | refine bodyPost_end (results_none rfl _ _ _) rfl ?_
        exact ⟨rfl, HF.out, HX.out⟩
end Go.Proofs.YtobflealcldgnaaGreatDoor.rc

namespace Go.Proofs.YtobflealcldgnaaGreatDoor.rc
open Go.ChangeShapes Go.WideShapes Go.ChangeAt Go.RowKit Go.Proofs.YtobflealcldgnaaGreatDoor.common Go.Proofs.YtobflealcldgnaaGreatDoor.dk

theorem add128 (n : Nat) : (128 : Int) + ((n % 128 : Nat) : Int) = ((UInt8.ofNat (128 + n % 128)).toNat : Int) := by
  rw [ofNat_val (128 + n % 128) (by have := Nat.mod_lt n (show 0 < 128 by decide); omega)]
  omega
set_option maxRecDepth 100000 in
set_option maxHeartbeats 3200000 in
theorem refNumber_any (n : Nat) (w : World) (hn : n ≤ 9223372036854775807) :
    Calls Tryz.prog 13 #[.int .i64 (n : Int)] w fun e w' => ∃ v', e = .returned v' ∧ w'.ownsRow w.heap.size 5 1 v' (numL n).length ((numL n).map B) ∧ Below w.heap.size w w' := by
  obtain ⟨i0, hi, hz0, hz1, hz2⟩ := info_parts info8
  go_enter Tryz.func13, Tryz.ntmps13
  go_wp2
  go_loopw [0, 3] (fun k u wr => ∃ (c f : Nat) (d : List UInt8), c ≤ n ∧ c < 128 ^ (f + 1) ∧ f ≤ 9 ∧ d.length + f ≤ 9 ∧ k = .int .i64 (c : Int) ∧ numL n = d ++ numF f c ∧ wr.ownsRow w.heap.size 5 1 u d.length (d.map B) ∧ Below w.heap.size w wr) (fun k _ _ => (intOf k).toNat)
  case atStart => exact ⟨n, 9, [], Nat.le_refl _, by omega, Nat.le_refl _, by simp, rfl, rfl, World.ownsRow_nil _ _ _ _, Below.refl _ _⟩
  case round =>
    obtain ⟨c, f, d, hcn, hcf, hf9, hdf, rfl, hnm, hown, hnx⟩ := hrel
    have hsz := hnx.size
    have HX := hide hnx
    have HNM := hide hnm
    have hll : d.length ≤ 9 := by omega
    obtain ⟨ou, cu, rfl⟩ : ∃ ou cu, u3 = .slice ou d.length cu := by
      rcases hown.2 with ⟨h1, h0⟩ | ⟨g, cap, cur, h1, _⟩
      · exact ⟨none, 0, by rw [h1, h0]⟩
      · exact ⟨_, cap, h1⟩
    have HO := hide hown
    clear hown hnx hnm
    by_cases hlt : c < 128
    · have k1 : ¬ (128 : Int) ≤ (c : Int) := by omega
      have hcc : ((c : Int)) % 256 = (c : Int) := by omega
      have hB : Value.int .u8 (c : Int) = B (UInt8.ofNat c) := by show _ = Value.int .u8 _; rw [ofNat_val c (by omega)]
      go_wp2_with (at_builtin; refine wpList_append_own _ rfl _ _ 27 rfl w.heap.size 5 i0 (.int .u8 0) 1 1 Tryz.underlying27 hi hz0 hz1 hz2 rfl (by decide) _ _ _ rfl (HO.out.alloc _) ⟨wr.heap.size, 0, none⟩ 1 1 [.int .u8 (c : Int)] rfl rfl ?c1 ?c2 ?c3 ?c4 ?c5 ?_)
      try (case c1 => first | exact fun j u h => h | exact cell_one_new _ _ _)
      try (case c2 => first | rfl | (intro u hu; simp at hu; subst hu; rfl))
      try (case c3 => unfold maxLen; omega)
      try (case c4 => omega)
      try (case c5 => first | omega | (simp; omega))
      intro v' w1 hown' hgrow _
      have R1 : Hid (w1.ownsRow w.heap.size 5 1 v' (numL n).length ((numL n).map B)) := by
        show World.ownsRow _ _ _ _ _ _ _
        rw [HNM.out, numF_small f c hlt, List.length_append, List.map_append]
        exact hown'
      have R2 : Hid (Below w.heap.size w w1) := (HX.out.alloc hsz _).grown hgrow (by simp; omega) (own_ge HO.out)
      clear hown' hgrow HO
      go_wp2
      go_ret
      exact ⟨v', rfl, R1.out, R2.out⟩
    · have k1 : (128 : Int) ≤ (c : Int) := by omega
      cases f with
      | zero => exact absurd hcf (by simp; omega)
      | succ f =>
      obtain ⟨m, hm⟩ : ∃ m, m = c % 128 := ⟨_, rfl⟩
      have hm1 : (c : Int) % 128 = (m : Int) := by omega
      have hm2 : ((128 : Int) + (m : Int)) % 256 = 128 + (m : Int) := by omega
      have hor : (128 : Int) + (m : Int) = ((UInt8.ofNat (128 + c % 128)).toNat : Int) := by rw [hm]; exact add128 c
      have hq : (c : Int) / 128 = ((c / 128 : Nat) : Int) := by omega
      have hq2 : c / 128 < c := Nat.div_lt_self (by omega) (by decide)
      have hq3 : c / 128 < 128 ^ (f + 1) := by
        rw [Nat.div_lt_iff_lt_mul (by decide), ← Nat.pow_succ]; exact hcf
      have HNB := hide (numF_big f c hlt)
      have hx : (UInt8.ofNat (128 + c % 128)).toNat < 256 := UInt8.toNat_lt _
      generalize c / 128 = q at *
      generalize UInt8.ofNat (128 + c % 128) = x at *
      have hxx : ((x.toNat : Int)) % 256 = (x.toNat : Int) := by omega
      have HM := hide hm
      clear hm hm2
      go_wp2_with (at_builtin; refine wpList_append_own _ rfl _ _ 27 rfl w.heap.size 5 i0 (.int .u8 0) 1 1 Tryz.underlying27 hi hz0 hz1 hz2 rfl (by decide) _ _ _ rfl (HO.out.alloc _) ⟨wr.heap.size, 0, none⟩ 1 1 [B x] rfl rfl ?d1 ?d2 ?d3 ?d4 ?d5 ?_)
      try (case d1 => first | exact fun j u h => h | exact cell_one_new _ _ _)
      try (case d2 => first | rfl | (intro u hu; simp at hu; subst hu; rfl))
      try (case d3 => unfold maxLen; omega)
      try (case d4 => omega)
      try (case d5 => first | omega | (simp; omega))
      intro v' w1 hown' hgrow _
      have R1 : Hid (w1.ownsRow w.heap.size 5 1 v' (d ++ [x]).length ((d ++ [x]).map B)) := by
        show World.ownsRow _ _ _ _ _ _ _
        rw [List.length_append, List.map_append]
        exact hown'
      have R2 : Hid (Below w.heap.size w w1) := (HX.out.alloc hsz _).grown hgrow (by simp; omega) (own_ge HO.out)
      clear hown' hgrow HO
      go_wp2
      go_roundw
      case rel => exact ⟨q, f, d ++ [x], by omega, hq3, by omega, by simp; omega, by go_num, by rw [HNM.out, HNB.out]; simp, R1.out, R2.out⟩
      case measure => simp [intOf]; omega
end Go.Proofs.YtobflealcldgnaaGreatDoor.rc

namespace Go.Proofs.YtobflealcldgnaaGreatDoor.dk
open Go.ChangeShapes Go.WideShapes Go.ChangeAt Go.RowKit Go.Proofs.YtobflealcldgnaaGreatDoor.common
end Go.Proofs.YtobflealcldgnaaGreatDoor.dk
