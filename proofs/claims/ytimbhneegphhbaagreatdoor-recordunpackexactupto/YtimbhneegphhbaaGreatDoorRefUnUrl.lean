import Derived.Test.YtimbhneegphhbaaGreatDoorRefMeant
import Derived.Test.YtimbhneegphhbaaGreatDoorRadixRead
import Derived.Deep.RegionWith
import Derived.Test.YtimbhneegphhbaaGreatDoorTmNames
namespace Go.Proofs.YtimbhneegphhbaaGreatDoor.radw
open Go.ChangeShapes Go.WideShapes Go.ChangeAt Go.RowKit Go.Proofs.YtimbhneegphhbaaGreatDoor.common

theorem halves6 (j : Nat) (hj : j < 5) : ((2 ^ (5 - j) : Nat) : Int) / 2 = ((2 ^ (5 - (j + 1)) : Nat) : Int) := by
  have : 2 ^ (5 - j) = 2 ^ (5 - (j + 1)) * 2 := by rw [← Nat.pow_succ]; congr 1; omega
  rw [this]; omega

set_option maxRecDepth 100000 in
set_option maxHeartbeats 1600000 in
theorem meant6_any (s : ByteArray) (A : ByteArray) (T : List UInt8) (hT : Rad.Good T 64) (hA : A.data.toList = T) (w : World) (hs : s.size ≤ 1398102) :
    Calls Tryz.prog 87 #[.string s, .int .i64 6, .string A] w fun e w' => Below w.heap.size w w' ∧
      ((Rad.valid T 64 s.data.toList ∧ e = .returned (.tuple #[.string ⟨(bys (Rad.nb (Rad.num T 64 s.data.toList) 6) (6 * s.size / 8)).toArray⟩, .bool true])) ∨
        (¬ Rad.valid T 64 s.data.toList ∧ e = .returned (.tuple #[.string ⟨#[]⟩, .bool false]))) := by
  obtain ⟨i0, hi, hz0, hz1, hz2⟩ := info_parts info64
  obtain ⟨i8, hi8, hy0, hy1, hy2⟩ := info_parts info8
  have HA := hide hA
  have HT := hide hT
  clear hA hT
  go_enter Tryz.func87, Tryz.ntmps87
  go_wp2
  go_loopw [8, 9] (fun v i wr => ∃ k : Nat, k ≤ s.size ∧ i = .int .i64 k ∧ (∀ j, j < k → Rad.rd T 64 (s.data.toList.getD j 0) ≠ 0) ∧ wr.ownsRow w.heap.size 3 1 v (6 * k) (row (Rad.nb (Rad.num T 64 s.data.toList) 6) (6 * k)) ∧ Below w.heap.size w wr) (fun _ i _ => s.size - (intOf i).toNat)
  case atStart => exact ⟨0, Nat.zero_le _, rfl, fun j hj => by omega, World.ownsRow_nil _ _ _ _, Below.refl _ _⟩
  case round =>
    obtain ⟨k, hk, rfl, hval, hown, hnx⟩ := hrel
    have HV := hide hval
    have HO := hide hown
    have HX := hide hnx
    clear hval hown hnx
    by_cases hlt : k < s.size
    · have hki : (k : Int) < (s.size : Int) := by omega
      have hgd := hide (getD_list s k hlt)
      have hle := Rad.rd_le T 64 s[k]
      have HP := hide (place_any s[k] A T 64 HT.out HA.out (by decide))
      have HQ : Hid (Rad.num T 64 s.data.toList k = Rad.rd T 64 s[k] - 1) := by show _ = _; unfold Rad.num; rw [hgd.out]
      have HQ0 : Hid (Rad.rd T 64 (s.data.toList.getD k 0) = Rad.rd T 64 s[k]) := by show _ = _; rw [hgd.out]
      generalize Rad.rd T 64 s[k] = q at *
      by_cases h0 : q = 0
      · subst h0
        go_wp2_with (go_at_call 111; refine (HP.out _).mono ?_; rintro e w' ⟨rfl, rfl⟩)
        go_ret2
        exact ⟨HX.out, Or.inr ⟨fun h => h k (by rw [len_list]; exact hlt) HQ0.out, rfl⟩⟩
      · have hq1 : ((q : Nat) : Int) - 1 = ((q - 1 : Nat) : Int) := by omega
        have HN0 := hide h0
        rw [hq1] at HP
        have hp1 : q - 1 < 64 := by omega
        generalize q - 1 = p at *
        clear hq1 h0 hle
        have hp0 : ¬ (p : Int) < 0 := by omega
        go_wp2_with (go_at_call 111; refine (HP.out _).mono ?_; rintro e w' ⟨rfl, rfl⟩)
        obtain ⟨wo, rfl⟩ : ∃ wo : World, wo = w' := ⟨_, rfl⟩
        go_loopw [8, 11] (fun v i wr => ∃ j : Nat, j ≤ 6 ∧ i = (if j = 6 then .int .i64 0 else .int .i64 ((2 ^ (5 - j) : Nat) : Int)) ∧ wr.ownsRow w.heap.size 3 1 v (6 * k + j) (row (Rad.nb (Rad.num T 64 s.data.toList) 6) (6 * k + j)) ∧ Below w.heap.size w wr) (fun _ i _ => (intOf i).toNat)
        case atStart => exact ⟨0, Nat.zero_le _, rfl, HO.out, HX.out⟩
        case round =>
          obtain ⟨j, hj, rfl, hown, hnx⟩ := hrel
          have hsz := hnx.size
          by_cases hj8 : j < 6
          · have hbv : (wrap64 ((p : Int) / ((2 ^ (5 - j) : Nat) : Int))).tmod 2 = ((Rad.nb (Rad.num T 64 s.data.toList) 6 (6 * k + j) : Nat) : Int) := by
              rw [div_bit2 _ _ (by omega), Rad.nb_at _ _ _ _ hj8, HQ.out]
            have hpp : 0 < 2 ^ (5 - j) := Nat.pow_pos (by decide)
            have hpp1 : 2 ^ (5 - j) ≤ 32 := Nat.pow_le_pow_right (n := 2) (by decide) (show 5 - j ≤ 5 by omega)
            have hhalf : Hid (((2 ^ (5 - j) : Nat) : Int) / 2 = if j + 1 = 6 then 0 else ((2 ^ (5 - (j + 1)) : Nat) : Int)) := by
              show _ = _
              by_cases h7 : j = 5
              · subst h7; rfl
              · rw [if_neg (by omega), halves6 j (by omega)]
            have hsn := hide (row_succ (Rad.nb (Rad.num T 64 s.data.toList) 6) (6 * k + j))
            rw [if_neg (by omega)]
            generalize Rad.nb (Rad.num T 64 s.data.toList) 6 (6 * k + j) = b at *
            generalize 2 ^ (5 - j) = K at *
            go_wp2_with (at_builtin; refine wpList_append_own _ rfl _ _ 141 rfl w.heap.size 3 i0 (.int .i64 0) 1 8 Tryz.underlying141 hi hz0 hz1 hz2 rfl (by decide) _ _ _ rfl (hown.alloc _) ⟨wr.heap.size, 0, none⟩ 1 1 [I b] rfl rfl ?c1 ?c2 ?c3 ?c4 ?c5 ?_)
            case c1 => exact cell_one_new _ _ _
            case c2 => intro u hu; simp at hu; subst hu; rfl
            case c3 => unfold maxLen; omega
            case c4 => omega
            case c5 => simp; omega
            intro v' w1 hown' hgrow _
            have R1 : w1.ownsRow w.heap.size 3 1 v' (6 * k + (j + 1)) (row (Rad.nb (Rad.num T 64 s.data.toList) 6) (6 * k + (j + 1))) := by
              rw [← Nat.add_assoc, hsn.out]; exact hown'
            have R2 : Below w.heap.size w w1 := by
              refine (hnx.alloc hsz _).grown hgrow (by simp; omega) ?_
              exact own_ge hown
            clear hown' hgrow hown hbv
            have H1 := hide R1
            have H2 := hide R2
            clear R1 R2
            go_wp2
            go_roundw
            case rel => exact ⟨j + 1, by omega, by rw [hhalf.out]; split <;> rfl, H1.out, H2.out⟩
            case measure => simp [intOf]; omega
          · obtain rfl : j = 6 := by omega
            rw [if_pos rfl]
            have H1 := hide hown
            have H2 := hide hnx
            clear hown hnx
            go_wp2
            go_roundw
            case rel =>
              refine ⟨k + 1, by omega, by go_num, ?_, H1.out, H2.out⟩
              intro i hi
              by_cases hik : i = k
              · subst hik; rw [HQ0.out]; exact HN0.out
              · exact HV.out i (by omega)
            case measure => simp [intOf]; omega
    · obtain rfl : k = s.size := by omega
      have HVL : Hid (Rad.valid T 64 s.data.toList) := fun i hi => HV.out i (by rw [len_list] at hi; exact hi)
      have hI := Ints.of_own HO.out
      obtain ⟨pp, cap, rfl, hcell⟩ := hI
      have HC := hide hcell
      have HF : Hid (∀ i, Rad.nb (Rad.num T 64 s.data.toList) 6 i < 2) := Rad.nb_lt _ _
      have hgsz : w.heap.size ≤ wr.heap.size := HX.out.size
      clear hcell HV HO
      generalize hff : Rad.nb (Rad.num T 64 s.data.toList) 6 = f at *
      have HFF := hide hff
      clear hff
      obtain ⟨wo, hwo⟩ : ∃ wo : World, wo = wr := ⟨_, rfl⟩
      rw [← hwo]
      rw [← hwo] at HX HC hgsz
      clear hwo
      go_wp2
      go_loopw [12, 13] (fun u i wr => ∃ m : Nat, m ≤ 6 * s.size / 8 ∧ i = .int .i64 ((8 * m : Nat) : Int) ∧ wr.ownsRow wo.heap.size 5 1 u m ((bys f m).map B) ∧ Below wo.heap.size wo wr) (fun _ i _ => 6 * s.size + 8 - (intOf i).toNat)
      case atStart => exact ⟨0, Nat.zero_le _, rfl, World.ownsRow_nil _ _ _ _, Below.refl _ _⟩
      case round =>
        obtain ⟨m, hm, rfl, hown, hnx⟩ := hrel
        by_cases hlt : 8 * m + 8 ≤ 6 * s.size
        · have hli : ((8 * m : Nat) : Int) + 8 ≤ ((6 * s.size : Nat) : Int) := by omega
          have HO := hide hown
          have HX2 := hide hnx
          clear hown hnx
          generalize hJ : 8 * m = J at *
          have HJ := hide hJ
          clear hJ
          go_wp2
          go_loop [14, 15] (fun q k => ∃ j : Nat, j ≤ 8 ∧ k = .int .i64 j ∧ q = I (Rad.grp f J j)) (fun _ k => 8 - (intOf k).toNat)
          case atStart => exact ⟨0, Nat.zero_le _, rfl, rfl⟩
          case round =>
            obtain ⟨j, hj, rfl, rfl⟩ := hrel
            have hg := grp_lt f HF.out J j
            have hgs : Hid (Rad.grp f J (j + 1) = 2 * Rad.grp f J j + f (J + j)) := rfl
            have hpw : 2 ^ j ≤ 256 := Nat.pow_le_pow_right (n := 2) (j := 8) (by decide) hj
            by_cases hjn : j < 8
            · have hf2 := HF.out (J + j)
              have hji : (j : Int) < 8 := by omega
              obtain ⟨g, rfl, hc, hgl⟩ := HC.out (J + j) (by omega)
              have hc' : wr.cell? ⟨g, J + j, none⟩ = some (I (f (J + j))) := by rw [← hc]; exact HX2.out.cell hgl
              have hx : ((J : Int) + (j : Int)) < ((6 * s.size : Nat) : Int) := by omega
              have hx0 : (0 : Int) ≤ ((J : Int) + (j : Int)) := by omega
              have hx1 : ((J : Int) + (j : Int)).toNat = J + j := by omega
              generalize Rad.grp f J j = q at *
              generalize f (J + j) = b at *
              clear hc
              go_wp2
              go_round
              case rel => exact ⟨j + 1, by omega, by go_num, by rw [hgs.out]; exact int_eq (by omega)⟩
              case measure => simp [intOf]; omega
            · obtain rfl : j = 8 := by omega
              have hsn := hide (bys_succ f m)
              rw [HJ.out] at hsn
              have HTQ : Hid (Value.int .u8 ((Rad.grp f J 8 : Nat) : Int) = B (UInt8.ofNat (Rad.grp f J 8))) := by show _ = _; unfold B; rw [Rad.toNat_of (by omega)]
              have hgq : Rad.grp f J 8 < 256 := by omega
              clear hg hgs
              generalize Rad.grp f J 8 = q at *
              have hsz := HX2.out.size
              have hown := HO.out
              clear hpw hli
              go_wp2_with (at_builtin; refine wpList_append_own _ rfl _ _ 27 rfl wo.heap.size 5 i8 (.int .u8 0) 1 1 Tryz.underlying27 hi8 hy0 hy1 hy2 rfl (by decide) _ _ _ rfl (hown.alloc _) ⟨wr.heap.size, 0, none⟩ 1 1 [.int .u8 (q : Int)] rfl rfl ?c1 ?c2 ?c3 ?c4 ?c5 ?_)
              try (case c1 => exact cell_one_new _ _ _)
              case c2 => first | rfl | (intro u hu; simp at hu; subst hu; rfl)
              case c3 => unfold maxLen; omega
              case c4 => omega
              case c5 => first | omega | (simp; omega)
              intro v' w1 hown' hgrow _
              have R1 : w1.ownsRow wo.heap.size 5 1 v' (m + 1) ((bys f (m + 1)).map B) := by
                rw [hsn.out, List.map_append, List.map_cons, ← HTQ.out]; exact hown'
              have R2 : Below wo.heap.size wo w1 := by
                refine (HX2.out.alloc hsz _).grown hgrow (by simp; omega) ?_
                exact own_ge hown
              clear hown' hgrow hown
              have H1 := hide R1
              have H2 := hide R2
              have HE : Hid ((J : Int) + 8 = ((8 * (m + 1) : Nat) : Int)) := by show _ = _; rw [← HJ.out]; omega
              have HM : Hid (m + 1 ≤ 6 * s.size / 8) := by show _ ≤ _; have := HJ.out; omega
              clear R1 R2
              go_wp2
              go_roundw
              case rel => exact ⟨m + 1, HM.out, int_eq HE.out, H1.out, H2.out⟩
              case measure =>
                have := HE.out
                have := HJ.out
                simp [intOf]; omega
        · obtain rfl : m = 6 * s.size / 8 := by omega
          have hli : ¬ ((8 * (6 * s.size / 8) : Nat) : Int) + 8 ≤ ((6 * s.size : Nat) : Int) := by omega
          have hli2 : ¬ ((8 * (6 * s.size / 8) : Nat) : Int) + 8 ≤ 6 * (s.size : Int) := by omega
          have hconv := conv_own hown (bys_len _ _)
          have HX2 := hide hnx
          have hJb : 8 * (6 * s.size / 8) ≤ 9000000 := by omega
          generalize 8 * (6 * s.size / 8) = J at *
          clear hown hnx
          go_wp2
          all_goals first
            | (exfalso; omega)
            | (go_ret2; exact ⟨HX.out.trans (HX2.out.mono hgsz), Or.inl ⟨HVL.out, by rw [HFF.out]; rfl⟩⟩)

end Go.Proofs.YtimbhneegphhbaaGreatDoor.radw

namespace Go.Proofs.YtimbhneegphhbaaGreatDoor.radw
open Go.ChangeShapes Go.WideShapes Go.ChangeAt Go.RowKit Go.Proofs.YtimbhneegphhbaaGreatDoor.common
attribute [local go_sem ↓] Go.wp_at_zero Go.wp_at_succ

set_option maxHeartbeats 400000 in
theorem slite_any (A : ByteArray) (h1 : 1 ≤ A.size) (hx : A.extract 0 1 = ⟨#[61]⟩) (w : World) : Calls Tryz.prog 107 #[.string A, .string ⟨#[61]⟩] w fun e w' => e = .returned (.bool true) ∧ w' = w := by
  have h2 : (1 : Int) ≤ (A.size : Int) := by omega
  go_enter Tryz.func107, Tryz.ntmps107
  go_wp2
  go_ret
  exact ⟨rfl, rfl⟩
end Go.Proofs.YtimbhneegphhbaaGreatDoor.radw

namespace Go.Proofs.YtimbhneegphhbaaGreatDoor.radw
open Go.ChangeShapes Go.WideShapes Go.ChangeAt Go.RowKit Go.Proofs.YtimbhneegphhbaaGreatDoor.common
attribute [local go_sem ↓] Go.wp_at_zero Go.wp_at_succ

end Go.Proofs.YtimbhneegphhbaaGreatDoor.radw

namespace Go.Proofs.YtimbhneegphhbaaGreatDoor.radw
open Go.ChangeShapes Go.WideShapes Go.ChangeAt Go.RowKit Go.Proofs.YtimbhneegphhbaaGreatDoor.common

theorem ba_ext {a b : ByteArray} (h : a.data.toList = b.data.toList) : a = b := by
  apply ByteArray.ext; apply Array.toList_inj.1; exact h

/-- the three tables -/
theorem ne_list {a b : ByteArray} (h : a ≠ b) : (a.toList == b.toList) = false := by
  rw [ByteArray.toList_eq, ByteArray.toList_eq]
  exact beq_false_of_ne fun e => h (ba_ext e)
theorem eq_list {a b : ByteArray} (h : a = b) : (a.toList == b.toList) = true := by subst h; simp

end Go.Proofs.YtimbhneegphhbaaGreatDoor.radw

namespace Go.Proofs.YtimbhneegphhbaaGreatDoor.radw
open Go.ChangeShapes Go.WideShapes Go.ChangeAt Go.RowKit Go.Proofs.YtimbhneegphhbaaGreatDoor.common

theorem bys_64 (T : List UInt8) (s : ByteArray) : bys (Rad.nb (Rad.num T 64 s.data.toList) 6) (6 * s.size / 8) = Rad.un64 T s.data.toList := by
  rw [← Rad.un64_bits, len_list]; rfl

theorem str_eq (l : List UInt8) (s : ByteArray) (h : l = s.data.toList) : (⟨l.toArray⟩ : ByteArray) = s := by
  subst h; rfl
theorem str_ne (l : List UInt8) (s : ByteArray) (h : l ≠ s.data.toList) : (⟨l.toArray⟩ : ByteArray) ≠ s := by
  intro e; apply h; rw [← e]
theorem str_size (l : List UInt8) : (⟨l.toArray⟩ : ByteArray).size = l.length := by
  show l.toArray.size = _; simp

end Go.Proofs.YtimbhneegphhbaaGreatDoor.radw

namespace Go.Proofs.YtimbhneegphhbaaGreatDoor.radw
open Go.ChangeShapes Go.WideShapes Go.ChangeAt Go.RowKit Go.Proofs.YtimbhneegphhbaaGreatDoor.common

end Go.Proofs.YtimbhneegphhbaaGreatDoor.radw

namespace Go.Proofs.YtimbhneegphhbaaGreatDoor.radw
open Go.ChangeShapes Go.WideShapes Go.ChangeAt Go.RowKit Go.Proofs.YtimbhneegphhbaaGreatDoor.common

set_option maxRecDepth 100000 in
set_option maxHeartbeats 400000 in
theorem refUnUrl_any (s : ByteArray) (w : World) (hs : s.size ≤ 1048576) :
    Calls Tryz.prog 66 #[.string s] w fun x w' => Below w.heap.size w w' ∧
      (((Rad.valid Rad.urlT 64 s.data.toList ∧ Rad.restOk Rad.urlT s.data.toList) ∧ x = .returned (.tuple #[.string ⟨(Rad.un64 Rad.urlT s.data.toList).toArray⟩, .int .i64 0])) ∨
        (¬ (Rad.valid Rad.urlT 64 s.data.toList ∧ Rad.restOk Rad.urlT s.data.toList) ∧ x = .returned (.tuple #[.string ⟨#[]⟩, .int .i64 2]))) := by
  have HS := hide hs
  clear hs
  go_enter Tryz.func66, Tryz.ntmps66
  go_wp2_with fail
  refine (meant6_any s _ Rad.urlT Rad.urlGood rfl w (by have := HS.out; omega)).mono ?_
  rintro x w1 ⟨hb1, ⟨hval, rfl⟩ | ⟨hval, rfl⟩⟩
  · rw [bys_64]
    have HB1 := hide hb1
    have HV := hide hval
    clear hb1 hval
    go_wp2_with fail
    refine (refUrl_any ⟨(Rad.un64 Rad.urlT s.data.toList).toArray⟩ w1 (by rw [str_size, Rad.un64_len, len_list]; have := HS.out; unfold Rad.n8; omega)).mono ?_
    rintro x w2 ⟨rfl, hb2⟩
    have HB2 := hide (HB1.out.trans (hb2.mono HB1.out.size))
    clear hb2
    by_cases hev : Rad.restOk Rad.urlT s.data.toList
    · have he := eq_list (str_eq (Rad.b64 Rad.urlT (Rad.un64 Rad.urlT s.data.toList)) s (Rad.b64_un64 _ _ HV.out hev))
      have HEV := hide hev
      clear hev
      generalize (⟨(Rad.b64 Rad.urlT (Rad.un64 Rad.urlT s.data.toList)).toArray⟩ : ByteArray) = Y at *
      go_wp2_with fail
      go_ret2
      exact ⟨HB2.out, Or.inl ⟨⟨HV.out, HEV.out⟩, rfl⟩⟩
    · have he := ne_list (str_ne (Rad.b64 Rad.urlT (Rad.un64 Rad.urlT s.data.toList)) s (fun h => hev ((Rad.taken64 Rad.urlGood _).1 h).2))
      have HEV := hide hev
      clear hev
      generalize (⟨(Rad.b64 Rad.urlT (Rad.un64 Rad.urlT s.data.toList)).toArray⟩ : ByteArray) = Y at *
      go_wp2_with fail
      go_ret2
      exact ⟨HB2.out, Or.inr ⟨fun h => HEV.out h.2, rfl⟩⟩
  · have HB1 := hide hb1
    have HV := hide hval
    clear hb1 hval
    go_wp2_with fail
    refine (refUrl_any ⟨#[]⟩ w1 (by decide)).mono ?_
    rintro x w2 ⟨rfl, hb2⟩
    have HB2 := hide (HB1.out.trans (hb2.mono HB1.out.size))
    clear hb2
    go_wp2_with fail
    go_ret2
    exact ⟨HB2.out, Or.inr ⟨fun h => HV.out h.1, rfl⟩⟩

end Go.Proofs.YtimbhneegphhbaaGreatDoor.radw
