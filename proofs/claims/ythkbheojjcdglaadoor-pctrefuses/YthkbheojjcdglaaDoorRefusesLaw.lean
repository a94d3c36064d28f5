import Derived.Test.YthkbheojjcdglaaDoorUnescWalks
import Derived.Test.YthkbheojjcdglaaDoorTextKit
import Derived.Test.YthkbheojjcdglaaDoorLawBytes
import Derived.Test.YthkbheojjcdglaaDoorPctTxt
namespace Go.Proofs.YthkbheojjcdglaaDoor.pctw
open Go.ChangeShapes Go.WideShapes Go.ChangeAt Go.RowKit Go.Proofs.YthkbheojjcdglaaDoor.common
attribute [local go_sem ↓] Go.wp_at_zero Go.wp_at_succ

theorem txt_eql (w : World) (a : Addr) : (binOp .eql 25 (X a) (X a)).run Tryd.prog w = .ok (.bool true) w := by
  obtain ⟨info, hinfo, hcomp⟩ := Option.map_eq_some_iff.1 errw.compErr
  obtain ⟨jinfo, hj1, hj2⟩ := Option.map_eq_some_iff.1 errw.sizeErr
  exact run_eql_iface_ptr_same w a Tryd.underlying25 Tryd.underlying46 hinfo hcomp hj1

/-- a bad place among the first k -/
def badTo (l : List UInt8) (k : Nat) : Bool := (List.range k).any (Pct.badAt l)
theorem badTo_succ (l : List UInt8) (k : Nat) : badTo l (k + 1) = (badTo l k || Pct.badAt l k) := by unfold badTo; rw [List.range_succ, List.any_append]; simp
theorem count_snoc (s : ByteArray) (k : Nat) (h : k < s.size) : (s.data.toList.take (k + 1)).count 37 = (s.data.toList.take k).count 37 + if s[k] = 37 then 1 else 0 := by
  rw [take_snoc s k h, List.count_append]
  congr 1
  by_cases e : s[k] = 37
  · rw [if_pos e, e]; rfl
  · rw [if_neg e, List.count_singleton]; simp [e]

theorem bad_plain (s : ByteArray) (k : Nat) (h : k < s.size) (h1 : ¬ (s[k].toNat < 33 ∨ 126 < s[k].toNat)) (h2 : s[k].toNat ≠ 37) : Pct.badAt s.data.toList k = false :=
  Pct.badAt_plain _ _ (by rw [getD_list s k h]; intro e; exact h2 (by rw [e]; rfl)) (by rw [getD_list s k h]; exact h1)
theorem bad_out (s : ByteArray) (k : Nat) (h : k < s.size) (h1 : s[k].toNat < 33 ∨ 126 < s[k].toNat) : Pct.badAt s.data.toList k = true := by
  unfold Pct.badAt; rw [getD_list s k h]; simp [h1]
theorem bad_short (s : ByteArray) (k : Nat) (h : k < s.size) (h1 : s[k].toNat = 37) (h2 : s.size ≤ k + 2) : Pct.badAt s.data.toList k = true := by
  unfold Pct.badAt; rw [getD_list s k h, show s[k] = 37 from UInt8.toNat_inj.1 h1, len_list]; simp [h2]
theorem bad_pct (s : ByteArray) (k : Nat) (h : k + 2 < s.size) (h1 : s[k].toNat = 37) : Pct.badAt s.data.toList k = (decide (15 < Pct.hexv s[k + 1]) || decide (15 < Pct.hexv s[k + 2])) := by
  unfold Pct.badAt
  rw [getD_list s k (by omega), getD_list s (k + 1) (by omega), getD_list s (k + 2) h, show s[k] = 37 from UInt8.toNat_inj.1 h1, len_list]
  have : ¬ (s.size ≤ k + 2) := by omega
  simp [this]

set_option maxRecDepth 100000 in
set_option maxHeartbeats 6400000 in
theorem lawRefuses (s : ByteArray) (plus : Bool) (w : World) (hs : s.size ≤ reachBytes) (ea : Addr) (he : Txt w ea) :
    Calls Tryd.prog 3 #[.agg #[.string s, .bool plus]] w fun e w' => e = .returned (.bool true) ∧ Below w.heap.size w w' := by
  have HS := hide hs
  have HE := hide he
  have H0 := hide (two_new w (.string s) (.bool plus) 23)
  clear he
  unfold reachBytes at hs
  go_enter Tryd.func3, Tryd.ntmps3
  go_wp2_with fail
  generalize w.alloc (.cells #[.string s, .bool plus] 23) = W at *
  refine (unescape_any s plus W HS.out ea (HE.out.below H0.out.bl)).mono ?_
  rintro x w1 ⟨hb1, hx⟩
  have H1 := hide (H0.out.next hb1)
  have c0 := H1.out.c0
  clear hb1
  obtain ⟨tv, ev, rfl⟩ : ∃ tv ev, x = .returned (.tuple #[tv, ev]) := by
    rcases hx with ⟨t, _, rfl⟩ | ⟨_, rfl⟩ <;> exact ⟨_, _, rfl⟩
  have HX := hide hx
  clear hx
  go_wp2_with fail
  go_loopw [5, 6, 7] (fun m b i wr => ∃ k : Nat, k ≤ s.size ∧ i = .int .i64 k ∧ m = .int .i64 ((s.data.toList.take k).count 37 : Int) ∧ b = .bool (badTo s.data.toList k) ∧ Two w wr w.heap.size (.string s) (.bool plus)) (fun _ _ i _ => s.size - (intOf i).toNat)
  case atStart => exact ⟨0, Nat.zero_le _, rfl, rfl, rfl, H1.out⟩
  case round =>
    clear c0
    obtain ⟨k, hk, rfl, rfl, rfl, h2⟩ := hrel
    have H2 := hide h2
    have c0 := h2.c0
    clear h2
    have hcnt : (s.data.toList.take k).count 37 ≤ k := Nat.le_trans (List.count_le_length ..) (by rw [List.length_take]; exact Nat.min_le_left _ _)
    by_cases hlt : k < s.size
    · have hki : (k : Int) < (s.size : Int) := by omega
      have HCS := hide (count_snoc s k hlt)
      have HBS := hide (badTo_succ s.data.toList k)
      have hcl := s[k].toNat_lt
      generalize (s.data.toList.take k).count 37 = m at *
      generalize badTo s.data.toList k = bd at *
      by_cases hp : s[k].toNat < 33 ∨ 126 < s[k].toNat
      · have HB := hide (bad_out s k hlt hp)
        have hn37 : ¬ ((s[k].toNat : Nat) : Int) = 37 := by omega
        have HN : Hid (¬ s[k] = 37) := fun e => by rw [e] at hp; revert hp; decide
        rw [if_neg HN.out] at HCS
        rcases hp with hp | hp
        · have hpi : ((s[k].toNat : Nat) : Int) < 33 := by omega
          go_wp2_with fail
          go_roundw
          case rel => exact ⟨k + 1, by omega, by go_num, by rw [HCS.out]; rfl, by rw [HBS.out, HB.out, Bool.or_true], H2.out⟩
          case measure => simp [intOf]; omega
        · have hpi : ¬ ((s[k].toNat : Nat) : Int) < 33 := by omega
          have hpj : 126 < ((s[k].toNat : Nat) : Int) := by omega
          go_wp2_with fail
          go_roundw
          case rel => exact ⟨k + 1, by omega, by go_num, by rw [HCS.out]; rfl, by rw [HBS.out, HB.out, Bool.or_true], H2.out⟩
          case measure => simp [intOf]; omega
      · have hpi : ¬ ((s[k].toNat : Nat) : Int) < 33 := by omega
        have hpj : ¬ 126 < ((s[k].toNat : Nat) : Int) := by omega
        by_cases hq : s[k].toNat = 37
        · have hqi : ((s[k].toNat : Nat) : Int) = 37 := by omega
          have HN : Hid (s[k] = 37) := UInt8.toNat_inj.1 hq
          rw [if_pos HN.out] at HCS
          by_cases h2 : k + 2 < s.size
          · have hk2 : ¬ ((s.size : Int) ≤ (k : Int) + 2) := by omega
            have hk2' : (k : Int) + 2 < (s.size : Int) := by omega
            have hk1' : (k : Int) + 1 < (s.size : Int) := by omega
            have i1 : ((k : Int) + 1).toNat = k + 1 := by omega
            have i2 : ((k : Int) + 2).toNat = k + 2 := by omega
            have l3 : k + 1 < s.size := by omega
            have HB := hide (bad_pct s k h2 hq)
            have HS1 := hide (fun W => small_true s[k + 1] W)
            have HS2 := hide (fun W => small_true s[k + 2] W)
            have b1 := Pct.hexv_le s[k + 1]
            have b2 := Pct.hexv_le s[k + 2]
            generalize Pct.hexv s[k + 1] = q1 at *
            generalize Pct.hexv s[k + 2] = q2 at *
            by_cases h15 : 15 < q1
            · have h15i : 15 < (q1 : Int) := by omega
              rw [decide_eq_true h15, Bool.true_or] at HB
              go_wp2_with fail
              refine (HS1.out _).mono ?_
              rintro x w' ⟨rfl, rfl⟩
              go_wp2_with fail
              go_roundw
              case rel => exact ⟨k + 1, by omega, by go_num, by rw [HCS.out]; go_num, by rw [HBS.out, HB.out, Bool.or_true], H2.out⟩
              case measure => simp [intOf]; omega
            · have h15i : ¬ 15 < (q1 : Int) := by omega
              rw [decide_eq_false h15, Bool.false_or] at HB
              by_cases h16 : 15 < q2
              · have h16i : 15 < (q2 : Int) := by omega
                rw [decide_eq_true h16] at HB
                go_wp2_with fail
                refine (HS1.out _).mono ?_
                rintro x w' ⟨rfl, rfl⟩
                go_wp2_with fail
                refine (HS2.out _).mono ?_
                rintro x w' ⟨rfl, rfl⟩
                go_wp2_with fail
                go_roundw
                case rel => exact ⟨k + 1, by omega, by go_num, by rw [HCS.out]; go_num, by rw [HBS.out, HB.out, Bool.or_true], H2.out⟩
                case measure => simp [intOf]; omega
              · have h16i : ¬ 15 < (q2 : Int) := by omega
                rw [decide_eq_false h16] at HB
                go_wp2_with fail
                refine (HS1.out _).mono ?_
                rintro x w' ⟨rfl, rfl⟩
                go_wp2_with fail
                refine (HS2.out _).mono ?_
                rintro x w' ⟨rfl, rfl⟩
                go_wp2_with fail
                go_roundw
                case rel => exact ⟨k + 1, by omega, by go_num, by rw [HCS.out]; go_num, by rw [HBS.out, HB.out, Bool.or_false], H2.out⟩
                case measure => simp [intOf]; omega
          · have hk2 : ((s.size : Int) ≤ (k : Int) + 2) := by omega
            have HB := hide (bad_short s k hlt hq (by omega))
            go_wp2_with fail
            go_roundw
            case rel => exact ⟨k + 1, by omega, by go_num, by rw [HCS.out]; go_num, by rw [HBS.out, HB.out, Bool.or_true], H2.out⟩
            case measure => simp [intOf]; omega
        · have hqi : ¬ ((s[k].toNat : Nat) : Int) = 37 := by omega
          have HN : Hid (¬ s[k] = 37) := fun e => hq (by rw [e]; rfl)
          have HB := hide (bad_plain s k hlt hp hq)
          rw [if_neg HN.out] at HCS
          go_wp2_with fail
          go_roundw
          case rel => exact ⟨k + 1, by omega, by go_num, by rw [HCS.out]; rfl, by rw [HBS.out, HB.out, Bool.or_false], H2.out⟩
          case measure => simp [intOf]; omega
    · obtain rfl : k = s.size := by omega
      have e : s.data.toList.take s.size = s.data.toList := List.take_of_length_le (by rw [len_list]; exact Nat.le_refl _)
      rw [e] at hcnt ⊢
      have HR := hide (Pct.refuses plus s.data.toList)
      have hll := len_list s
      rcases HR.out with ⟨⟨i, hi, hb⟩, hu⟩ | ⟨hb, t, hu, hl⟩
      · have hbt : badTo s.data.toList s.size = true := by
          unfold badTo; rw [List.any_eq_true]; exact ⟨i, by rw [hll] at hi; simpa using hi, hb⟩
        rw [hbt]
        have hev : tv = .string ⟨#[]⟩ ∧ ev = X ea := by
          rcases HX.out with ⟨t, ht, hh⟩ | ⟨_, hh⟩
          · rw [hu] at ht; cases ht
          · cases hh; exact ⟨rfl, rfl⟩
        obtain ⟨rfl, rfl⟩ := hev
        have ce : wr.cell? ⟨0, 0, none⟩ = some (X ea) := HE.out.below H2.out.bl
        have hq := fun W => txt_eql W ea
        clear hi hb hu
        go_wp2_with fail
        go_ret
        exact ⟨by simp, H2.out.bl⟩
      · have hbt : badTo s.data.toList s.size = false := by
          unfold badTo; rw [List.any_eq_false]; intro i hi; rw [hb i (by rw [hll]; simpa using hi)]; simp
        rw [hbt]
        have hev : tv = S t ∧ ev = .nilIface := by
          rcases HX.out with ⟨t', ht, hh⟩ | ⟨hn, hh⟩
          · rw [hu] at ht; cases ht; cases hh; exact ⟨rfl, rfl⟩
          · rw [hu] at hn; cases hn
        obtain ⟨rfl, rfl⟩ := hev
        have hts : (⟨t.toArray⟩ : ByteArray).size = t.length := str_size t
        obtain ⟨T, hT⟩ : ∃ T : ByteArray, (⟨t.toArray⟩ : ByteArray) = T := ⟨_, rfl⟩
        rw [show S t = .string T from congrArg Value.string hT]
        rw [hT] at hts
        have hfin : (T.size : Int) = (s.size : Int) - 2 * (s.data.toList.count 37 : Int) := by omega
        generalize s.data.toList.count 37 = m at *
        clear hb hu hT
        go_wp2_with fail
        go_ret
        exact ⟨by simp; omega, H2.out.bl⟩

end Go.Proofs.YthkbheojjcdglaaDoor.pctw
