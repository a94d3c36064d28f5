import Derived.Test.YtjedbgfnegjinaaRefSent
namespace Go.Proofs.Ytjedbgfnegjinaa.sent
open Go.ChangeShapes Go.WideShapes Go.ChangeAt Go.RowKit Go.Proofs.Ytjedbgfnegjinaa.common Go.Proofs.Ytjedbgfnegjinaa.lst Go.Maps
attribute [local go_sem ↓] Go.wp_at_zero Go.wp_at_succ

theorem cells_new_at (w : World) (l : List Value) (t : TypeId) (g : Nat) (hg : g = w.heap.size) : ∀ j u, l[j]? = some u → (w.alloc (.cells l.toArray t)).cell? ((⟨g, 0, none⟩ : Addr).add j) = some u := by
  subst hg
  exact cells_new w l t
theorem one_emp (l : List PB) (kd : Int) (vl lb : ByteArray) : one l ⟨kd, ⟨#[]⟩, vl, lb⟩ = [] := by simp [one]
theorem one_1 (l : List PB) {nm : ByteArray} (vl lb : ByteArray) (h : ¬ nm = ⟨#[]⟩) : one l ⟨1, nm, vl, lb⟩ = [(nm, vl)] := by simp [one, valOf, h]
theorem one_2 (l : List PB) {nm : ByteArray} (vl lb : ByteArray) (h : ¬ nm = ⟨#[]⟩) : one l ⟨2, nm, vl, lb⟩ = [(nm, (typedOf l nm).getD vl)] := by simp [one, valOf, h]
theorem one_3 (l : List PB) {nm : ByteArray} (vl lb : ByteArray) (h : ¬ nm = ⟨#[]⟩) : one l ⟨3, nm, vl, lb⟩ = [(nm, (typedOf l nm).getD vl)] := by simp [one, valOf, h]
theorem one_4 (l : List PB) {nm : ByteArray} (vl lb : ByteArray) (h : ¬ nm = ⟨#[]⟩) : one l ⟨4, nm, vl, lb⟩ = if cnt l (nm, vl) l.length % 2 = 0 then [(nm, vl)] else [] := by simp [one, valOf, h]
theorem one_no (l : List PB) {kd : Int} (nm vl lb : ByteArray) (h1 : ¬ kd = 1) (h2 : ¬ kd = 2) (h3 : ¬ kd = 3) (h4 : ¬ kd = 4) : one l ⟨kd, nm, vl, lb⟩ = [] := by simp [one, valOf, h1, h2, h3, h4]

set_option maxRecDepth 100000 in
set_option maxHeartbeats 6400000 in
theorem refSent_any (vI vT : Value) (act but : ByteArray) (l : List PB) (xs : List Inp) (w : World) (hi : LiesI w vI xs) (hl : Lies w vT l) (hs : l.length * 32 ≤ 140737488355328) (hsx : xs.length * 32 ≤ 140737488355328) :
    Calls Try.prog 11 #[.agg #[.string act, vI, .string but], vT] w fun e w' => ∃ v', e = .returned v' ∧ w'.ownsRow w.heap.size 33 2 v' (sentL l xs).length (cl (sentL l xs)) ∧ Below w.heap.size w w' := by
  obtain ⟨i0, hin, hz0, hz1, hz2⟩ := info_parts infoP
  have B0 : Below w.heap.size w (w.alloc (.cells #[.string act, vI, .string but] 24)) := (Below.refl _ _).alloc (Nat.le_refl _) _
  have HI := hide (hi.below B0)
  have HL := hide (hl.below B0)
  have hF : (w.alloc (.cells #[.string act, vI, .string but] 24)).heap[w.heap.size]? = some (.cells #[.string act, vI, .string but] 24) := (MapKept.heap_alloc w _).1
  clear hi hl
  go_enter Try.func11, Try.ntmps11
  go_wp2_with fail
  generalize w.alloc (.cells #[.string act, vI, .string but] 24) = W at *
  obtain ⟨oi, ci, rfl, HCI⟩ := HI.out
  obtain ⟨ot, ct, rfl, _⟩ := HL.out
  have HCI := hide HCI
  have hw0 := (Array.getElem?_eq_some_iff.1 hF).1
  go_loopw [5, 6] (fun v i wr => ∃ k : Nat, k ≤ xs.length ∧ i = .int .i64 k ∧ wr.ownsRow W.heap.size 33 2 v (sentL l (xs.take k)).length (cl (sentL l (xs.take k))) ∧ Below W.heap.size W wr) (fun _ i _ => xs.length - (intOf i).toNat)
  case atStart => exact ⟨0, Nat.zero_le _, rfl, World.ownsRow_nil _ _ _ _, Below.refl _ _⟩
  case round =>
    obtain ⟨k, hk, rfl, hown, hnx⟩ := hrel
    have hsz := hnx.size
    have hF1 := (hnx.block _ hw0).trans hF
    have f1 : wr.cell? ⟨w.heap.size, 1, none⟩ = some (.slice oi xs.length ci) := by simp [World.cell?, hF1]
    by_cases hlt : k < xs.length
    · have hki : (k : Int) < (xs.length : Int) := by omega
      have hk0 : (0 : Int) ≤ (k : Int) := Int.natCast_nonneg _
      have hll := sentL_len l (xs.take k)
      rw [List.length_take] at hll
      have HSS := hide (sentL_take l xs k hlt)
      obtain ⟨b, o, ho, hb, c0, c1, c2, c3⟩ := HCI.out k hlt
      cases ho
      have d0 := (hnx.cell (p := ⟨b, o + k * 4, none⟩) hb).trans c0
      have d1 := (hnx.cell (p := ⟨b, o + k * 4 + 1, none⟩) hb).trans c1
      have d2 := (hnx.cell (p := ⟨b, o + k * 4 + 2, none⟩) hb).trans c2
      have d3 := (hnx.cell (p := ⟨b, o + k * 4 + 3, none⟩) hb).trans c3
      clear c0 c1 c2 c3 hF1 HCI HI hF
      generalize xs[k] = x at *
      obtain ⟨kd, nm, vl, lb⟩ := x
      simp only at d0 d1 d2 d3
      have BA : Below wr.heap.size wr (wr.alloc (.cells #[.int .i64 kd, .string nm, .string vl, .string lb] 29)) := (Below.refl _ _).alloc (Nat.le_refl _) _
      have H1 := hide (own_below hown BA)
      have H2 : Hid (Below W.heap.size W (wr.alloc (.cells #[.int .i64 kd, .string nm, .string vl, .string lb] 29))) := hnx.trans (BA.mono hsz)
      have hszA := H2.out.size
      have HE := hide (MapKept.heap_alloc wr (.cells #[.int .i64 kd, .string nm, .string vl, .string lb] 29)).1
      clear hown BA hnx
      by_cases hne : nm = ⟨#[]⟩
      · subst hne
        rw [one_emp, List.append_nil] at HSS
        go_wp2_with fail
        go_roundw
        case rel => exact ⟨k + 1, by omega, by go_num, HSS.out ▸ H1.out, H2.out⟩
        case measure => simp [intOf]; omega
      · have hemp := not_emp hne
        have hem2 : (nm.toList == []) = false := by rw [← Bool.not_eq_true]; intro h; rw [eq_of_beq h] at hemp; cases hemp
        by_cases h1 : kd = 1
        · subst h1
          rw [one_1 l vl lb hne] at HSS
          go_wp2_with (at_builtin; refine wpList_append_own _ rfl _ _ 25 rfl W.heap.size 33 i0 (.agg #[.string ⟨#[]⟩, .string ⟨#[]⟩]) 2 32 Try.underlying25 hin hz0 hz1 hz2 rfl (by decide) _ _ _ rfl (H1.out.alloc _) ⟨wr.heap.size + 1, 0, none⟩ 1 1 [.string nm, .string vl] rfl rfl (cells_new_at _ _ _ _ (by simp)) ?c2 ?c3 ?c4 ?c5 ?_)
          case c2 => first | rfl | (intro u hu; simp at hu; rcases hu with rfl | rfl <;> rfl)
          case c3 => unfold maxLen; omega
          case c4 => omega
          case c5 => first | omega | (simp; omega)
          intro v' w3 hown' hgrow _
          have R1 : Hid (w3.ownsRow W.heap.size 33 2 v' (sentL l (xs.take (k + 1))).length (cl (sentL l (xs.take (k + 1))))) := by
            show World.ownsRow _ _ _ _ _ _ _
            rw [HSS.out, cl_app, List.length_append]; exact hown'
          have R2 : Hid (Below W.heap.size W w3) := (H2.out.alloc hszA _).grown hgrow (by simp; omega) (own_ge H1.out)
          clear hown' hgrow H1 H2
          go_wp2
          go_roundw
          case rel => exact ⟨k + 1, by omega, by go_num, R1.out, R2.out⟩
          case measure => simp [intOf]; omega
        by_cases h2 : kd = 2
        · subst h2
          rw [one_2 l vl lb hne] at HSS
          have hE := HE.out
          go_wp2_with fail
          refine (typedFor_any _ l nm _ (HL.out.below H2.out) hs).mono ?_
          rintro e w2 ⟨rfl, rfl⟩
          cases htt : typedOf l nm with
          | none =>
            rw [htt] at HSS
            simp only [Option.getD_none, Option.isSome_none] at HSS ⊢
            go_wp2_with (at_builtin; refine wpList_append_own _ rfl _ _ 25 rfl W.heap.size 33 i0 (.agg #[.string ⟨#[]⟩, .string ⟨#[]⟩]) 2 32 Try.underlying25 hin hz0 hz1 hz2 rfl (by decide) _ _ _ rfl (H1.out.alloc _) ⟨wr.heap.size + 1, 0, none⟩ 1 1 [.string nm, .string vl] rfl rfl (cells_new_at _ _ _ _ (by simp)) ?c2 ?c3 ?c4 ?c5 ?_)
            case c2 => first | rfl | (intro u hu; simp at hu; rcases hu with rfl | rfl <;> rfl)
            case c3 => unfold maxLen; omega
            case c4 => omega
            case c5 => first | omega | (simp; omega)
            intro v' w3 hown' hgrow _
            have R1 : Hid (w3.ownsRow W.heap.size 33 2 v' (sentL l (xs.take (k + 1))).length (cl (sentL l (xs.take (k + 1))))) := by
              show World.ownsRow _ _ _ _ _ _ _
              rw [HSS.out, cl_app, List.length_append]; exact hown'
            have R2 : Hid (Below W.heap.size W w3) := (H2.out.alloc hszA _).grown hgrow (by simp; omega) (own_ge H1.out)
            clear hown' hgrow H1 H2
            go_wp2
            go_roundw
            case rel => exact ⟨k + 1, by omega, by go_num, R1.out, R2.out⟩
            case measure => simp [intOf]; omega
          | some tv =>
            rw [htt] at HSS
            simp only [Option.getD_some, Option.isSome_some] at HSS ⊢
            go_wp2_with (at_builtin; refine wpList_append_own _ rfl _ _ 25 rfl W.heap.size 33 i0 (.agg #[.string ⟨#[]⟩, .string ⟨#[]⟩]) 2 32 Try.underlying25 hin hz0 hz1 hz2 rfl (by decide) _ _ _ rfl (H1.out.alloc _) ⟨wr.heap.size + 1, 0, none⟩ 1 1 [.string nm, .string tv] rfl rfl (cells_new_at _ _ _ _ (by simp)) ?c2 ?c3 ?c4 ?c5 ?_)
            case c2 => first | rfl | (intro u hu; simp at hu; rcases hu with rfl | rfl <;> rfl)
            case c3 => unfold maxLen; omega
            case c4 => omega
            case c5 => first | omega | (simp; omega)
            intro v' w3 hown' hgrow _
            have R1 : Hid (w3.ownsRow W.heap.size 33 2 v' (sentL l (xs.take (k + 1))).length (cl (sentL l (xs.take (k + 1))))) := by
              show World.ownsRow _ _ _ _ _ _ _
              rw [HSS.out, cl_app, List.length_append]; exact hown'
            have R2 : Hid (Below W.heap.size W w3) := (H2.out.alloc hszA _).grown hgrow (by simp; omega) (own_ge H1.out)
            clear hown' hgrow H1 H2
            go_wp2
            go_roundw
            case rel => exact ⟨k + 1, by omega, by go_num, R1.out, R2.out⟩
            case measure => simp [intOf]; omega
        by_cases h3 : kd = 3
        · subst h3
          rw [one_3 l vl lb hne] at HSS
          have hE := HE.out
          go_wp2_with fail
          refine (typedFor_any _ l nm _ (HL.out.below H2.out) hs).mono ?_
          rintro e w2 ⟨rfl, rfl⟩
          cases htt : typedOf l nm with
          | none =>
            rw [htt] at HSS
            simp only [Option.getD_none, Option.isSome_none] at HSS ⊢
            go_wp2_with (at_builtin; refine wpList_append_own _ rfl _ _ 25 rfl W.heap.size 33 i0 (.agg #[.string ⟨#[]⟩, .string ⟨#[]⟩]) 2 32 Try.underlying25 hin hz0 hz1 hz2 rfl (by decide) _ _ _ rfl (H1.out.alloc _) ⟨wr.heap.size + 1, 0, none⟩ 1 1 [.string nm, .string vl] rfl rfl (cells_new_at _ _ _ _ (by simp)) ?c2 ?c3 ?c4 ?c5 ?_)
            case c2 => first | rfl | (intro u hu; simp at hu; rcases hu with rfl | rfl <;> rfl)
            case c3 => unfold maxLen; omega
            case c4 => omega
            case c5 => first | omega | (simp; omega)
            intro v' w3 hown' hgrow _
            have R1 : Hid (w3.ownsRow W.heap.size 33 2 v' (sentL l (xs.take (k + 1))).length (cl (sentL l (xs.take (k + 1))))) := by
              show World.ownsRow _ _ _ _ _ _ _
              rw [HSS.out, cl_app, List.length_append]; exact hown'
            have R2 : Hid (Below W.heap.size W w3) := (H2.out.alloc hszA _).grown hgrow (by simp; omega) (own_ge H1.out)
            clear hown' hgrow H1 H2
            go_wp2
            go_roundw
            case rel => exact ⟨k + 1, by omega, by go_num, R1.out, R2.out⟩
            case measure => simp [intOf]; omega
          | some tv =>
            rw [htt] at HSS
            simp only [Option.getD_some, Option.isSome_some] at HSS ⊢
            go_wp2_with (at_builtin; refine wpList_append_own _ rfl _ _ 25 rfl W.heap.size 33 i0 (.agg #[.string ⟨#[]⟩, .string ⟨#[]⟩]) 2 32 Try.underlying25 hin hz0 hz1 hz2 rfl (by decide) _ _ _ rfl (H1.out.alloc _) ⟨wr.heap.size + 1, 0, none⟩ 1 1 [.string nm, .string tv] rfl rfl (cells_new_at _ _ _ _ (by simp)) ?c2 ?c3 ?c4 ?c5 ?_)
            case c2 => first | rfl | (intro u hu; simp at hu; rcases hu with rfl | rfl <;> rfl)
            case c3 => unfold maxLen; omega
            case c4 => omega
            case c5 => first | omega | (simp; omega)
            intro v' w3 hown' hgrow _
            have R1 : Hid (w3.ownsRow W.heap.size 33 2 v' (sentL l (xs.take (k + 1))).length (cl (sentL l (xs.take (k + 1))))) := by
              show World.ownsRow _ _ _ _ _ _ _
              rw [HSS.out, cl_app, List.length_append]; exact hown'
            have R2 : Hid (Below W.heap.size W w3) := (H2.out.alloc hszA _).grown hgrow (by simp; omega) (own_ge H1.out)
            clear hown' hgrow H1 H2
            go_wp2
            go_roundw
            case rel => exact ⟨k + 1, by omega, by go_num, R1.out, R2.out⟩
            case measure => simp [intOf]; omega
        by_cases h4 : kd = 4
        · subst h4
          rw [one_4 l vl lb hne] at HSS
          have hcl := cnt_le l (nm, vl) l.length
          have hE := HE.out
          go_wp2_with fail
          refine (clicks_any _ l ⟨4, nm, vl, lb⟩ _ (HL.out.below H2.out) hs).mono ?_
          rintro e w2 ⟨rfl, hb2⟩
          have hE2 := (hb2.block _ (Array.getElem?_eq_some_iff.1 hE).1).trans hE
          have n1 : w2.cell? ⟨wr.heap.size, 1, none⟩ = some (.string nm) := by simp [World.cell?, hE2]
          have n2 : w2.cell? ⟨wr.heap.size, 2, none⟩ = some (.string vl) := by simp [World.cell?, hE2]
          have H1 := hide (own_below H1.out hb2)
          have H2 := hide (H2.out.trans (hb2.mono hszA))
          have hszA := H2.out.size
          simp only
          generalize cnt l (nm, vl) l.length = n at *
          rcases Nat.mod_two_eq_zero_or_one n with h | h
          · rw [if_pos h] at HSS
            have hm : (n : Int) % 2 = 0 := by omega
            go_wp2_with (at_builtin; refine wpList_append_own _ rfl _ _ 25 rfl W.heap.size 33 i0 (.agg #[.string ⟨#[]⟩, .string ⟨#[]⟩]) 2 32 Try.underlying25 hin hz0 hz1 hz2 rfl (by decide) _ _ _ rfl (H1.out.alloc _) ⟨w2.heap.size, 0, none⟩ 1 1 [.string nm, .string vl] rfl rfl (cells_new _ _ _) ?c2 ?c3 ?c4 ?c5 ?_)
            case c2 => first | rfl | (intro u hu; simp at hu; rcases hu with rfl | rfl <;> rfl)
            case c3 => unfold maxLen; omega
            case c4 => omega
            case c5 => first | omega | (simp; omega)
            intro v' w3 hown' hgrow _
            have R1 : Hid (w3.ownsRow W.heap.size 33 2 v' (sentL l (xs.take (k + 1))).length (cl (sentL l (xs.take (k + 1))))) := by
              show World.ownsRow _ _ _ _ _ _ _
              rw [HSS.out, cl_app, List.length_append]; exact hown'
            have R2 : Hid (Below W.heap.size W w3) := (H2.out.alloc hszA _).grown hgrow (by simp; omega) (own_ge H1.out)
            clear hown' hgrow H1 H2
            go_wp2
            go_roundw
            case rel => exact ⟨k + 1, by omega, by go_num, R1.out, R2.out⟩
            case measure => simp [intOf]; omega
          · rw [if_neg (by omega), List.append_nil] at HSS
            have hm : (n : Int) % 2 = 1 := by omega
            go_wp2_with fail
            go_roundw
            case rel => exact ⟨k + 1, by omega, by go_num, HSS.out ▸ H1.out, H2.out⟩
            case measure => simp [intOf]; omega
        · rw [one_no l nm vl lb h1 h2 h3 h4, List.append_nil] at HSS
          go_wp2_with fail
          go_roundw
          case rel => exact ⟨k + 1, by omega, by go_num, HSS.out ▸ H1.out, H2.out⟩
          case measure => simp [intOf]; omega
    · obtain rfl : k = xs.length := by omega
      rw [List.take_length] at hown
      have H1 := hide hown
      have H2 := hide hnx
      clear hown hnx
      go_wp2_with fail
      go_ret
      exact ⟨_, rfl, own_base H1.out B0.size, B0.trans (H2.out.mono B0.size)⟩

end Go.Proofs.Ytjedbgfnegjinaa.sent
