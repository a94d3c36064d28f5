import Derived.Test.YtlefalplljgkeaaGreatDoorMCkText
namespace Go.Proofs.YtlefalplljgkeaaGreatDoor.fd
open Go.ChangeShapes Go.WideShapes Go.ChangeAt Go.RowKit Go.Proofs.YtlefalplljgkeaaGreatDoor.common Go.Proofs.YtlefalplljgkeaaGreatDoor.bk
open Go.Proofs.YtlefalplljgkeaaGreatDoor.lst (PB Lies)
attribute [local go_sem ↓] Go.wp_at_zero Go.wp_at_succ

theorem cell_one_at (w : World) (v : Value) (t : TypeId) (g : Nat) (hg : g = w.heap.size) : ∀ j u, [v][j]? = some u → (w.alloc (.cells #[v] t)).cell? ((⟨g, 0, none⟩ : Addr).add j) = some u := by
  subst hg; exact cell_one_new w v t
/-- what CookieText answers -/
def ckTextR (l : List PB) (xm xt : Value) : Value := if 16 < l.length then .tuple #[.string ⟨#[]⟩, xm] else if allCk l then .tuple #[.string (joinB l), .nilIface] else .tuple #[.string ⟨#[]⟩, xt]

set_option maxRecDepth 100000 in
set_option maxHeartbeats 6400000 in
theorem cookieText_any (v : Value) (l : List PB) (w : World) (hl : Lies w v l) (hs : tot l ≤ 140737488355328) (xm xt : Value) (hm : Ev 1 w xm) (ht : Ev 0 w xt) :
    Calls Tryz.prog 9 #[v] w fun e w' => e = .returned (ckTextR l xm xt) ∧ Below w.heap.size w w' := by
  obtain ⟨R, hR⟩ : ∃ R, R = ckTextR l xm xt := ⟨_, rfl⟩
  rw [← hR]
  have HR := hide hR
  clear hR
  have HLI := hide hl
  obtain ⟨oa, cap, rfl, hc⟩ := hl
  have HC := hide hc
  clear hc
  by_cases hbig : 16 < l.length
  · have hbi : (16 : Int) < (l.length : Int) := by omega
    have HR2 : Hid (R = .tuple #[.string ⟨#[]⟩, xm]) := by show _ = _; rw [HR.out]; unfold ckTextR; rw [if_pos hbig]
    have hxm : w.cell? ⟨1, 0, none⟩ = some xm := hm
    go_enter Tryz.func9, Tryz.ntmps9
    go_wp2_with fail
    go_region
    all_goals (try go_wp2)
    all_goals go_ret2
    all_goals exact ⟨by rw [HR2.out]; rfl, (Below.refl _ _).drew⟩
  · have hbi : ¬ (16 : Int) < (l.length : Int) := by omega
    have hle : l.length ≤ 16 := by omega
    have HR2 : Hid (R = if allCk l then .tuple #[.string (joinB l), .nilIface] else .tuple #[.string ⟨#[]⟩, xt]) := by show _ = _; rw [HR.out]; unfold ckTextR; rw [if_neg hbig]
    clear HR hbig
    obtain ⟨i0, hi, hz0, hz1, hz2⟩ := info_parts infoS
    obtain ⟨T, hT⟩ := tabA
    have HT := hide hT
    have HXT := hide ht
    clear hT ht hm
    go_enter Tryz.func9, Tryz.ntmps9
    go_wp2_with fail
    refine (HT.out.made w).mono ?_
    rintro x w1 ⟨rfl, hb1⟩
    have HB := hide (keepD hb1 (put_below Tryz.zeroCells62 T w1))
    clear hb1
    go_wp2_with (first
      | (refine wpList_store_mid rfl 62 (.tmp 4) (.tmp 12) rfl w1.heap.size 0 T rfl rfl (HT.out.room w1) HT.out.size HT.out.one ?_)
      | (refine wpList_make_own _ rfl _ _ 54 rfl (put Tryz.zeroCells62 T w1).heap.size 9 i0 (.string ⟨#[]⟩) 1 Tryz.underlying54 hi hz0 hz1 .i64 .i64 (l.length : Int) l.length ?c1 ?c2 ?c3 ?c4 ?c5 ?c6 ?_))
    case c1 => rfl
    case c2 => rfl
    case c3 => rfl
    case c4 => rw [hz2]; omega
    case c5 => unfold maxLen; omega
    case c6 => exact Nat.le_refl _
    intro w2 hown hgrow
    change (put Tryz.zeroCells62 T w1).grownBy w2 _ at hgrow
    have hb2 := (Below.refl (put Tryz.zeroCells62 T w1).heap.size (put Tryz.zeroCells62 T w1)).grown hgrow (Nat.le_refl _) (fun k e => by cases e)
    have HTAB := hide (HT.out.tab w1)
    generalize hW2 : put Tryz.zeroCells62 T w1 = W at *
    clear hW2 HT hgrow
    have HO := hide hown
    have HB2 := hide hb2
    clear hown hb2
    go_wp2_with fail
    go_loopw [5, 18] (fun u i wr => ∃ k : Nat, k ≤ l.length ∧ i = .int .i64 k ∧ allCk (l.take k) = true ∧ wr.ownsRow W.heap.size 9 1 u (l.take k).length ((l.take k).map fun p => .string (one p)) ∧ Below W.heap.size W wr) (fun _ i _ => l.length - (intOf i).toNat)
    case atStart => exact ⟨0, Nat.zero_le _, rfl, rfl, HO.out, HB2.out⟩
    case round =>
      obtain ⟨k, hk, rfl, hall, hown, hnx⟩ := hrel
      have HALL := hide hall
      have hsz := hnx.size
      clear hall
      by_cases hlt : k < l.length
      · have hki : (k : Int) < (l.length : Int) := by omega
        have htk : (l.take k).length = k := by rw [List.length_take]; omega
        obtain ⟨b, o, rfl, hb, c0, c1⟩ := HC.out k hlt
        have hbW : b < W.heap.size := Nat.lt_of_lt_of_le hb HB.out.size
        have d0 := (hnx.cell (p := ⟨b, o + k * 2, none⟩) hbW).trans ((HB.out.cell (p := ⟨b, o + k * 2, none⟩) hb).trans c0)
        have d1 := (hnx.cell (p := ⟨b, o + k * 2 + 1, none⟩) hbW).trans ((HB.out.cell (p := ⟨b, o + k * 2 + 1, none⟩) hb).trans c1)
        have HTK := hide (allCk_take l k hlt)
        have hpm := tot_mem (List.getElem_mem hlt)
        have HSN := hide (lst.takeP l k hlt)
        have HFL : Hid (∀ k, allCk (l.take k) = false → allCk l = false) := fun k h => allCk_false h
        clear c0 c1
        generalize l[k] = p at *
        obtain ⟨pn, pv⟩ := p
        simp only [] at d0 d1 HTK hpm
        have HTW := hide (HTAB.out.below hnx)
        have HNX := hide hnx
        have HO2 := hide hown
        clear hown hnx
        go_wp2_with fail
        refine (isCookie_any w1.heap.size 0 pn pv _ (HTW.out.below ((Below.refl _ _).alloc (Nat.le_refl _) _)) (by omega) (by omega)).mono ?_
        rintro x w3 ⟨rfl, rfl⟩
        cases hck : isCk pn pv with
        | false =>
          have HRF : Hid (R = .tuple #[.string ⟨#[]⟩, xt]) := by
            show _ = _
            rw [HR2.out, HFL.out (k + 1) (by rw [HTK.out, hck, Bool.and_false])]; rfl
          have hxt : (wr.alloc (.cells #[.string pn, .string pv] 37)).cell? ⟨0, 0, none⟩ = some xt := (HXT.out.below (keepD HB.out HNX.out)).below ((Below.refl _ _).alloc (Nat.le_refl _) _)
          clear hck
          go_wp2_with fail
          go_region
          all_goals (try go_wp2)
          all_goals go_ret2
          all_goals exact ⟨by rw [HRF.out]; rfl, (keepD (keepD HB.out HNX.out) ((Below.refl _ _).alloc (Nat.le_refl _) _)).drew⟩
        | true =>
          have HAN : Hid (allCk (l.take (k + 1)) = true) := by show _ = _; rw [HTK.out, HALL.out, hck]; rfl
          clear hck
          have hown : (wr.alloc (.cells #[.string pn, .string pv] 37)).ownsRow W.heap.size 9 1 _ _ _ := HO2.out.alloc _
          go_wp2_with (first
            | (go_at_call 17; refine (cookieText1_any pn pv _ (by omega)).mono ?_; rintro x w4 ⟨rfl, rfl⟩)
            | (at_builtin; refine wpList_append_own _ rfl _ _ 54 rfl W.heap.size 9 i0 (.string ⟨#[]⟩) 1 16 Tryz.underlying54 hi hz0 hz1 hz2 rfl (by decide) _ _ _ rfl (hown.alloc _) ⟨wr.heap.size + 1, 0, none⟩ 1 1 [.string (ckB pn pv)] rfl rfl (cell_one_at _ _ _ _ (by simp)) ?d2 ?d3 ?d4 ?d5 ?_))
          case d2 => first | rfl | (intro u hu; simp at hu; subst hu; rfl)
          case d3 => unfold maxLen; omega
          case d4 => omega
          case d5 => first | omega | (simp; omega)
          intro v' w5 hown' hgrow' _
          have R1 : Hid (w5.ownsRow W.heap.size 9 1 v' (l.take (k + 1)).length ((l.take (k + 1)).map fun p => .string (one p))) := by
            show w5.ownsRow _ _ _ _ _ _
            rw [HSN.out, List.length_append, List.map_append, htk, List.map_take]; exact hown'
          have R2 : Hid (Below W.heap.size W w5) := ((HNX.out.alloc hsz _).alloc (by simp; omega) _).grown hgrow' (by simp; omega) (own_ge HO2.out)
          clear hown' hgrow' hown
          go_wp2_with fail
          go_roundw
          case rel => exact ⟨k + 1, by omega, by go_num, HAN.out, R1.out, R2.out⟩
          case measure => simp [intOf]; omega
      · obtain rfl : k = l.length := by omega
        rw [List.take_length] at hown HALL
        have HJ := hide (joined_any u5 l wr hown hle hs)
        have HRT : Hid (R = .tuple #[.string (joinB l), .nilIface]) := by show _ = _; rw [HR2.out, HALL.out]; rfl
        have HNX := hide hnx
        clear hown hnx
        go_wp2_with (go_at_call 19; refine HJ.out.mono ?_; rintro x w4 ⟨rfl, hb4⟩)
        go_ret2
        exact ⟨by rw [HRT.out]; rfl, keepD (keepD HB.out HNX.out) hb4⟩

end Go.Proofs.YtlefalplljgkeaaGreatDoor.fd
