import Derived.Test.YtjalggkhpnfbiaaDoorBEscWalks
import Derived.Deep.AppendLies
import Derived.Deep.RegionHeld3
import Derived.Deep.DrawnRows
import Derived.Deep.QuietTactic
import Derived.BigQuiet
import Derived.WalkSmall
namespace Go.Proofs.YtjalggkhpnfbiaaDoor.pctw
open Go.ChangeShapes Go.WideShapes Go.ChangeAt Go.RowKit Go.Proofs.YtjalggkhpnfbiaaDoor.common
attribute [local go_sem ↓] Go.wp_at_zero Go.wp_at_succ

theorem Tab.under {w w' : World} {b : Nat} (h : Tab w) (hb : Below b w w') (hB : 3 < b) : Tab w' := fun i hi => by
  rw [← h i hi]; exact hb.cell hB

def digs : ByteArray := { data := #[48, 49, 50, 51, 52, 53, 54, 55, 56, 57, 65, 66, 67, 68, 69, 70] }
theorem digs_at : ∀ n, n < 16 → ∀ h : n < digs.size, digs[n] = Pct.dig n := by
  intro n hn h
  have : ∀ n : Fin 16, digs[n.val]'n.isLt = Pct.dig n.val := by decide
  exact this ⟨n, hn⟩
set_option maxRecDepth 100000 in
theorem low_is : ∀ c : UInt8, bits .and .u8 (c.toNat : Int) 15 = ((c.toNat % 16 : Nat) : Int) := Pct.u8 _ (by decide +kernel)

/-- what an append may touch: its own row, and new blocks -/
structure Own (w0 wr : World) (v0 v : Value) : Prop where
  kept : ∀ k, k < w0.heap.size → some k ≠ v0.ownBlock → wr.heap[k]? = w0.heap[k]?
  lies : v.ownBlock = v0.ownBlock ∨ ∃ g, v.ownBlock = some g ∧ w0.heap.size ≤ g
  size : w0.heap.size ≤ wr.heap.size

theorem Own.refl (w : World) (v : Value) : Own w w v v := ⟨fun _ _ _ => rfl, Or.inl rfl, Nat.le_refl _⟩
theorem Own.step {w0 wr wa w1 : World} {v0 v : Value} {g n cap : Nat} (h : Own w0 wr v0 v) (o : Obj) (hwa : wa.heap = (wr.alloc o).heap) (hg : wa.grownBy w1 v.ownBlock) (hat : v.ownBlock = some g ∨ g = wr.heap.size + 1) : Own w0 w1 v0 (.slice (some ⟨g, 0, none⟩) n cap) := by
  have hs : wa.heap.size = wr.heap.size + 1 := by rw [hwa]; simp
  refine ⟨fun k hk hne => ?_, ?_, Nat.le_trans h.size (Nat.le_trans (by omega) hg.size)⟩
  · have hk2 : some k ≠ v.ownBlock := by
      rcases h.lies with e | ⟨g', e, hge⟩
      · rw [e]; exact hne
      · rw [e]; intro e2; cases e2; omega
    have hkw : k < wr.heap.size := Nat.lt_of_lt_of_le hk h.size
    rw [hg.block k (by omega) hk2, hwa, Below.heap_alloc wr o k hkw, h.kept k hk hne]
  · have e0 : (Value.slice (some ⟨g, 0, none⟩) n cap).ownBlock = some g := rfl
    rw [e0]
    rcases hat with e | e
    · rcases h.lies with e1 | ⟨g', e1, hge⟩
      · exact Or.inl (by rw [← e1, e])
      · rw [e1] at e; cases e; exact Or.inr ⟨g, rfl, hge⟩
    · exact Or.inr ⟨g, rfl, by have := h.size; omega⟩
theorem Own.trans {a b c : World} {u v x : Value} (h : Own a b u v) (k : Own b c v x) : Own a c u x := by
  refine ⟨fun j hj hne => ?_, ?_, Nat.le_trans h.size k.size⟩
  · have hj2 : some j ≠ v.ownBlock := by
      rcases h.lies with e | ⟨g', e, hge⟩
      · rw [e]; exact hne
      · rw [e]; intro e2; cases e2; omega
    rw [k.kept j (Nat.lt_of_lt_of_le hj h.size) hj2, h.kept j hj hne]
  · rcases k.lies with e | ⟨g, e, hg⟩
    · rw [e]; exact h.lies
    · exact Or.inr ⟨g, e, Nat.le_trans h.size hg⟩

set_option maxRecDepth 100000 in
set_option maxHeartbeats 3200000 in
theorem appendEscaped_any (base : Nat) (v : Value) (l : List UInt8) (s : ByteArray) (plus : Bool) (w : World) (hown : w.ownsRow base 5 1 v l.length (l.map B)) (hb : base ≤ w.heap.size) (hG : 3 < base) (ht : Tab w) (hs : l.length + 3 * s.size ≤ 140737488355328) :
    Calls Tryd.prog 45 #[v, .string s, .bool plus] w fun e w' => ∃ v', e = .returned v' ∧ w'.ownsRow base 5 1 v' (l ++ Pct.esc plus s.data.toList).length ((l ++ Pct.esc plus s.data.toList).map B) ∧ Below base w w' ∧ Own w w' v v' := by
  obtain ⟨i0, hi, hz0, hz1, hz2⟩ := info_parts info8
  have HT := hide ht
  have HO := hide hown
  have HG := hide hG
  clear ht hown hG
  go_enter Tryd.func45, Tryd.ntmps45
  go_wp2_with fail
  obtain ⟨v0, hv0⟩ : ∃ v0, v0 = v := ⟨_, rfl⟩
  go_loopw [0, 11] (fun v i wr => ∃ k : Nat, k ≤ s.size ∧ i = .int .i64 k ∧ wr.ownsRow base 5 1 v (l ++ Pct.esc plus (s.data.toList.take k)).length ((l ++ Pct.esc plus (s.data.toList.take k)).map B) ∧ Below base w wr ∧ Own w wr v0 v) (fun _ i _ => s.size - (intOf i).toNat)
  case atStart => exact ⟨0, Nat.zero_le _, rfl, by rw [List.take_zero, show Pct.esc plus [] = [] from rfl, List.append_nil]; exact HO.out, Below.refl _ _, by rw [hv0]; exact Own.refl _ _⟩
  case round =>
    obtain ⟨k, hk, rfl, hown, hnx, hOW⟩ := hrel
    have HOW := hide hOW
    clear hOW
    have hsz0 := hnx.size
    have hsz : base ≤ wr.heap.size := Nat.le_trans hb hsz0
    by_cases hlt : k < s.size
    · have hki : (k : Int) < (s.size : Int) := by omega
      have HTW := hide (HT.out.under hnx HG.out)
      have hlen := (Pct.esc_len plus (s.data.toList.take k)).2
      have htk : (s.data.toList.take k).length = k := by rw [List.length_take, len_list]; omega
      rw [htk] at hlen
      have hlen2 : (l ++ Pct.esc plus (s.data.toList.take k)).length ≤ l.length + 3 * k := by rw [List.length_append]; omega
      have HSN : Hid (l ++ Pct.esc plus (s.data.toList.take (k + 1)) = (l ++ Pct.esc plus (s.data.toList.take k)) ++ Pct.esc1 plus s[k]) := by
        show _ = _
        rw [take_snoc s k hlt, Pct.esc_snoc, List.append_assoc]
      clear htk hlen
      generalize l ++ Pct.esc plus (s.data.toList.take k) = L at *
      have hcl := s[k].toNat_lt
      go_wp2_with fail
      refine (isUnreserved_any s[k] wr HTW.out).mono ?_
      rintro x w' ⟨rfl, rfl⟩
      obtain ⟨wr, rfl⟩ : ∃ wr : World, wr = w' := ⟨_, rfl⟩
      by_cases hu : Pct.unres s[k] = true
      · have HE1 : Hid (Pct.esc1 plus s[k] = [s[k]]) := by show _ = _; unfold Pct.esc1; rw [if_pos hu]
        rw [hu]
        go_wp2_with (at_builtin; refine wpList_append_lies _ rfl _ _ 52 rfl base 5 i0 (.int .u8 0) 1 1 Tryd.underlying52 hi hz0 hz1 hz2 rfl (by decide) _ _ _ rfl (hown.alloc _) ⟨wr.heap.size, 0, none⟩ 1 1 [_] rfl rfl (cell_one_new _ _ _) ?c2 (by decide) ?c3 ?c4 ?c5 (wr.heap.size + 1) (by simp) ?_)
        case c2 => first | rfl | (intro u hu; simp at hu; subst hu; rfl)
        case c3 => unfold maxLen; omega
        case c4 => omega
        case c5 => first | omega | (simp; omega)
        intro gg cap w1 hown' hgrow hat _
        have HOW1 := hide (HOW.out.step (n := L.length + 1) (cap := cap) _ rfl hgrow hat)
        have R1 : w1.ownsRow base 5 1 (.slice (some ⟨gg, 0, none⟩) (L.length + 1) cap) (l ++ Pct.esc plus (s.data.toList.take (k + 1))).length ((l ++ Pct.esc plus (s.data.toList.take (k + 1))).map B) := by
          rw [HSN.out, HE1.out, List.length_append, List.map_append]; exact hown'
        have R2 : Below base w w1 := (hnx.alloc hsz _).grown hgrow (by simp; omega) (own_ge hown)
        clear hown' hgrow hown hnx hat
        have H1 := hide R1
        have H2 := hide R2
        clear R1 R2
        go_wp2
        go_roundw
        case rel => exact ⟨k + 1, by omega, by go_num, H1.out, H2.out, HOW1.out⟩
        case measure => simp [intOf]; omega
      · have hu : Pct.unres s[k] = false := by simpa using hu
        by_cases hpl : s[k].toNat = 32
        · have hpi : ((s[k].toNat : Nat) : Int) = 32 := by omega
          have h32 : s[k] = 32 := UInt8.toNat_inj.1 hpl
          cases plus with
          | true =>
            have HE1 : Hid (Pct.esc1 true s[k] = [43]) := by show _ = _; unfold Pct.esc1; rw [hu, if_neg (by decide), if_pos ⟨rfl, h32⟩]
            clear h32
            rw [hu]
            go_wp2_with (at_builtin; refine wpList_append_lies _ rfl _ _ 52 rfl base 5 i0 (.int .u8 0) 1 1 Tryd.underlying52 hi hz0 hz1 hz2 rfl (by decide) _ _ _ rfl (hown.alloc _) ⟨wr.heap.size, 0, none⟩ 1 1 [_] rfl rfl (cell_one_new _ _ _) ?c2 (by decide) ?c3 ?c4 ?c5 (wr.heap.size + 1) (by simp) ?_)
            case c2 => first | rfl | (intro u hu; simp at hu; subst hu; rfl)
            case c3 => unfold maxLen; omega
            case c4 => omega
            case c5 => first | omega | (simp; omega)
            intro gg cap w1 hown' hgrow hat _
            have HOW1 := hide (HOW.out.step (n := L.length + 1) (cap := cap) _ rfl hgrow hat)
            have R1 : w1.ownsRow base 5 1 (.slice (some ⟨gg, 0, none⟩) (L.length + 1) cap) (l ++ Pct.esc true (s.data.toList.take (k + 1))).length ((l ++ Pct.esc true (s.data.toList.take (k + 1))).map B) := by
              rw [HSN.out, HE1.out, List.length_append, List.map_append]; exact hown'
            have R2 : Below base w w1 := (hnx.alloc hsz _).grown hgrow (by simp; omega) (own_ge hown)
            clear hown' hgrow hown hnx hat
            have H1 := hide R1
            have H2 := hide R2
            clear R1 R2
            go_wp2
            go_roundw
            case rel => exact ⟨k + 1, by omega, by go_num, H1.out, H2.out, HOW1.out⟩
            case measure => simp [intOf]; omega
          | false =>
            clear h32
            have HE1 : Hid (Pct.esc1 false s[k] = [37, Pct.dig 2, Pct.dig 0]) := by show _ = _; unfold Pct.esc1; rw [hu, if_neg (by decide), if_neg (by simp), hpl]
            rw [hu]
            go_wp2_with fail
            have q2 : bits .and .u8 32 15 = 0 := by decide
            have HD := hide digs_at
            have hD16 : ({ data := #[48, 49, 50, 51, 52, 53, 54, 55, 56, 57, 65, 66, 67, 68, 69, 70] } : ByteArray).size = 16 := rfl
            unfold digs at HD
            generalize ({ data := #[48, 49, 50, 51, 52, 53, 54, 55, 56, 57, 65, 66, 67, 68, 69, 70] } : ByteArray) = DG at *
            have l1 : (2 : Int) < (DG.size : Int) := by omega
            have l2 : (0 : Int) < (DG.size : Int) := by omega
            have m1 : 2 < DG.size := by omega
            have m2 : 0 < DG.size := by omega
            have HD1 := hide (HD.out 2 (by decide) m1)
            have HD2 := hide (HD.out 0 (by decide) m2)
            have HX := hide hnx
            clear hnx
            go_region_held3 (fun _ => True) (first | trivial | go_keep)
              ((refine step_append_lies _ (by rfl) _ _ _ (by rfl) base 5 i0 _ 1 1 Tryd.underlying52 hi hz0 hz1 hz2 rfl (by omega) u0 L.length _ (by rfl) ((hown.alloc _).drew)
                  ⟨wr.heap.size, 0, none⟩ 3 3 [B 37, B DG[2], B DG[0]] (by rfl) (by rfl) (World.news_of_block (cs := #[B 37, B DG[2], B DG[0]]) (t := 5) (fr := (0, 0)) (heap_alloc_new wr _)) (by simp [Value.oneCell'])
                  (by omega) (by unfold maxLen; omega) (by omega) (by simp; omega) (wr.heap.size + 1) (by simp) ?_; intro gg cap w1 hown1 hgrow hat hlt2))
            all_goals
              have R1 : Hid (w1.ownsRow base 5 1 (.slice (some ⟨gg, 0, none⟩) (L.length + 3) cap) (l ++ Pct.esc false (s.data.toList.take (k + 1))).length ((l ++ Pct.esc false (s.data.toList.take (k + 1))).map B)) := by
                show w1.ownsRow _ _ _ _ _ _
                rw [HSN.out, HE1.out, List.length_append, List.map_append, ← HD1.out, ← HD2.out]
                exact hown1
              have R2 : Hid (Below base w w1) := ((HX.out.alloc hsz _).drew).grown hgrow (by simp; omega) (own_ge hown)
              have HOW1 := hide (HOW.out.step (n := L.length + 3) (cap := cap) (.cells #[B 37, B DG[2], B DG[0]] 5) (by rfl) hgrow hat)
              clear hown hown1 hgrow hat hlt2
              go_wp2
              go_roundw
              case rel => exact ⟨k + 1, by omega, by go_num, R1.out, R2.out, HOW1.out⟩
              case measure => simp [intOf]; omega
        · have hpi : ¬ ((s[k].toNat : Nat) : Int) = 32 := by omega
          have HE1 : Hid (Pct.esc1 plus s[k] = [37, Pct.dig (s[k].toNat / 16), Pct.dig (s[k].toNat % 16)]) := by show _ = _; unfold Pct.esc1; rw [hu, if_neg (by decide), if_neg (fun h => hpl (by rw [h.2]; rfl))]
          rw [hu]
          go_wp2_with fail
          have q1 : ((s[k].toNat : Nat) : Int) / 16 = ((s[k].toNat / 16 : Nat) : Int) := by omega
          have q2 : bits .and .u8 ((s[k].toNat : Nat) : Int) 15 = ((s[k].toNat % 16 : Nat) : Int) := low_is s[k]
          have b1 : s[k].toNat / 16 < 16 := by omega
          have b2 : s[k].toNat % 16 < 16 := by omega
          have HD := hide digs_at
          have hD16 : ({ data := #[48, 49, 50, 51, 52, 53, 54, 55, 56, 57, 65, 66, 67, 68, 69, 70] } : ByteArray).size = 16 := rfl
          unfold digs at HD
          generalize ({ data := #[48, 49, 50, 51, 52, 53, 54, 55, 56, 57, 65, 66, 67, 68, 69, 70] } : ByteArray) = DG at *
          generalize s[k].toNat / 16 = n1 at *
          generalize s[k].toNat % 16 = n2 at *
          have l1 : (n1 : Int) < (DG.size : Int) := by omega
          have l2 : (n2 : Int) < (DG.size : Int) := by omega
          have z1 : (0 : Int) ≤ (n1 : Int) := Int.natCast_nonneg _
          have z2 : (0 : Int) ≤ (n2 : Int) := Int.natCast_nonneg _
          have m1 : n1 < DG.size := by omega
          have m2 : n2 < DG.size := by omega
          have HD1 := hide (HD.out n1 b1 m1)
          have HD2 := hide (HD.out n2 b2 m2)
          have HX := hide hnx
          clear hnx
          go_region_held3 (fun _ => True) (first | trivial | go_keep)
            ((refine step_append_lies _ (by rfl) _ _ _ (by rfl) base 5 i0 _ 1 1 Tryd.underlying52 hi hz0 hz1 hz2 rfl (by omega) u0 L.length _ (by rfl) ((hown.alloc _).drew)
                ⟨wr.heap.size, 0, none⟩ 3 3 [B 37, B DG[n1], B DG[n2]] (by rfl) (by rfl) (World.news_of_block (cs := #[B 37, B DG[n1], B DG[n2]]) (t := 5) (fr := (0, 0)) (heap_alloc_new wr _)) (by simp [Value.oneCell'])
                (by omega) (by unfold maxLen; omega) (by omega) (by simp; omega) (wr.heap.size + 1) (by simp) ?_; intro gg cap w1 hown1 hgrow hat hlt2))
          all_goals
            have R1 : Hid (w1.ownsRow base 5 1 (.slice (some ⟨gg, 0, none⟩) (L.length + 3) cap) (l ++ Pct.esc plus (s.data.toList.take (k + 1))).length ((l ++ Pct.esc plus (s.data.toList.take (k + 1))).map B)) := by
              show w1.ownsRow _ _ _ _ _ _
              rw [HSN.out, HE1.out, List.length_append, List.map_append, ← HD1.out, ← HD2.out]
              exact hown1
            have R2 : Hid (Below base w w1) := ((HX.out.alloc hsz _).drew).grown hgrow (by simp; omega) (own_ge hown)
            have HOW1 := hide (HOW.out.step (n := L.length + 3) (cap := cap) (.cells #[B 37, B DG[n1], B DG[n2]] 5) (by rfl) hgrow hat)
            clear hown hown1 hgrow hat hlt2
            go_wp2
            go_roundw
            case rel => exact ⟨k + 1, by omega, by go_num, R1.out, R2.out, HOW1.out⟩
            case measure => simp [intOf]; omega
    · obtain rfl : k = s.size := by omega
      have e : s.data.toList.take s.size = s.data.toList := List.take_of_length_le (by rw [len_list]; exact Nat.le_refl _)
      rw [e] at hown
      have H1 := hide hown
      have H2 := hide hnx
      clear hown hnx e
      go_wp2
      go_ret
      exact ⟨_, rfl, H1.out, H2.out, by rw [← hv0]; exact HOW.out⟩

end Go.Proofs.YtjalggkhpnfbiaaDoor.pctw
