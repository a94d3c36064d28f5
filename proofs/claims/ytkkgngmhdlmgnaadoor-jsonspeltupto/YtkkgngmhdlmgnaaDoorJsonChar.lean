import Derived.Test.YtkkgngmhdlmgnaaDoorJsonShort
import Derived.Deep.AppendLies
import Derived.Deep.RegionHeld3
import Derived.Deep.DrawnRows
import Derived.Deep.QuietTactic
import Derived.BigQuiet
import Derived.WalkSmall
namespace Go.Proofs.YtkkgngmhdlmgnaaDoor.jw
open Go.ChangeShapes Go.WideShapes Go.ChangeAt Go.RowKit Go.Proofs.YtkkgngmhdlmgnaaDoor.common
attribute [local go_sem ↓] Go.wp_at_zero Go.wp_at_succ

theorem isPlain_any (s : ByteArray) (w : World) (hs : s.size ≤ 9223372036854775807) (hT : Tabs w) :
    Calls Tryd.prog 43 #[.string s] w fun e w' => e = .returned (.bool (Lib.validD s.data.toList)) ∧ Below w.heap.size w w' := by
  go_enter Tryd.func43, Tryd.ntmps43
  go_wp2_with fail
  refine (valid_any s w hs hT).mono ?_
  rintro e w' ⟨rfl, hb⟩
  go_wp2
  go_ret
  exact ⟨rfl, hb⟩

def sdigs : ByteArray := { data := #[48, 49, 50, 51, 52, 53, 54, 55, 56, 57, 97, 98, 99, 100, 101, 102] }

theorem cells_new (w : World) (l : List Value) (t : TypeId) : ∀ j u, l[j]? = some u → (w.alloc (.cells l.toArray t)).cell? ((⟨w.heap.size, 0, none⟩ : Addr).add j) = some u := by
  intro j u h
  rw [Addr.add_mid]
  exact range_new w l.toArray t j u h
theorem sdigs_at : ∀ n, n < 16 → ∀ h : n < sdigs.size, sdigs[n] = Json.dig n := by
  intro n hn h
  have : ∀ n : Fin 16, sdigs[n.val]'n.isLt = Json.dig n.val := by decide
  exact this ⟨n, hn⟩
theorem low2 : ∀ d : Nat, d < 32 → bits .and .i32 (d : Int) 15 = ((d % 16 : Nat) : Int) := by
  intro d hd
  have : ∀ d : Fin 32, bits .and .i32 (d.val : Int) 15 = ((d.val % 16 : Nat) : Int) := by decide
  exact this ⟨d, hd⟩

set_option maxRecDepth 100000 in
set_option maxHeartbeats 3200000 in
theorem appendChar_any (b : Nat) (v : Value) (l : List UInt8) (d : Nat) (hd : d ≤ 1114111) (w : World) (hS : Short w) (hown : w.ownsRow b 5 1 v l.length (l.map B)) (hlen : l.length + 6 ≤ 140737488355328) (hb : b ≤ w.heap.size) :
    Calls Tryd.prog 57 #[v, .int .i32 d] w fun e w' => ∃ v', e = .returned v' ∧ w'.ownsRow b 5 1 v' (l ++ Json.charOf d).length ((l ++ Json.charOf d).map B) ∧ Fr b w w' := by
  obtain ⟨i0, hi, hz0, hz1, hz2⟩ := info_parts info8
  have HT := hide hS
  clear hS
  by_cases h32 : 32 ≤ d ∧ d ≠ 34 ∧ d ≠ 92
  · have e : Json.charOf d = Lib.encodeRune (d : Int) := if_pos h32
    rw [e]
    obtain ⟨h1, h2, h3⟩ := h32
    have k1 : ¬ ((d : Int) < 32) := by omega
    have k1' : (32 : Int) ≤ (d : Int) := by omega
    have k2 : ((d : Int) != 34) = true := by simp; omega
    have k3 : ((d : Int) != 92) = true := by simp; omega
    have HO := hide hown
    go_enter Tryd.func57, Tryd.ntmps57
    go_wp2_with fail
    refine (appendRune_any b v l (d : Int) w (by omega) (by omega) HO.out (by omega) hb).mono ?_
    rintro e w' ⟨v', rfl, ho, hf⟩
    have H1 := hide ho
    have H2 := hide hf
    clear ho hf hown
    go_wp2
    go_ret
    exact ⟨_, rfl, H1.out, H2.out⟩
  · have e : Json.charOf d = Json.esc (UInt8.ofNat d) := if_neg h32
    rw [e]
    have hsm : d < 32 ∨ d = 34 ∨ d = 92 := by omega
    have HO := hide hown
    have HE1 : Hid (∀ j : Nat, j < 8 → (d : Int) = (sChr j : Int) → Json.esc (UInt8.ofNat d) = [92, UInt8.ofNat (sLet j)] ∧ sLet j < 256) := by
      intro j hj he
      have he' : d = sChr j := by omega
      subst he'
      match j, hj, hsm with
      | 0, _, _ => exact ⟨by decide, by decide⟩
      | 1, _, _ => exact ⟨by decide, by decide⟩
      | 2, _, h => exact absurd h (by decide)
      | 3, _, _ => exact ⟨by decide, by decide⟩
      | 4, _, _ => exact ⟨by decide, by decide⟩
      | 5, _, _ => exact ⟨by decide, by decide⟩
      | 6, _, _ => exact ⟨by decide, by decide⟩
      | 7, _, _ => exact ⟨by decide, by decide⟩
    have HE2 : Hid ((∀ j : Nat, j < 8 → (d : Int) ≠ (sChr j : Int)) → d < 32 ∧ Json.esc (UInt8.ofNat d) = [92, 117, 48, 48, Json.dig (d / 16), Json.dig (d % 16)]) := by
      intro hno
      have h0 := hno 0 (by decide)
      have h1 := hno 1 (by decide)
      have h3 := hno 3 (by decide)
      have h4 := hno 4 (by decide)
      have h5 := hno 5 (by decide)
      have h6 := hno 6 (by decide)
      have h7 := hno 7 (by decide)
      simp only [sChr, List.getD_cons_zero, List.getD_cons_succ] at h0 h1 h3 h4 h5 h6 h7
      have hl : d < 32 := by omega
      have hc : (UInt8.ofNat d).toNat = d := by simp; omega
      have ne : ∀ k : Nat, k < 256 → d ≠ k → UInt8.ofNat d ≠ UInt8.ofNat k := by
        intro k hk hne e
        have := congrArg UInt8.toNat e
        simp at this
        omega
      refine ⟨hl, ?_⟩
      unfold Json.esc
      rw [if_neg (show ¬ UInt8.ofNat d = 34 from ne 34 (by decide) (by omega)), if_neg (show ¬ UInt8.ofNat d = 92 from ne 92 (by decide) (by omega)), if_neg (show ¬ UInt8.ofNat d = 8 from ne 8 (by decide) (by omega)), if_neg (show ¬ UInt8.ofNat d = 9 from ne 9 (by decide) (by omega)), if_neg (show ¬ UInt8.ofNat d = 10 from ne 10 (by decide) (by omega)), if_neg (show ¬ UInt8.ofNat d = 12 from ne 12 (by decide) (by omega)), if_neg (show ¬ UInt8.ofNat d = 13 from ne 13 (by decide) (by omega)), hc, if_pos hl]
    have HD := hide sdigs_at
    have HL2 := hide low2
    have hcond : Hid ((d : Int) < 32) ∨ Hid ((d : Int) = 34) ∨ Hid ((d : Int) = 92) := by
      rcases hsm with h | h | h
      · exact Or.inl (hide (by omega))
      · exact Or.inr (Or.inl (hide (by omega)))
      · exact Or.inr (Or.inr (hide (by omega)))
    generalize Json.esc (UInt8.ofNat d) = E at *
    clear h32 e hsm hown
    rcases hcond with h | h | h
    · have k0 : ¬ (32 : Int) ≤ (d : Int) := by have := h.out; omega
      go_enter Tryd.func57, Tryd.ntmps57
      go_wp2_with fail
      refine (shortLetter_any (d : Int) w HT.out).mono ?_
      rintro e w' ⟨rfl, ⟨j, hj, he, rfl⟩ | ⟨hno, rfl⟩⟩
      · obtain ⟨hE, hl256⟩ := HE1.out j hj he
        have HEq := hide hE
        clear he hE
        obtain ⟨w, rfl⟩ : ∃ w : World, w = w' := ⟨_, rfl⟩
        have hB : Hid (Value.int .u8 (sLet j : Int) = B (UInt8.ofNat (sLet j))) := by show _ = _; simp; omega
        go_wp2_with (at_builtin; refine wpList_append_own _ rfl _ _ 60 rfl b 5 i0 (.int .u8 0) 1 1 Tryd.underlying60 hi hz0 hz1 hz2 rfl (by decide) _ _ _ rfl (HO.out.alloc _) ⟨w.heap.size, 0, none⟩ 2 2 [.int .u8 92, .int .u8 (sLet j : Int)] rfl rfl (cells_new w [.int .u8 92, .int .u8 (sLet j : Int)] 5) ?c2 ?c3 ?c4 ?c5 ?_)
        case c2 => intro u hu; simp at hu; rcases hu with rfl | rfl <;> rfl
        case c3 => unfold maxLen; omega
        case c4 => omega
        case c5 => first | omega | (simp; omega)
        intro v' w1 hown' hgrow _
        have H1 : Hid (w1.ownsRow b 5 1 v' (l ++ E).length ((l ++ E).map B)) := by
          show w1.ownsRow _ _ _ _ _ _
          rw [HEq.out, List.length_append, List.map_append]
          rw [hB.out] at hown'
          exact hown'
        have H2 : Hid (Fr b w w1) := ((Fr.refl b w).alloc hb _).grown (HO.out.alloc _) hgrow (by simp; omega)
        clear hown' hgrow
        go_wp2
        go_ret
        exact ⟨_, rfl, H1.out, H2.out⟩
      · obtain ⟨hd32, hE⟩ := HE2.out hno
        have HEq := hide hE
        clear hno hE
        obtain ⟨w, rfl⟩ : ∃ w : World, w = w' := ⟨_, rfl⟩
        go_wp2_with fail
        have q1 : (d : Int) / 16 = ((d / 16 : Nat) : Int) := by omega
        have q2 : bits .and .i32 (d : Int) 15 = ((d % 16 : Nat) : Int) := HL2.out d hd32
        have b1 : d / 16 < 16 := by omega
        have b2 : d % 16 < 16 := by omega
        have hD16 : ({ data := #[48, 49, 50, 51, 52, 53, 54, 55, 56, 57, 97, 98, 99, 100, 101, 102] } : ByteArray).size = 16 := rfl
        unfold sdigs at HD
        generalize ({ data := #[48, 49, 50, 51, 52, 53, 54, 55, 56, 57, 97, 98, 99, 100, 101, 102] } : ByteArray) = DG at *
        generalize d / 16 = n1 at *
        generalize d % 16 = n2 at *
        have l1 : (n1 : Int) < (DG.size : Int) := by omega
        have l2 : (n2 : Int) < (DG.size : Int) := by omega
        have z1 : (0 : Int) ≤ (n1 : Int) := Int.natCast_nonneg _
        have z2 : (0 : Int) ≤ (n2 : Int) := Int.natCast_nonneg _
        have m1 : n1 < DG.size := by omega
        have m2 : n2 < DG.size := by omega
        have HD1 := hide (HD.out n1 b1 m1)
        have HD2 := hide (HD.out n2 b2 m2)
        go_region_held3 (fun _ => True) (first | trivial | go_keep)
          ((refine step_append_lies _ (by rfl) _ _ _ (by rfl) b 5 i0 _ 1 1 Tryd.underlying60 hi hz0 hz1 hz2 rfl (by omega) v l.length _ (by rfl) ((HO.out.alloc _).drew)
              ⟨w.heap.size, 0, none⟩ 6 6 [B 92, B 117, B 48, B 48, B DG[n1], B DG[n2]] (by rfl) (by rfl) (World.news_of_block (cs := #[B 92, B 117, B 48, B 48, B DG[n1], B DG[n2]]) (t := 5) (fr := (0, 0)) (heap_alloc_new w _)) (by simp [Value.oneCell'])
              (by omega) (by unfold maxLen; omega) (by omega) (by simp; omega) (w.heap.size + 1) (by simp) ?_; intro gg cap w1 hown1 hgrow hat hlt2))
        all_goals
          have H1 : Hid (w1.ownsRow b 5 1 (.slice (some ⟨gg, 0, none⟩) (l.length + 6) cap) (l ++ E).length ((l ++ E).map B)) := by
            show w1.ownsRow _ _ _ _ _ _
            rw [HEq.out, List.length_append, List.map_append, ← HD1.out, ← HD2.out]
            exact hown1
          have H2 : Hid (Fr b w w1) := (((Fr.refl b w).alloc hb _).drew).grown ((HO.out.alloc _).drew) hgrow (by simp; omega)
          clear hown1 hgrow hat hlt2
          go_wp2
          go_ret
          exact ⟨_, rfl, H1.out, H2.out⟩
    · have k1' : (32 : Int) ≤ (d : Int) := by have := h.out; omega
      have k1 : ¬ ((d : Int) < 32) := by have := h.out; omega
      have k2 : ((d : Int) != 34) = false := by have := h.out; simp; omega
      go_enter Tryd.func57, Tryd.ntmps57
      go_wp2_with fail
      refine (shortLetter_any (d : Int) w HT.out).mono ?_
      rintro e w' ⟨rfl, ⟨j, hj, he, rfl⟩ | ⟨hno, rfl⟩⟩
      · obtain ⟨hE, hl256⟩ := HE1.out j hj he
        have HEq := hide hE
        clear he hE
        obtain ⟨w, rfl⟩ : ∃ w : World, w = w' := ⟨_, rfl⟩
        have hB : Hid (Value.int .u8 (sLet j : Int) = B (UInt8.ofNat (sLet j))) := by show _ = _; simp; omega
        go_wp2_with (at_builtin; refine wpList_append_own _ rfl _ _ 60 rfl b 5 i0 (.int .u8 0) 1 1 Tryd.underlying60 hi hz0 hz1 hz2 rfl (by decide) _ _ _ rfl (HO.out.alloc _) ⟨w.heap.size, 0, none⟩ 2 2 [.int .u8 92, .int .u8 (sLet j : Int)] rfl rfl (cells_new w [.int .u8 92, .int .u8 (sLet j : Int)] 5) ?c2 ?c3 ?c4 ?c5 ?_)
        case c2 => intro u hu; simp at hu; rcases hu with rfl | rfl <;> rfl
        case c3 => unfold maxLen; omega
        case c4 => omega
        case c5 => first | omega | (simp; omega)
        intro v' w1 hown' hgrow _
        have H1 : Hid (w1.ownsRow b 5 1 v' (l ++ E).length ((l ++ E).map B)) := by
          show w1.ownsRow _ _ _ _ _ _
          rw [HEq.out, List.length_append, List.map_append]
          rw [hB.out] at hown'
          exact hown'
        have H2 : Hid (Fr b w w1) := ((Fr.refl b w).alloc hb _).grown (HO.out.alloc _) hgrow (by simp; omega)
        clear hown' hgrow
        go_wp2
        go_ret
        exact ⟨_, rfl, H1.out, H2.out⟩
      · exact absurd h.out (hno 0 (by decide))
    · have k1' : (32 : Int) ≤ (d : Int) := by have := h.out; omega
      have k1 : ¬ ((d : Int) < 32) := by have := h.out; omega
      have k2 : ((d : Int) != 34) = true := by have := h.out; simp; omega
      have k3 : ((d : Int) != 92) = false := by have := h.out; simp; omega
      go_enter Tryd.func57, Tryd.ntmps57
      go_wp2_with fail
      refine (shortLetter_any (d : Int) w HT.out).mono ?_
      rintro e w' ⟨rfl, ⟨j, hj, he, rfl⟩ | ⟨hno, rfl⟩⟩
      · obtain ⟨hE, hl256⟩ := HE1.out j hj he
        have HEq := hide hE
        clear he hE
        obtain ⟨w, rfl⟩ : ∃ w : World, w = w' := ⟨_, rfl⟩
        have hB : Hid (Value.int .u8 (sLet j : Int) = B (UInt8.ofNat (sLet j))) := by show _ = _; simp; omega
        go_wp2_with (at_builtin; refine wpList_append_own _ rfl _ _ 60 rfl b 5 i0 (.int .u8 0) 1 1 Tryd.underlying60 hi hz0 hz1 hz2 rfl (by decide) _ _ _ rfl (HO.out.alloc _) ⟨w.heap.size, 0, none⟩ 2 2 [.int .u8 92, .int .u8 (sLet j : Int)] rfl rfl (cells_new w [.int .u8 92, .int .u8 (sLet j : Int)] 5) ?c2 ?c3 ?c4 ?c5 ?_)
        case c2 => intro u hu; simp at hu; rcases hu with rfl | rfl <;> rfl
        case c3 => unfold maxLen; omega
        case c4 => omega
        case c5 => first | omega | (simp; omega)
        intro v' w1 hown' hgrow _
        have H1 : Hid (w1.ownsRow b 5 1 v' (l ++ E).length ((l ++ E).map B)) := by
          show w1.ownsRow _ _ _ _ _ _
          rw [HEq.out, List.length_append, List.map_append]
          rw [hB.out] at hown'
          exact hown'
        have H2 : Hid (Fr b w w1) := ((Fr.refl b w).alloc hb _).grown (HO.out.alloc _) hgrow (by simp; omega)
        clear hown' hgrow
        go_wp2
        go_ret
        exact ⟨_, rfl, H1.out, H2.out⟩
      · exact absurd h.out (hno 1 (by decide))
end Go.Proofs.YtkkgngmhdlmgnaaDoor.jw
