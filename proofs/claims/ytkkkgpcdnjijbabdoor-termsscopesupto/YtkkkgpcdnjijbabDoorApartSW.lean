import Derived.Test.YtkkkgpcdnjijbabDoorApartS
namespace Go.Proofs.YtkkkgpcdnjijbabDoor.aps
open Go.ChangeShapes Go.WideShapes Go.ChangeAt Go.RowKit Go.Proofs.YtkkkgpcdnjijbabDoor.common
open Go.Proofs.YtkkkgpcdnjijbabDoor.ss (sc)

def bh : ByteArray := ⟨#[98, 101, 104, 105, 110, 100]⟩
attribute [local go_sem ↓] Go.wp_at_zero Go.wp_at_succ

theorem Marked.form {B0 : Nat} {e : TypeId} {vs : Nat → Value} {n c : Nat → Nat} {w : World} (h : Marked B0 e vs n c w) {i : Nat} (hi : i < 3) : ∃ oa cp, vs i = .slice oa (n i) cp ∧ (0 < n i → ∃ g, oa = some ⟨g, 0, none⟩) := by
  obtain ⟨L, _, _, h4⟩ := h i hi
  rcases h4.2 with ⟨h, h0⟩ | ⟨g, cap, cur, h, _⟩
  · exact ⟨none, 0, by rw [h, h0], fun h => by omega⟩
  · exact ⟨_, cap, h, fun _ => ⟨g, rfl⟩⟩
theorem Marked.cell {B0 : Nat} {e : TypeId} {vs : Nat → Value} {n c : Nat → Nat} {w : World} (h : Marked B0 e vs n c w) {i : Nat} (hi : i < 3) {g cp : Nat} (hv : vs i = .slice (some ⟨g, 0, none⟩) (n i) cp) {k : Nat} (hk : k < n i) :
    ∃ p : ByteArray, w.cell? ⟨g, k, none⟩ = some (.string p) ∧ w.frozen? ⟨g, k, none⟩ = false ∧ (k < c i → p = mkd i) := by
  obtain ⟨L, h1, h2, h4⟩ := h i hi
  rw [hv] at h4
  have hL : k < L.length := by omega
  refine ⟨L[k], ?_, h4.frozenAt _, fun hc => h2 k hL hc⟩
  rw [h4.cellAt k (by omega)]; exact ss.sc_get L k hL

theorem conv_one (w : World) (i : Nat) (hi : i < 3) : (convert 62 9 (.slice (some ⟨w.heap.size, 0, none⟩) 1 1)).run Tryd.prog (w.alloc (.cells #[.int .u8 (i : Int)] 5)).drew = .ok (.string (mkd i)) (w.alloc (.cells #[.int .u8 (i : Int)] 5)).drew := by
  refine run_convert_bytes_back (P := Tryd.prog) _ 62 9 5 ⟨w.heap.size, 0, none⟩ 1 [UInt8.ofNat i] Tryd.underlying62 Tryd.underlying5 Tryd.underlying9 ?_
  intro j hj
  have hj0 : j = 0 := by simpa using hj
  subst hj0
  have : (w.alloc (.cells #[Value.int .u8 (i : Int)] 5)).cell? ⟨w.heap.size, 0, none⟩ = some (.int .u8 (i : Int)) := range_new w #[.int .u8 (i : Int)] _ 0 _ rfl
  rw [Addr.add_mid]
  refine Eq.trans this ?_
  rcases (show i = 0 ∨ i = 1 ∨ i = 2 by omega) with rfl | rfl | rfl <;> rfl

set_option maxRecDepth 100000 in
set_option maxHeartbeats 6400000 in
theorem apart_any (B0 B1 G cap : Nat) (vs : Nat → Value) (n : Nat → Nat) (w : World) (h3 : Three B0 B1 vs) (hn : ∀ i, i < 3 → n i ≤ 32) (hG : B1 ≤ G ∧ G < w.heap.size) (hc : ∀ i, i < 3 → w.cell? ⟨G, i, none⟩ = some (vs i)) (hm : Marked B0 9 vs n (fun _ => 0) w) (hB : B0 ≤ B1) :
    Calls Tryd.prog 16 #[.slice (some ⟨G, 0, none⟩) 3 cap] w fun e w' => e = .returned (.bool true) ∧ Mid B0 B1 w w' := by
  have HN := hide hn
  have HG := hide hG
  have HC := hide hc
  have HM := hide hm
  clear hn hG hc hm
  go_enter Tryd.func16, Tryd.ntmps16
  go_wp2_with fail
  go_loopw [3] (fun i wr => ∃ k : Nat, k ≤ 3 ∧ i = .int .i64 k ∧ Marked B0 9 vs n (fun j => if j < k then n j else 0) wr ∧ Mid B0 B1 w wr) (fun i _ => 3 - (intOf i).toNat)
  case atStart => exact ⟨0, by omega, rfl, by simpa using HM.out, Mid.refl _ _ _⟩
  case round =>
    obtain ⟨i, hi, rfl, hmk, hmid⟩ := hrel
    have HK := hide hmk
    have HD := hide hmid
    clear hmk hmid
    by_cases hlt : i < 3
    · have hii : (i : Int) < 3 := by omega
      obtain ⟨oa, cp, hv, hoa⟩ := HK.out.form hlt
      have HV := hide hv
      have HOA := hide hoa
      have hni := HN.out i hlt
      clear hv hoa
      have HCL : Hid (∀ X, Mid B0 B1 w X → X.cell? ⟨G, i, none⟩ = some (.slice oa (n i) cp)) := fun X hX => by
        rw [hX.cell HG.out.2 HG.out.1, HC.out i hlt, HV.out]
      go_wp2_with fail
      go_loopw [4] (fun v wx => ∃ k : Nat, k ≤ n i ∧ v = .int .i64 k ∧ Marked B0 9 vs n (fun j => if j = i then k else if j < i then n j else 0) wx ∧ Mid B0 B1 w wx) (fun v _ => n i - (intOf v).toNat)
      case atStart => exact ⟨0, Nat.zero_le _, rfl, HK.out.mono (fun j _ => by split <;> omega), HD.out⟩
      case round =>
        obtain ⟨k, hk, rfl, hmk, hmid⟩ := hrel
        have c0 := HCL.out _ hmid
        have HK2 := hide hmk
        have HD2 := hide hmid
        clear hmk hmid
        by_cases hkl : k < n i
        · have hki : (k : Int) < (n i : Int) := by omega
          obtain ⟨g, rfl⟩ := HOA.out (by omega)
          obtain ⟨p, d0, f0, _⟩ := HK2.out.cell hlt HV.out hkl
          have i0' : (0 : Int) ≤ (i : Int) := Int.natCast_nonneg _
          have k0' : (0 : Int) ≤ (k : Int) := Int.natCast_nonneg _
          go_wp2_with fail
          have hw8 : IntKind.u8.wrap (i : Int) = (i : Int) := by
            rcases (show i = 0 ∨ i = 1 ∨ i = 2 by omega) with rfl | rfl | rfl <;> rfl
          have hcv := conv_one wr i hlt
          have hA : Below wr.heap.size wr (wr.alloc (.cells #[.int .u8 (i : Int)] 5)) := (Below.refl _ _).alloc (Nat.le_refl _) _
          have c0a := HCL.out _ (HD2.out.below hA)
          obtain ⟨p2, d0a, f0a, _⟩ := (HK2.out.below hA).cell hlt HV.out hkl
          clear hA
          go_region
          have HS3 := hide (Marked.set h3 (HK2.out.below ((Below.refl _ _).alloc (Nat.le_refl _) (.cells #[.int .u8 (i : Int)] 5))) hlt HV.out hkl (by simp))
          have hrg := h3.rng i hlt g (by rw [HV.out]; rfl)
          have HS4 := hide ((HD2.out.alloc (.cells #[.int .u8 (i : Int)] 5)).setCell (p := ⟨g, k, none⟩) hrg (.string (mkd i)))
          clear hcv c0 c0a d0 f0 d0a f0a
          go_wp2_with fail
          go_roundw
          case rel => exact ⟨k + 1, by omega, by go_num, Marked.mono (c := _) HS3.out (fun j _ => by split <;> omega), HS4.out.drew⟩
          case measure => simp [intOf] <;> omega
        · obtain rfl : k = n i := by omega
          have hki : ¬ ((n i : Nat) : Int) < (n i : Int) := by omega
          have HS3 : Hid (Marked B0 9 vs n (fun j => if j < i + 1 then n j else 0) wr) := HK2.out.mono (fun j _ => by split <;> (try split) <;> (try split) <;> (first | omega | (subst_vars; omega)))
          go_wp2_with fail
          go_roundw
          case rel => exact ⟨i + 1, by omega, by go_num, HS3.out, HD2.out⟩
          case measure => simp [intOf] <;> omega
    · have hii : ¬ (i : Int) < 3 := by omega
      have HK3 : Hid (Marked B0 9 vs n n wr) := HK.out.mono (fun j hj => by rw [if_pos (by omega)]; exact Nat.le_refl _)
      clear HK
      go_wp2_with fail
      go_loopw [5, 6] (fun gr v wx => ∃ (i s : Nat), i ≤ 3 ∧ v = .int .i64 i ∧ gr = .int .i64 s ∧ 64 * i ≤ s ∧ s ≤ 96 * i ∧ Marked B0 9 vs n n wx ∧ Mid B0 B1 w wx) (fun _ v _ => 3 - (intOf v).toNat)
      case atStart => exact ⟨0, 0, by omega, rfl, rfl, by omega, by omega, HK3.out, HD.out⟩
      case round =>
        obtain ⟨i, s, hi, rfl, rfl, hs0, hs1, hmk, hmid⟩ := hrel
        have HK := hide hmk
        have HD1 := hide hmid
        clear hmk hmid
        by_cases hlt : i < 3
        · have hii : (i : Int) < 3 := by omega
          have i0' : (0 : Int) ≤ (i : Int) := Int.natCast_nonneg _
          obtain ⟨oa, cp, hv, hoa⟩ := HK.out.form hlt
          have HV := hide hv
          have hni := HN.out i hlt
          clear hv hoa
          have c0 : wr.cell? ⟨G, i, none⟩ = some (.slice oa (n i) cp) := by rw [HD1.out.cell HG.out.2 HG.out.1, HC.out i hlt, HV.out]
          have HW0 : Hid (∃ (L : List ByteArray) (r : List Value), L.length = n i ∧ (∀ t (h : t < L.length), L[t] = mkd i) ∧ wr.ownsRow B0 9 1 (.slice oa (n i) cp) (n i + 0) (sc L ++ r)) := by
            obtain ⟨L, h1, h2, h4⟩ := HK.out i hlt
            exact ⟨L, [], h1, fun t ht => h2 t ht (by omega), by rw [List.append_nil, ← HV.out]; exact h4⟩
          go_wp2_with fail
          go_loopw [7, 8] (fun m v wx => ∃ t : Nat, t ≤ 64 ∧ v = .int .i64 t ∧ (∃ oa' cp', m = .slice oa' (n i + t) cp') ∧ (∃ (L : List ByteArray) (r : List Value), L.length = n i ∧ (∀ t (h : t < L.length), L[t] = mkd i) ∧ wx.ownsRow B0 9 1 m (n i + t) (sc L ++ r)) ∧ Grows w.heap.size (vs i) m (n i) t ∧ Marked B0 9 vs n n wx ∧ Mid B0 B1 w wx) (fun _ v _ => 64 - (intOf v).toNat)
          case atStart => exact ⟨0, by omega, rfl, ⟨oa, cp, rfl⟩, HW0.out, Or.inr (Or.inl ⟨rfl, HV.out.symm⟩), HK.out, HD1.out⟩
          case round =>
            obtain ⟨t, ht, rfl, ⟨oa', cp', rfl⟩, ⟨L, r, hL, hLm, hown⟩, hgr, hmk, hmid⟩ := hrel
            have HO := hide hown
            have HL := hide hLm
            have HGR := hide hgr
            have HK2 := hide hmk
            have HD2 := hide hmid
            clear hown hLm hgr hmk hmid
            by_cases htl : t < 64
            · have hti : (t : Int) < 64 := by omega
              have HO2 := HO
              have HK3 := HK2
              have HD3 := HD2
              clear HO HK2 HD2
              obtain ⟨i0, hi0, hz0, hz1, hz2⟩ := info_parts ss.infoS
              go_wp2_with (at_builtin; refine wpList_append_keep _ rfl _ _ 25 rfl B0 9 i0 (.string ⟨#[]⟩) 1 16 Tryd.underlying25 hi0 hz0 hz1 hz2 rfl (by decide) _ _ _ rfl (HO2.out.alloc _) ⟨wr.heap.size, 0, none⟩ 1 [.string bh] rfl rfl (bk.cell_one_new _ _ _) ?c2 ?c3 ?c4 ?c5 ?_)
              case c2 => first | rfl | (intro u hu; simp at hu; subst hu; rfl)
              case c3 => unfold maxLen; omega
              case c4 => omega
              case c5 => have h1 := HD3.out.size; have h2 := HG.out; simp; omega
              intro v' w4 hown' hk4
              have HG4 := hide (grow_more (w0 := w) h3 (by have := HG.out; omega) (HK3.out.below ((Below.refl _ _).alloc (Nat.le_refl _) _)) hlt hL HL.out HGR.out (by have := HD3.out.size; simp; omega) (HD3.out.alloc _) (Nat.le_refl _) hown' (hk4.imp (fun ⟨g, cap, ⟨q1, q2⟩, q3, q4⟩ => ⟨g, cap, by rw [q1, q2], q3, q4⟩) (fun ⟨q1, q2⟩ => ⟨by rw [q1]; simp, q2⟩)))
              have hvf : ∃ oa'' cp'', v' = .slice oa'' (n i + t + 1) cp'' := by
                rcases hown'.2 with ⟨_, h⟩ | ⟨g, cap, cur, h, _⟩
                · omega
                · exact ⟨_, _, h⟩
              obtain ⟨oa'', cp'', rfl⟩ := hvf
              have HO4 := hide hown'
              clear hown' hk4 hi0 hz0 hz1 hz2
              go_wp2
              go_roundw
              case rel =>
                exact ⟨t + 1, by omega, by go_num, ⟨oa'', cp'', rfl⟩, ⟨L, _, hL, HL.out, HO4.out⟩, HG4.out.2.1, HG4.out.1, HG4.out.2.2⟩
              case measure => simp [intOf] <;> omega
            · have hti : ¬ (t : Int) < 64 := by omega
              have ht64 : t = 64 := by omega
              have HT := hide ht64
              clear ht64
              go_wp2_with fail
              go_roundw
              case rel => have ht64 := HT.out; exact ⟨i + 1, s + (n i + t), by omega, by go_num, by go_num, by omega, by omega, HK2.out, HD2.out⟩
              case measure => simp [intOf] <;> omega
        · have hii : ¬ (i : Int) < 3 := by omega
          have HI3 : Hid (192 ≤ s) := by show _ ≤ _; omega
          go_wp2_with fail
          go_loopw [9] (fun v wx => ∃ i : Nat, i ≤ 3 ∧ v = .int .i64 i ∧ Marked B0 9 vs n n wx ∧ Mid B0 B1 w wx) (fun v _ => 3 - (intOf v).toNat)
          case atStart => exact ⟨0, by omega, rfl, HK.out, HD1.out⟩
          case round =>
            obtain ⟨i, hi, rfl, hmk, hmid⟩ := hrel
            have HK2 := hide hmk
            have HD2 := hide hmid
            clear hmk hmid
            by_cases hlt : i < 3
            · have hii : (i : Int) < 3 := by omega
              have i0' : (0 : Int) ≤ (i : Int) := Int.natCast_nonneg _
              have hw8 : IntKind.u8.wrap (i : Int) = (i : Int) := by
                rcases (show i = 0 ∨ i = 1 ∨ i = 2 by omega) with rfl | rfl | rfl <;> rfl
              obtain ⟨oa, cp, hv, hoa⟩ := HK2.out.form hlt
              have HV := hide hv
              have HOA := hide hoa
              have hni := HN.out i hlt
              clear hv hoa
              have HCL : Hid (∀ X, Mid B0 B1 w X → X.cell? ⟨G, i, none⟩ = some (.slice oa (n i) cp)) := fun X hX => by
                rw [hX.cell HG.out.2 HG.out.1, HC.out i hlt, HV.out]
              go_wp2_with fail
              go_loopw [10] (fun v wx => ∃ k : Nat, k ≤ n i ∧ v = .int .i64 k ∧ Marked B0 9 vs n n wx ∧ Mid B0 B1 w wx) (fun v _ => n i - (intOf v).toNat)
              case atStart => exact ⟨0, Nat.zero_le _, rfl, HK2.out, HD2.out⟩
              case round =>
                obtain ⟨k, hk, rfl, hmk, hmid⟩ := hrel
                have c0 := HCL.out _ hmid
                have HK3 := hide hmk
                have HD3 := hide hmid
                clear hmk hmid
                by_cases hkl : k < n i
                · have hki : (k : Int) < (n i : Int) := by omega
                  obtain ⟨g, rfl⟩ := HOA.out (by omega)
                  obtain ⟨p, d0, _, hp⟩ := HK3.out.cell hlt HV.out hkl
                  rw [hp hkl] at d0
                  clear hp
                  have k0' : (0 : Int) ≤ (k : Int) := Int.natCast_nonneg _
                  go_wp2_with fail
                  have hcv := conv_one wr i hlt
                  have hA : Below wr.heap.size wr (wr.alloc (.cells #[.int .u8 (i : Int)] 5)) := (Below.refl _ _).alloc (Nat.le_refl _) _
                  have c0a := HCL.out _ (HD3.out.below hA)
                  obtain ⟨p2, d0a, _, hp2⟩ := (HK3.out.below hA).cell hlt HV.out hkl
                  rw [hp2 hkl] at d0a
                  clear hp2 p2
                  have HK4 := hide (HK3.out.below hA)
                  have HD4 := hide (HD3.out.below hA)
                  clear hA
                  go_region
                  all_goals
                    go_wp2_with fail
                    go_roundw
                    case rel => exact ⟨k + 1, by omega, by go_num, HK4.out, HD4.out.drew⟩
                    case measure => simp [intOf] <;> omega
                · obtain rfl : k = n i := by omega
                  have hki : ¬ ((n i : Nat) : Int) < (n i : Int) := by omega
                  go_wp2_with fail
                  go_roundw
                  case rel => exact ⟨i + 1, by omega, by go_num, HK3.out, HD3.out⟩
                  case measure => simp [intOf] <;> omega
            · have hii : ¬ (i : Int) < 3 := by omega
              have hs2 : (192 : Int) ≤ (s : Int) := by have := HI3.out; omega
              go_wp2_with fail
              go_ret
              exact ⟨by simp <;> omega, HD2.out⟩

end Go.Proofs.YtkkkgpcdnjijbabDoor.aps
