import Derived.Test.YtilhfmhjgfmejaaGreatDoorMRgCh9
import Derived.OwnWalk
namespace Go.Proofs.YtilhfmhjgfmejaaGreatDoor.rg
open Go.ChangeShapes Go.WideShapes Go.ChangeAt Go.RowKit Go.Proofs.YtilhfmhjgfmejaaGreatDoor.common Go.Maps
attribute [local go_sem ↓] Go.wp_at_zero Go.wp_at_succ

theorem infoSt : (Tryz.prog.info? 9).map (fun i => (i.zero, i.size, i.bytes)) = some (some (.string ⟨#[]⟩), 1, 16) := by kernel_rfl
theorem mm_keep {w w' : World} {base : Nat} {e : TypeId} {size : Nat} {v : Value} {n : Nat} {xs : List Value} (h : w.ownsRow base e size v n xs) (hb : Below w.heap.size w w') : w'.ownsRow base e size v n xs := by
  refine ⟨h.1, ?_⟩
  rcases h.2 with h1 | ⟨g, cap, cur, rfl, h1, h2, h3⟩
  · exact Or.inl h1
  · exact Or.inr ⟨g, cap, cur, rfl, h1, (hb.block g (Array.getElem?_eq_some_iff.1 h2).1).trans h2, h3⟩

set_option maxRecDepth 100000 in
set_option maxHeartbeats 3200000 in
theorem clientIDs_any (v : Value) (l : List Cli) (w : World) (hL : LiesC w v l) (hl : l.length ≤ 1048576) :
    Calls Tryz.prog 35 #[v] w fun e w' => ∃ v', e = .returned v' ∧ w'.ownsRow w.heap.size 9 1 v' (l.map Cli.id).length ((l.map Cli.id).map Value.string) ∧ Below w.heap.size w w' := by
  obtain ⟨i0, hi, hz0, hz1, hz2⟩ := info_parts infoSt
  obtain ⟨oa, ca, rfl, hc⟩ := hL
  have HC := hide hc
  clear hc
  go_enter Tryz.func35, Tryz.ntmps35
  go_wp2_with (refine wpList_make_full _ rfl _ _ 43 rfl w.heap.size 9 i0 (.string ⟨#[]⟩) 1 Tryz.underlying43 hi hz0 hz1 .i64 .i64 (l.length : Int) (l.length : Int) l.length ?c1 ?c2 ?c3 ?c4 ?c5 ?c6 ?c7 ?_)
  try case c1 => rfl
  try case c2 => rfl
  try case c3 => rfl
  try case c4 => rfl
  try case c5 => rw [hz2]; omega
  try case c6 => unfold maxLen; omega
  try case c7 => exact Nat.le_refl _
  intro w1 ho1 hg1
  obtain ⟨X0, ho1⟩ : ∃ X0, w1.ownsRow w.heap.size 9 1 (.slice (some ⟨w.heap.size, 0, none⟩) l.length l.length) l.length X0 := ⟨_, ho1⟩
  have HXL : Hid (X0.length = l.length) := hide (by have := ho1.1; omega)
  have HO1 := hide ho1
  have HB1 : Hid (Below w.heap.size w w1) := (Below.refl _ _).grown hg1 (Nat.le_refl _) (fun k hk => by cases hk)
  clear ho1 hg1
  go_wp2_with fail
  go_loopw [11] (fun i wr => ∃ k : Nat, k ≤ l.length ∧ i = .int .i64 k ∧ Hid (wr.ownsRow w.heap.size 9 1 (.slice (some ⟨w.heap.size, 0, none⟩) l.length l.length) l.length (((l.take k).map Cli.id).map Value.string ++ X0.drop k)) ∧ Hid (Below w.heap.size w wr)) (fun i _ => l.length - (intOf i).toNat)
  case atStart => exact ⟨0, Nat.zero_le _, rfl, HO1, HB1⟩
  case round =>
    obtain ⟨k, hk, rfl, HO, HB⟩ := hrel
    by_cases hlt : k < l.length
    · have k1 : (k : Int) < (l.length : Int) := by omega
      have k0 : (0 : Int) ≤ (k : Int) := Int.natCast_nonneg _
      obtain ⟨b, o, vR, vS, rfl, hb, hca⟩ := HC.out k hlt
      have hcb := hca.below HB.out hb
      obtain ⟨_, _, _, _, _, _, hlr, hls⟩ := hcb
      have HRG := hide (CAt.range (hca.below HB.out hb))
      obtain ⟨oR, cR, rfl, _⟩ := hlr
      obtain ⟨oS, cS, rfl, _⟩ := hls
      have hxk : k < X0.length := by rw [HXL.out]; exact hlt
      have HST : Hid ((((l.take k).map Cli.id).map Value.string ++ X0.drop k).set k (.string l[k].id) = ((l.take (k + 1)).map Cli.id).map Value.string ++ X0.drop (k + 1)) := by
        show _ = _
        have h0 : k - (((l.take k).map Cli.id).map Value.string).length = 0 := by simp; omega
        rw [List.set_append_right _ _ (by simp; omega), h0, List.drop_eq_getElem_cons hxk, List.take_succ_eq_append_getElem hlt]
        simp only [List.set_cons_zero, List.map_append, List.map_cons, List.map_nil, List.append_assoc, List.singleton_append]
      have BX : Below wr.heap.size wr (wr.alloc (cliO l[k] (.slice oR l[k].to.length cR) (.slice oS l[k].sc.length cS))) := (Below.refl _ _).alloc (Nat.le_refl _) _
      have hO2 := mm_keep HO.out BX
      have c0 : (wr.alloc (cliO l[k] (.slice oR l[k].to.length cR) (.slice oS l[k].sc.length cS))).cell? ⟨w.heap.size, k, none⟩ = some ((((l.take k).map Cli.id).map Value.string ++ X0.drop k)[k]'(by simp; omega)) := (hO2.cellAt k (by omega)).trans (List.getElem?_eq_getElem _)
      have f0 := hO2.frozenAt k
      have x0 : (wr.alloc (cliO l[k] (.slice oR l[k].to.length cR) (.slice oS l[k].sc.length cS))).cell? ⟨wr.heap.size, 0, none⟩ = some (.string l[k].id) := cell_of (heap_new wr _) 0
      have hO3 := (hO2.stored k (.string l[k].id)).1
      rw [HST.out] at hO3
      have HO3 := hide hO3
      have HB3 := hide ((keepW HB.out BX).setCell (p := ⟨w.heap.size, k, none⟩) (Nat.le_refl _) (.string l[k].id))
      generalize (((l.take k).map Cli.id).map Value.string ++ X0.drop k)[k]'(by simp; omega) = y0 at c0
      generalize l[k] = x at *
      obtain ⟨id, pub, salt, dig, tos, sc⟩ := x
      dsimp only [c1, cliO] at HRG c0 f0 x0 HO3 HB3
      clear hca BX hO2 hO3 hxk
      go_wp2_with (refine wpList_load_mid rfl 45 _ rfl b (o + k * 6) rfl _ _ HRG.out Tryz.underlying45 rfl sizeCl ?_)
      go_roundw
      case rel => exact ⟨k + 1, by omega, by go_num, HO3, HB3⟩
      case measure => simp [intOf]; omega
    · have k1 : ¬ (k : Int) < (l.length : Int) := by omega
      obtain rfl : k = l.length := by omega
      rw [List.take_length, show X0.drop l.length = [] from List.drop_eq_nil_of_le (by rw [HXL.out]; exact Nat.le_refl _), List.append_nil] at HO
      clear hlt hk
      go_wp2_with fail
      go_ret
      exact ⟨_, rfl, by simpa using HO.out, HB.out⟩
end Go.Proofs.YtilhfmhjgfmejaaGreatDoor.rg

namespace Go.Proofs.YtilhfmhjgfmejaaGreatDoor.rg
open Go.ChangeShapes Go.WideShapes Go.ChangeAt Go.RowKit Go.Proofs.YtilhfmhjgfmejaaGreatDoor.common Go.Maps
attribute [local go_sem ↓] Go.wp_at_zero Go.wp_at_succ

set_option maxRecDepth 100000 in
set_option maxHeartbeats 3200000 in
theorem userNames_any (v : Value) (l : List Usr) (w : World) (hL : LiesU w v l) (hl : l.length ≤ 1048576) :
    Calls Tryz.prog 36 #[v] w fun e w' => ∃ v', e = .returned v' ∧ w'.ownsRow w.heap.size 9 1 v' (l.map Usr.name).length ((l.map Usr.name).map Value.string) ∧ Below w.heap.size w w' := by
  obtain ⟨i0, hi, hz0, hz1, hz2⟩ := info_parts infoSt
  obtain ⟨oa, ca, rfl, hc⟩ := hL
  have HC := hide hc
  clear hc
  go_enter Tryz.func36, Tryz.ntmps36
  go_wp2_with (refine wpList_make_full _ rfl _ _ 43 rfl w.heap.size 9 i0 (.string ⟨#[]⟩) 1 Tryz.underlying43 hi hz0 hz1 .i64 .i64 (l.length : Int) (l.length : Int) l.length ?c1 ?c2 ?c3 ?c4 ?c5 ?c6 ?c7 ?_)
  try case c1 => rfl
  try case c2 => rfl
  try case c3 => rfl
  try case c4 => rfl
  try case c5 => rw [hz2]; omega
  try case c6 => unfold maxLen; omega
  try case c7 => exact Nat.le_refl _
  intro w1 ho1 hg1
  obtain ⟨X0, ho1⟩ : ∃ X0, w1.ownsRow w.heap.size 9 1 (.slice (some ⟨w.heap.size, 0, none⟩) l.length l.length) l.length X0 := ⟨_, ho1⟩
  have HXL : Hid (X0.length = l.length) := hide (by have := ho1.1; omega)
  have HO1 := hide ho1
  have HB1 : Hid (Below w.heap.size w w1) := (Below.refl _ _).grown hg1 (Nat.le_refl _) (fun k hk => by cases hk)
  clear ho1 hg1
  go_wp2_with fail
  go_loopw [11] (fun i wr => ∃ k : Nat, k ≤ l.length ∧ i = .int .i64 k ∧ Hid (wr.ownsRow w.heap.size 9 1 (.slice (some ⟨w.heap.size, 0, none⟩) l.length l.length) l.length (((l.take k).map Usr.name).map Value.string ++ X0.drop k)) ∧ Hid (Below w.heap.size w wr)) (fun i _ => l.length - (intOf i).toNat)
  case atStart => exact ⟨0, Nat.zero_le _, rfl, HO1, HB1⟩
  case round =>
    obtain ⟨k, hk, rfl, HO, HB⟩ := hrel
    by_cases hlt : k < l.length
    · have k1 : (k : Int) < (l.length : Int) := by omega
      have k0 : (0 : Int) ≤ (k : Int) := Int.natCast_nonneg _
      obtain ⟨b, o, rfl, hb, c0', c1', c2'⟩ := HC.out k hlt
      have d0 := (HB.out.cell (p := ⟨b, o + k * 3, none⟩) hb).trans c0'
      have d1 := (HB.out.cell (p := ⟨b, o + k * 3 + 1, none⟩) hb).trans c1'
      have d2 := (HB.out.cell (p := ⟨b, o + k * 3 + 2, none⟩) hb).trans c2'
      have hxk : k < X0.length := by rw [HXL.out]; exact hlt
      have HST : Hid ((((l.take k).map Usr.name).map Value.string ++ X0.drop k).set k (.string l[k].name) = ((l.take (k + 1)).map Usr.name).map Value.string ++ X0.drop (k + 1)) := by
        show _ = _
        have h0 : k - (((l.take k).map Usr.name).map Value.string).length = 0 := by simp; omega
        rw [List.set_append_right _ _ (by simp; omega), h0, List.drop_eq_getElem_cons hxk, List.take_succ_eq_append_getElem hlt]
        simp only [List.set_cons_zero, List.map_append, List.map_cons, List.map_nil, List.append_assoc, List.singleton_append]
      have BX : Below wr.heap.size wr (wr.alloc (.cells #[.string l[k].name, .string l[k].salt, .string l[k].dig] 47)) := (Below.refl _ _).alloc (Nat.le_refl _) _
      have hO2 := mm_keep HO.out BX
      have c0 : (wr.alloc (.cells #[.string l[k].name, .string l[k].salt, .string l[k].dig] 47)).cell? ⟨w.heap.size, k, none⟩ = some ((((l.take k).map Usr.name).map Value.string ++ X0.drop k)[k]'(by simp; omega)) := (hO2.cellAt k (by omega)).trans (List.getElem?_eq_getElem _)
      have f0 := hO2.frozenAt k
      have x0 : (wr.alloc (.cells #[.string l[k].name, .string l[k].salt, .string l[k].dig] 47)).cell? ⟨wr.heap.size, 0, none⟩ = some (.string l[k].name) := cell_of (heap_new wr _) 0
      have hO3 := (hO2.stored k (.string l[k].name)).1
      rw [HST.out] at hO3
      have HO3 := hide hO3
      have HB3 := hide ((keepW HB.out BX).setCell (p := ⟨w.heap.size, k, none⟩) (Nat.le_refl _) (.string l[k].name))
      generalize (((l.take k).map Usr.name).map Value.string ++ X0.drop k)[k]'(by simp; omega) = y0 at c0
      generalize l[k] = x at *
      obtain ⟨nm, salt, dig⟩ := x
      dsimp only at d0 d1 d2 c0 f0 x0 HO3 HB3
      have HRG : Hid (wr.rangeAt b (o + k * 3) [.string nm, .string salt, .string dig]) := fun j u hu => by
        match j, hu with
        | 0, hu => cases hu; exact d0
        | 1, hu => cases hu; exact d1
        | 2, hu => cases hu; exact d2
      clear c0' c1' c2' d0 d1 d2 BX hO2 hO3 hxk
      go_wp2_with (refine wpList_load_mid rfl 47 _ rfl b (o + k * 3) rfl _ _ HRG.out Tryz.underlying47 rfl sizeUs ?_)
      go_roundw
      case rel => exact ⟨k + 1, by omega, by go_num, HO3, HB3⟩
      case measure => simp [intOf]; omega
    · have k1 : ¬ (k : Int) < (l.length : Int) := by omega
      obtain rfl : k = l.length := by omega
      rw [List.take_length, show X0.drop l.length = [] from List.drop_eq_nil_of_le (by rw [HXL.out]; exact Nat.le_refl _), List.append_nil] at HO
      clear hlt hk
      go_wp2_with fail
      go_ret
      exact ⟨_, rfl, by simpa using HO.out, HB.out⟩
end Go.Proofs.YtilhfmhjgfmejaaGreatDoor.rg

namespace Go.Proofs.YtilhfmhjgfmejaaGreatDoor.rg
open Go.ChangeShapes Go.WideShapes Go.ChangeAt Go.RowKit Go.Proofs.YtilhfmhjgfmejaaGreatDoor.common Go.Maps
attribute [local go_sem ↓] Go.wp_at_zero Go.wp_at_succ

/-- a slice is no longer than its room -/
def CapV (v : Value) : Prop := ∀ oa n c, v = .slice oa n c → n ≤ c
theorem own_cap {w : World} {base : Nat} {e : TypeId} {size : Nat} {v : Value} {n : Nat} {xs : List Value} (h : w.ownsRow base e size v n xs) : CapV v := by
  intro oa m c hv
  rcases h.2 with ⟨h1, h0⟩ | ⟨g, cap, cur, h1, _, _, hn, _⟩
  · rw [hv] at h1; cases h1; exact Nat.le_refl _
  · rw [hv] at h1; cases h1; exact hn
/-- does a name or an address stand twice? -/
def twB (cs : List Cli) (us : List Usr) : Bool := repB (cs.map Cli.id) || (repB (us.map Usr.name) || cs.any fun x => repB x.to)

set_option maxRecDepth 100000 in
set_option maxHeartbeats 3200000 in
theorem hasTwice_any (w : World) (t : Ten) (vC vU : Value) (cs : List Cli) (us : List Usr) (hC : LiesC w vC cs) (hU : LiesU w vU us) (hK : KeepsC CapV w vC cs) (hcs : cs.length ≤ 1048576) (hus : us.length ≤ 1048576) (hci : ∀ x ∈ cs, x.to.length ≤ 4611686018427387904) :
    Calls Tryz.prog 15 #[.agg #[.int .i64 t.a0, .int .i64 t.a1, .int .i64 t.a2, .int .i64 t.a3, .int .i64 t.a4, .int .i64 t.a5, .int .i64 t.a6, .int .i64 t.a7, .int .i64 t.a8, .int .i64 t.a9, vC, vU]] w fun e w' => e = .returned (.bool (twB cs us)) ∧ Below w.heap.size w w' := by
  have HID := hide (fun Y (hY : Below w.heap.size w Y) => clientIDs_any vC cs Y (hC.below hY) hcs)
  have HUN := hide (fun Y (hY : Below w.heap.size w Y) => userNames_any vU us Y (hU.below hY) hus)
  have HCF := hide (fun Y (hY : Below w.heap.size w Y) => containsP_any 37 (fun x => repB x.to) CapV vC cs Y (hC.below hY) (hK.below hC hY) (by omega) address_enters (fun x hx W vR vS _ h1 h2 h3 => repeatsAddress_any x vR vS W h1 h2 (hci x hx) h3))
  obtain ⟨oC, cC, rfl, _⟩ := hC
  obtain ⟨oU, cU, rfl, _⟩ := hU
  have hb := heap_new w (.cells #[.int .i64 t.a0, .int .i64 t.a1, .int .i64 t.a2, .int .i64 t.a3, .int .i64 t.a4, .int .i64 t.a5, .int .i64 t.a6, .int .i64 t.a7, .int .i64 t.a8, .int .i64 t.a9, .slice oC cs.length cC, .slice oU us.length cU] 25)
  have HB : Hid (Below w.heap.size w (w.alloc (.cells #[.int .i64 t.a0, .int .i64 t.a1, .int .i64 t.a2, .int .i64 t.a3, .int .i64 t.a4, .int .i64 t.a5, .int .i64 t.a6, .int .i64 t.a7, .int .i64 t.a8, .int .i64 t.a9, .slice oC cs.length cC, .slice oU us.length cU] 25))) := (Below.refl _ _).alloc (Nat.le_refl _) _
  have p10 : (w.alloc (.cells #[.int .i64 t.a0, .int .i64 t.a1, .int .i64 t.a2, .int .i64 t.a3, .int .i64 t.a4, .int .i64 t.a5, .int .i64 t.a6, .int .i64 t.a7, .int .i64 t.a8, .int .i64 t.a9, .slice oC cs.length cC, .slice oU us.length cU] 25)).cell? ⟨w.heap.size, 10, none⟩ = some (.slice oC cs.length cC) := cell_of hb 10
  have HP : Hid (∀ Y, Below (w.alloc (.cells #[.int .i64 t.a0, .int .i64 t.a1, .int .i64 t.a2, .int .i64 t.a3, .int .i64 t.a4, .int .i64 t.a5, .int .i64 t.a6, .int .i64 t.a7, .int .i64 t.a8, .int .i64 t.a9, .slice oC cs.length cC, .slice oU us.length cU] 25)).heap.size (w.alloc (.cells #[.int .i64 t.a0, .int .i64 t.a1, .int .i64 t.a2, .int .i64 t.a3, .int .i64 t.a4, .int .i64 t.a5, .int .i64 t.a6, .int .i64 t.a7, .int .i64 t.a8, .int .i64 t.a9, .slice oC cs.length cC, .slice oU us.length cU] 25)) Y → Y.cell? ⟨w.heap.size, 10, none⟩ = some (.slice oC cs.length cC) ∧ Y.cell? ⟨w.heap.size, 11, none⟩ = some (.slice oU us.length cU)) := fun Y hY => by
    have h9 := (hY.block w.heap.size (Array.getElem?_eq_some_iff.1 hb).1).trans hb
    exact ⟨cell_of h9 10, cell_of h9 11⟩
  have HQ : Hid (twB cs us = (repB (cs.map Cli.id) || (repB (us.map Usr.name) || cs.any fun x => repB x.to))) := rfl
  have HL1 : Hid ((cs.map Cli.id).length ≤ 4611686018427387904) := by show _ ≤ _; rw [List.length_map]; omega
  have HL2 : Hid ((us.map Usr.name).length ≤ 4611686018427387904) := by show _ ≤ _; rw [List.length_map]; omega
  generalize twB cs us = r at *
  generalize cs.map Cli.id = li at *
  generalize us.map Usr.name = ln at *
  generalize (cs.any fun x => repB x.to) = q3 at *
  clear hb hK
  go_enter Tryz.func15, Tryz.ntmps15
  go_wp2_with fail
  generalize w.alloc (.cells #[.int .i64 t.a0, .int .i64 t.a1, .int .i64 t.a2, .int .i64 t.a3, .int .i64 t.a4, .int .i64 t.a5, .int .i64 t.a6, .int .i64 t.a7, .int .i64 t.a8, .int .i64 t.a9, .slice oC cs.length cC, .slice oU us.length cU] 25) = V at *
  refine (HID.out V HB.out).mono ?_
  rintro x w1 ⟨v1, rfl, ho1, b1⟩
  have HR1 := hide (repeats_any v1 li w1 (ss.lies_of_own ho1) HL1.out (own_cap ho1))
  obtain ⟨p10, p11⟩ := HP.out w1 b1
  have HV1 := hide b1
  have HB1 := hide (keepW HB.out b1)
  obtain ⟨o1, k1, rfl⟩ := form_w ho1
  generalize repB li = q1 at *
  clear b1 ho1
  cases q1 with
  | true =>
    have HT : Hid (r = true) := by show _ = _; rw [HQ.out]; rfl
    go_wp2_with fail
    refine HR1.out.mono ?_
    rintro x w2 ⟨rfl, h2⟩
    obtain rfl := h2.symm
    clear h2
    go_wp2_with fail
    go_ret
    exact ⟨by rw [HT.out] <;> rfl, HB1.out⟩
  | false =>
    go_wp2_with fail
    refine HR1.out.mono ?_
    rintro x w2 ⟨rfl, h2⟩
    obtain rfl := h2.symm
    clear h2
    go_wp2_with fail
    refine (HUN.out w1 HB1.out).mono ?_
    rintro x w3 ⟨v3, rfl, ho3, b3⟩
    have HR3 := hide (repeats_any v3 ln w3 (ss.lies_of_own ho3) HL2.out (own_cap ho3))
    obtain ⟨q10, q11⟩ := HP.out w3 (keepW HV1.out b3)
    have HB3 := hide (keepW HB1.out b3)
    obtain ⟨o3, k3, rfl⟩ := form_w ho3
    generalize repB ln = q2 at *
    clear b3 ho3
    cases q2 with
    | true =>
      have HT : Hid (r = true) := by show _ = _; rw [HQ.out]; rfl
      go_wp2_with fail
      refine HR3.out.mono ?_
      rintro x w4 ⟨rfl, h4⟩
      obtain rfl := h4.symm
      clear h4
      go_wp2_with fail
      go_ret
      exact ⟨by rw [HT.out] <;> rfl, HB3.out⟩
    | false =>
      have HT : Hid (r = q3) := by show _ = _; rw [HQ.out]; rfl
      go_wp2_with fail
      refine HR3.out.mono ?_
      rintro x w4 ⟨rfl, h4⟩
      obtain rfl := h4.symm
      clear h4
      go_wp2_with fail
      refine (HCF.out w3 HB3.out).mono ?_
      rintro x w5 ⟨rfl, b5⟩
      have HB5 := hide (keepW HB3.out b5)
      clear b5
      go_wp2_with fail
      go_ret
      exact ⟨by rw [HT.out] <;> rfl, HB5.out⟩
end Go.Proofs.YtilhfmhjgfmejaaGreatDoor.rg
