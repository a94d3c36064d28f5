import Derived.Test.YtkkgngmhdlmgnaaDoorReadWalk8
import Derived.Deep.RegionLaw
namespace Go.Proofs.YtkkgngmhdlmgnaaDoor.jw
open Go.ChangeShapes Go.WideShapes Go.ChangeAt Go.RowKit Go.Proofs.YtkkgngmhdlmgnaaDoor.common
attribute [local go_sem ↓] Go.wp_at_zero Go.wp_at_succ

theorem At.all {w : World} {P : Nat} {m : Mem} (h : At w P 0 m) : w.cell? ⟨P, 0, none⟩ = some (S m.name) ∧ w.cell? ⟨P, 1, none⟩ = some (.int .i64 m.kind) ∧ w.cell? ⟨P, 2, none⟩ = some (S m.text) ∧ w.cell? ⟨P, 3, none⟩ = some (.int .i64 m.num) ∧ w.cell? ⟨P, 4, none⟩ = some (.bool m.flag) := ⟨h.c0, h.c1, h.c2, h.c3, h.c4⟩
/-- the members that the reader keeps: the first 32 -/
def Mems (w : World) (b : Nat) (mv : Value) (ms : List Mem) : Prop := w.ownsRow b 37 5 mv (ms.take 32).length (cms (ms.take 32))
/-- how the reading of a member ends -/
def MOpt (rb b : Nat) (s : ByteArray) (ms : List Mem) (ea : Addr) (w : World) (o : Option (Mem × List UInt8)) (e : Ending) (w' : World) : Prop :=
  Below rb w w' ∧ ((∃ m r a' mv', o = some (m, r) ∧ e = .returned (.tuple #[]) ∧ a' ≤ s.size ∧ s.data.toList.drop a' = r ∧ Rd w' rb s a' mv' (ms.length + 1) ∧ Mems w' b mv' (ms ++ [m])) ∨ (o = none ∧ e = PX ea))

theorem infoM : (Tryd.prog.info? 37).map (fun i => (i.zero, i.size, i.bytes)) = some (some (.agg #[.string ⟨#[]⟩, .int .i64 0, .string ⟨#[]⟩, .int .i64 0, .bool false]), 5, 56) := by kernel_rfl

set_option maxRecDepth 100000 in
set_option maxHeartbeats 6400000 in
theorem member_any (rb b : Nat) (s : ByteArray) (a : Nat) (mv : Value) (ms : List Mem) (ea : Addr) (w : World) (ha : a ≤ s.size) (hs : s.size ≤ reachBytes) (hrb : rb < b) (hb : b ≤ w.heap.size) (hms : ms.length ≤ s.size) (hr : Rd w rb s a mv ms.length) (hm : Mems w b mv ms) (he : Env w rb ea) :
    Calls Tryd.prog 37 #[ptr rb] w fun e w' => MOpt rb b s ms ea w (Json.member (s.data.toList.drop a)) e w' := by
  have hs63 : s.size < 9223372036854775800 := by unfold reachBytes at hs; omega
  obtain ⟨i0, hi, hz0, hz1, hz2⟩ := info_parts infoM
  obtain ⟨o, ho⟩ : ∃ o, Json.member (s.data.toList.drop a) = o := ⟨_, rfl⟩
  rw [ho]
  have HR := hide hr
  have HE := hide he
  have HM := hide hm
  have HLT := hide hr.lt
  unfold Json.member at ho
  clear hr he hm
  go_enter Tryd.func37, Tryd.ntmps37
  go_wp2_with fail
  refine (quoted_any rb s a mv ms.length ea w ha hs HR.out HE.out).mono ?_
  rintro e w1 (⟨v, r, a1, ho1, ha1, hd1, rfl, hk1, hr1⟩ | ⟨ho1, rfl, hk1⟩)
  · obtain ⟨⟨t, r'⟩, hq, he2⟩ := Option.map_eq_some_iff.1 ho1
    simp only [Prod.mk.injEq] at he2
    obtain ⟨rfl, rfl⟩ := he2
    rw [hq] at ho
    simp only at ho
    have HO := hide ho
    have HK1 := hide hk1
    have HR1 := hide hr1
    have HD1 := hide hd1
    clear ho1 hq ho hk1 hr1 hd1
    go_wp2_with fail
    refine (skipBlanks_any rb s a1 mv ms.length w1 ha1 hs63 HR1.out).mono ?_
    rintro e w2 ⟨a2, ha2, hd2, rfl, hk2, hr2⟩
    have HK2 := hide (HK1.out.trans hk2)
    have HR2 := hide hr2
    have HD2 := hide hd2
    have HE2 := hide (HE.out.kp HR.out HK2.out)
    rw [HD1.out] at HD2
    clear hk2 hr2 hd2
    go_wp2_with fail
    refine (part_any rb s a2 mv ms.length ea w2 58 58 rfl ha2 hs63 HR2.out HE2.out).mono ?_
    rintro e w3 (⟨v3, r3, a3, ho3, ha3, hd3, rfl, hk3, hr3⟩ | ⟨ho3, rfl, hk3⟩)
    · obtain ⟨r3', hq3, he3⟩ := Option.map_eq_some_iff.1 ho3
      simp only [Prod.mk.injEq] at he3
      obtain ⟨rfl, rfl⟩ := he3
      rw [HD2.out] at hq3
      have ho4 := HO.out
      rw [hq3] at ho4
      simp only at ho4
      have HO4 := hide ho4
      have HK3 := hide (HK2.out.trans hk3)
      have HR3 := hide hr3
      have HD3 := hide hd3
      have HE3 := hide (HE.out.kp HR.out HK3.out)
      clear ho3 hq3 ho4 hk3 hr3 hd3 HO
      go_wp2_with fail
      refine (value_any rb s a3 mv ms.length ea w3 ha3 hs HR3.out HE3.out).mono ?_
      rintro e w4 (⟨v4, r4, a4, ho5, ha4, hd4, rfl, hk4, hr4⟩ | ⟨ho5, rfl, hk4⟩)
      · obtain ⟨⟨m, r4'⟩, hq5, he5⟩ := Option.map_eq_some_iff.1 ho5
        simp only [Prod.mk.injEq] at he5
        obtain ⟨rfl, rfl⟩ := he5
        rw [HD3.out] at hq5
        have ho6 := HO4.out
        rw [hq5] at ho6
        simp only at ho6
        have HO6 := hide ho6
        have HK4 := hide (HK3.out.trans hk4)
        have HR4 := hide hr4
        have HD4 := hide hd4
        clear ho5 hq5 ho6 hk4 hr4 hd4 HO4
        go_wp2_with fail
        have hr4b : Rd (w4.alloc (.cells #[S m.name, .int .i64 m.kind, S m.text, .int .i64 m.num, .bool m.flag] 37)) rb s a4 mv ms.length := HR4.out.below ((Below.refl w4.heap.size w4).alloc (Nat.le_refl _) _)
        have HB4 := hide (Blk.new w4 m)
        have HK4b := hide (HK4.out.trans (Kp.alloc0 rb w4 (.cells #[S m.name, .int .i64 m.kind, S m.text, .int .i64 m.num, .bool m.flag] 37)))
        have HPG : Hid (w.heap.size ≤ w4.heap.size) := HK4.out.size
        have HPL : Hid (w4.heap.size < (w4.alloc (.cells #[S m.name, .int .i64 m.kind, S m.text, .int .i64 m.num, .bool m.flag] 37)).heap.size) := by show _ < _; simp
        generalize w4.alloc (.cells #[S m.name, .int .i64 m.kind, S m.text, .int .i64 m.num, .bool m.flag] 37) = W4 at *
        generalize w4.heap.size = P at *
        refine (skipBlanks_any rb s a4 mv ms.length W4 ha4 hs63 hr4b).mono ?_
        rintro e w5 ⟨a5, ha5, hd5, rfl, hk5, hr5⟩
        have hPr : ¬ P = rb := by have := HPG.out; have := HLT.out; omega
        have hPr2 : ¬ rb = P := fun e => hPr e.symm
        have hB5 : Blk w5 P m := (hk5.block P HPL.out hPr).trans HB4.out
        have HK5 := hide (HK4b.out.trans hk5)
        have HR5 := hide hr5
        rw [HD4.out] at hd5
        have HD5 := hide hd5
        have HB5 := hide hB5
        have p0 := hB5.at.c0
        have p1 := hB5.at.c1
        have p2 := hB5.at.c2
        have p3 := hB5.at.c3
        have p4 := hB5.at.c4
        have g0 : w5.frozen? ⟨P, 0, none⟩ = false := by unfold Blk at hB5; simp [World.frozen?, hB5]
        have c2 := hr5.c2
        have c3 := hr5.c3
        have f2 := hr5.nf 2
        have f3 := hr5.nf 3
        clear hr4b hk5 hr5 hd5 hB5
        have HOM := hide (own_kp HM.out HK5.out hrb)
        obtain ⟨N, hN⟩ : ∃ N : Int, (ms.length : Int) = N := ⟨_, rfl⟩
        rw [hN] at c3
        have hcl : N < 9223372036854775800 := by omega
        have hcl0 : 0 ≤ N := by omega
        have HN := hide hN
        by_cases hn : ms.length < 32
        · have hni : N + 1 ≤ 32 := by omega
          have HNN := hide hn
          clear hn hN
          go_wp2_with fail
          have hR7 : Rd ((w5.setCell ⟨P, 0, none⟩ (S t)).setCell ⟨rb, 3, none⟩ (.int .i64 (N + 1))) rb s a5 mv (ms.length + 1) := by
            have h1 : Rd (w5.setCell ⟨P, 0, none⟩ (S t)) rb s a5 mv ms.length := by
              unfold Rd; rw [Below.heap_setCell w5 ⟨P, 0, none⟩ _ rb hPr2]; exact HR5.out
            have h2 := set_block h1 3 (.int .i64 (N + 1))
            unfold Rd
            rw [h2]
            simp
            have := HN.out
            omega
          have hB7 : Blk ((w5.setCell ⟨P, 0, none⟩ (S t)).setCell ⟨rb, 3, none⟩ (.int .i64 (N + 1))) P { m with name := t } := by
            unfold Blk
            rw [Below.heap_setCell _ ⟨rb, 3, none⟩ _ P hPr]
            exact set_block HB5.out 0 _
          have hO7 : ((w5.setCell ⟨P, 0, none⟩ (S t)).setCell ⟨rb, 3, none⟩ (.int .i64 (N + 1))).ownsRow b 37 5 mv (ms.take 32).length (cms (ms.take 32)) := by
            refine ⟨HOM.out.1, ?_⟩
            rcases HM.out.2 with hn | ⟨g, cap, cur, hv, hg, hh, rest⟩
            · exact .inl hn
            · refine .inr ⟨g, cap, cur, hv, hg, ?_, rest⟩
              have hgl := (Array.getElem?_eq_some_iff.1 hh).1
              have := HPG.out
              rw [Below.heap_setCell _ ⟨rb, 3, none⟩ _ g (by show g ≠ rb; omega), Below.heap_setCell _ ⟨P, 0, none⟩ _ g (by show g ≠ P; omega), HK5.out.block g hgl (by omega)]
              exact hh
          have HB7 : Hid (Below rb w ((w5.setCell ⟨P, 0, none⟩ (S t)).setCell ⟨rb, 3, none⟩ (.int .i64 (N + 1)))) :=
            (((HK5.out.under (Nat.le_of_lt HLT.out)).setCell (p := ⟨P, 0, none⟩) (by have := HPG.out; have := HLT.out; show rb ≤ P; omega) _).setCell (p := ⟨rb, 3, none⟩) (Nat.le_refl _) _)
          have HS7 : Hid (b ≤ ((w5.setCell ⟨P, 0, none⟩ (S t)).setCell ⟨rb, 3, none⟩ (.int .i64 (N + 1))).heap.size) := by show _ ≤ _; have := HB7.out.size; omega
          generalize (w5.setCell ⟨P, 0, none⟩ (S t)).setCell ⟨rb, 3, none⟩ (.int .i64 (N + 1)) = W7 at *
          clear p0 p1 p2 p3 p4 g0 c2 c3 f2 f3
          have q0 := hB7.at.c0
          have q1 := hB7.at.c1
          have q2 := hB7.at.c2
          have q3 := hB7.at.c3
          have q4 := hB7.at.c4
          have c2 := hR7.c2
          have f2 := hR7.nf 2
          have HR7 := hide hR7
          have htk : ms.take 32 = ms := List.take_of_length_le (by have := HNN.out; omega)
          have HO7 := hide hO7
          rw [htk] at HO7
          clear htk
          have HLL : Hid ((ms.take 32).length = ms.length) := by show _ = _; rw [List.length_take]; have := HNN.out; omega
          have HKP : Hid (∀ W', (W7.alloc (.cells #[S t, .int .i64 m.kind, S m.text, .int .i64 m.num, .bool m.flag] 37)).drew.grownBy W' mv.ownBlock → W'.heap[rb]? = W7.heap[rb]?) := by
            intro W' hg
            have hl := HR7.out.lt
            rw [hg.block rb (by show rb < (W7.alloc _).heap.size; simp; omega) (by intro e; have := (HO7.out.lt rb e.symm).1; omega)]
            exact Below.heap_alloc W7 _ rb hl
          have HBP : Hid (∀ W', (W7.alloc (.cells #[S t, .int .i64 m.kind, S m.text, .int .i64 m.num, .bool m.flag] 37)).drew.grownBy W' mv.ownBlock → At W' P 0 { m with name := t }) := by
            intro W' hg
            have hl : P < W7.heap.size := (Array.getElem?_eq_some_iff.1 hB7).1
            refine hB7.at.of ?_
            rw [hg.block P (by show P < (W7.alloc _).heap.size; simp; omega) (by
              intro e
              rcases HM.out.2 with ⟨hv, _⟩ | ⟨g, cap', cur, hv, hg', hh, rest⟩
              · rw [hv] at e; cases e
              · rw [hv] at e
                have e2 : P = g := Option.some.inj e
                have h1 := (Array.getElem?_eq_some_iff.1 hh).1
                have h2 := HPG.out
                rw [← e2] at h1
                exact Nat.lt_irrefl _ (Nat.lt_of_lt_of_le h1 h2))]
            exact Below.heap_alloc W7 _ P hl
          clear hR7 hB7 hO7
          have c2a : (W7.alloc (.cells #[S t, .int .i64 m.kind, S m.text, .int .i64 m.num, .bool m.flag] 37)).cell? ⟨rb, 2, none⟩ = some mv := by
            rw [← c2]; exact ((Below.refl W7.heap.size W7).alloc (Nat.le_refl _) _).cell HR7.out.lt
          go_region_law
            ((refine step_append_lies _ (by rfl) _ _ _ (by rfl) b 37 i0 _ 5 56 Tryd.underlying22 hi hz0 hz1 hz2 rfl (by omega) mv ms.length _ (by rfl) ((HO7.out.alloc _).drew) ⟨W7.heap.size, 0, none⟩ 1 1 [S t, .int .i64 m.kind, S m.text, .int .i64 m.num, .bool m.flag] (by rfl) (by rfl) (World.news_of_block (cs := #[S t, .int .i64 m.kind, S m.text, .int .i64 m.num, .bool m.flag]) (t := 37) (fr := (0, 0)) (heap_alloc_new W7 _)) (by simp [Value.oneCell']) (by omega) (by unfold maxLen; have := HNN.out; omega) (by have := HNN.out; omega) (by have := HS7.out; simp; omega) (W7.heap.size + 1) (by simp) ?_; intro gg cap w8 hown8 hgrow hat hlt2; have hB8 := HKP.out w8 hgrow; have hR8 : Rd w8 rb s a5 mv (ms.length + 1) := hB8.trans HR7.out; have f8 := hR8.nf 2; have c8 := hR8.c2; have hA8 : At w8 P 0 { m with name := t } := HBP.out w8 hgrow))
          all_goals
            have HF : Hid (Rd (w8.setCell ⟨rb, 2, none⟩ (.slice (some ⟨gg, 0, none⟩) (ms.length + 1) cap)) rb s a5 (.slice (some ⟨gg, 0, none⟩) (ms.length + 1) cap) (ms.length + 1)) := set_block hR8 2 _
            have HG : Hid (Mems (w8.setCell ⟨rb, 2, none⟩ (.slice (some ⟨gg, 0, none⟩) (ms.length + 1) cap)) b (.slice (some ⟨gg, 0, none⟩) (ms.length + 1) cap) (ms ++ [{ m with name := t }])) := by
              have e : (ms ++ [{ m with name := t }]).take 32 = ms ++ [{ m with name := t }] := List.take_of_length_le (by rw [List.length_append]; have := HNN.out; simp; omega)
              show Mems _ _ _ _
              unfold Mems
              rw [e, cms_app, List.length_append]
              have ho : w8.ownsRow b 37 5 (.slice (some ⟨gg, 0, none⟩) (ms.length + 1) cap) (ms.length + 1) (cms ms ++ cms [{ m with name := t }]) := hown8
              refine ⟨ho.1, ?_⟩
              rcases ho.2 with ⟨hv, _⟩ | ⟨g, cap', cur, hv, hg, hh, rest⟩
              · cases hv
              · refine .inr ⟨g, cap', cur, hv, hg, ?_, rest⟩
                rw [Below.heap_setCell _ ⟨rb, 2, none⟩ _ g (by show g ≠ rb; omega)]
                exact hh
            have HBF : Hid (Below rb w (w8.setCell ⟨rb, 2, none⟩ (.slice (some ⟨gg, 0, none⟩) (ms.length + 1) cap))) := by
              refine Below.setCell (p := ⟨rb, 2, none⟩) ?_ (Nat.le_refl _) _
              have h1 := (HB7.out.alloc (by have := HR7.out.lt; omega) (.cells #[S t, .int .i64 m.kind, S m.text, .int .i64 m.num, .bool m.flag] 37)).drew
              exact h1.grown hgrow (by show rb ≤ (W7.alloc _).heap.size; have := HR7.out.lt; simp; omega) (fun k hk => by have := (HO7.out.lt k hk).1; omega)
            clear hown8 hgrow hat hlt2 hB8 hR8 f8 c8 hA8
            go_wp2
            first | go_end0 | refine bodyPost_end (results_none rfl _ _ _) rfl ?_
            exact ⟨HBF.out, Or.inl ⟨{ m with name := t }, _, a5, _, HO6.out.symm, rfl, ha5, HD5.out, HF.out, HG.out⟩⟩
        · have hni : ¬ N + 1 ≤ 32 := by omega
          have HNN := hide hn
          clear hn hN
          have HR7 : Hid (Rd ((w5.setCell ⟨P, 0, none⟩ (S t)).setCell ⟨rb, 3, none⟩ (.int .i64 (N + 1))) rb s a5 mv (ms.length + 1)) := by
            have h1 : Rd (w5.setCell ⟨P, 0, none⟩ (S t)) rb s a5 mv ms.length := by
              unfold Rd; rw [Below.heap_setCell w5 ⟨P, 0, none⟩ _ rb hPr2]; exact HR5.out
            have h2 := set_block h1 3 (.int .i64 (N + 1))
            show Rd _ _ _ _ _ _
            unfold Rd
            rw [h2]
            simp
            have := HN.out
            omega
          have HO7 : Hid (((w5.setCell ⟨P, 0, none⟩ (S t)).setCell ⟨rb, 3, none⟩ (.int .i64 (N + 1))).ownsRow b 37 5 mv (ms.take 32).length (cms (ms.take 32))) := by
            refine ⟨HOM.out.1, ?_⟩
            rcases HM.out.2 with hn | ⟨g, cap, cur, hv, hg, hh, rest⟩
            · exact .inl hn
            · refine .inr ⟨g, cap, cur, hv, hg, ?_, rest⟩
              have hgl := (Array.getElem?_eq_some_iff.1 hh).1
              have := HPG.out
              rw [Below.heap_setCell _ ⟨rb, 3, none⟩ _ g (by show g ≠ rb; omega), Below.heap_setCell _ ⟨P, 0, none⟩ _ g (by show g ≠ P; omega), HK5.out.block g hgl (by omega)]
              exact hh
          have HB7 : Hid (Below rb w ((w5.setCell ⟨P, 0, none⟩ (S t)).setCell ⟨rb, 3, none⟩ (.int .i64 (N + 1)))) :=
            (((HK5.out.under (Nat.le_of_lt HLT.out)).setCell (p := ⟨P, 0, none⟩) (by have := HPG.out; have := HLT.out; show rb ≤ P; omega) _).setCell (p := ⟨rb, 3, none⟩) (Nat.le_refl _) _)
          go_wp2_with fail
          first | go_end0 | refine bodyPost_end (results_none rfl _ _ _) rfl ?_
          refine ⟨HB7.out, Or.inl ⟨{ m with name := t }, _, a5, mv, HO6.out.symm, rfl, ha5, HD5.out, HR7.out, ?_⟩⟩
          have e : (ms ++ [{ m with name := t }]).take 32 = ms.take 32 := List.take_append_of_le_length (by have := HNN.out; omega)
          unfold Mems
          rw [e]
          exact HO7.out
      · have hq5 := none_of_map ho5
        rw [HD3.out] at hq5
        have ho6 := HO4.out
        rw [hq5] at ho6
        have HX : Hid (o = none) := ho6.symm
        have HK4 := hide (HK3.out.trans hk4)
        clear ho5 hq5 ho6 hk4 HO4
        go_wp2
        exact ⟨rfl, HK4.out.under (Nat.le_of_lt HLT.out), Or.inr ⟨HX.out, rfl⟩⟩
    · have hq3 := none_of_map ho3
      rw [HD2.out] at hq3
      have ho4 := HO.out
      rw [hq3] at ho4
      have HX : Hid (o = none) := ho4.symm
      have HK3 := hide (HK2.out.trans hk3)
      clear ho3 hq3 ho4 hk3 HO
      go_wp2
      exact ⟨rfl, HK3.out.under (Nat.le_of_lt HLT.out), Or.inr ⟨HX.out, rfl⟩⟩
  · have hq := none_of_map ho1
    rw [hq] at ho
    have HX : Hid (o = none) := ho.symm
    have HK1 := hide hk1
    clear ho1 hq ho hk1
    go_wp2
    exact ⟨rfl, HK1.out.under (Nat.le_of_lt HLT.out), Or.inr ⟨HX.out, rfl⟩⟩
end Go.Proofs.YtkkgngmhdlmgnaaDoor.jw
