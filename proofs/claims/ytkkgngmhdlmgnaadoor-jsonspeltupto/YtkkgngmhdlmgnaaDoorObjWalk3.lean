import Derived.Test.YtkkgngmhdlmgnaaDoorObjWalk2
namespace Go.Proofs.YtkkgngmhdlmgnaaDoor.jw
open Go.ChangeShapes Go.WideShapes Go.ChangeAt Go.RowKit Go.Proofs.YtkkgngmhdlmgnaaDoor.common
attribute [local go_sem ↓] Go.wp_at_zero Go.wp_at_succ

/-- how long a text the members may need -/
def tot : List Mem → Nat
  | [] => 0
  | m :: r => 6 * (m.name.length + m.text.length) + 40 + tot r
theorem tot_app : ∀ l m : List Mem, tot (l ++ m) = tot l + tot m
  | [], m => by simp [tot]
  | x :: r, m => by show _ + tot (r ++ m) = _ + tot r + tot m; rw [tot_app r m]; omega
theorem tot_take (l : List Mem) (k : Nat) (h : k < l.length) : tot (l.take k) + (6 * (l[k].name.length + l[k].text.length) + 40) ≤ tot l := by
  have e : l = l.take k ++ (l[k] :: l.drop (k + 1)) := by rw [← List.drop_eq_getElem_cons h, List.take_append_drop]
  have := congrArg tot e
  rw [tot_app] at this
  have h2 : tot (l[k] :: l.drop (k + 1)) = 6 * (l[k].name.length + l[k].text.length) + 40 + tot (l.drop (k + 1)) := rfl
  omega
theorem tot_mem {l : List Mem} {m : Mem} (h : m ∈ l) : 6 * (m.name.length + m.text.length) + 40 ≤ tot l := by
  obtain ⟨k, hk, rfl⟩ := List.getElem_of_mem h
  have := tot_take l k hk
  omega
theorem quote_len (l : List UInt8) : (Json.quote l).length ≤ 6 * l.length + 2 := by
  have h1 := (inner_len l).2
  unfold Json.quote
  simp only [List.length_cons, List.length_append, List.length_nil]; omega
def sep (l : List Mem) : List UInt8 := if l = [] then [] else [44]
theorem row_snoc : ∀ (l : List Mem) (m : Mem), Json.rowOf (l ++ [m]) = Json.rowOf l ++ sep l ++ Json.memberOf m
  | [], m => by simp [Json.rowOf, sep]
  | [x], m => by simp [Json.rowOf, sep]
  | x :: y :: r, m => by
    have ih := row_snoc (y :: r) m
    show Json.memberOf x ++ 44 :: Json.rowOf ((y :: r) ++ [m]) = _
    rw [ih]
    simp [sep, Json.rowOf]
theorem row_len : ∀ l : List Mem, (∀ m ∈ l, Json.inRange m.num) → (Json.rowOf l).length ≤ tot l
  | [], _ => by simp [Json.rowOf]
  | [m], h => by
    have h1 := quote_len m.name
    have h2 := valueOf_len m (h m (by simp))
    show (Json.quote m.name ++ 58 :: Json.valueOf m).length ≤ 6 * (m.name.length + m.text.length) + 40 + 0
    simp only [List.length_append, List.length_cons]; omega
  | m :: n :: r, h => by
    have ih := row_len (n :: r) (fun x hx => h x (List.mem_cons_of_mem _ hx))
    have h1 := quote_len m.name
    have h2 := valueOf_len m (h m (by simp))
    show (Json.quote m.name ++ 58 :: Json.valueOf m ++ 44 :: Json.rowOf (n :: r)).length ≤ 6 * (m.name.length + m.text.length) + 40 + tot (n :: r)
    simp only [List.length_append, List.length_cons]; omega

theorem cell_one_at (w : World) (x : Value) (t : TypeId) (k : Nat) (hk : k = w.heap.size) : ∀ j u, [x][j]? = some u → (w.alloc (.cells #[x] t)).cell? ((⟨k, 0, none⟩ : Addr).add j) = some u := by
  subst hk; exact cell_one_new w x t
/-- a member in a block of its own -/
def Blk (w : World) (P : Nat) (m : Mem) : Prop := w.heap[P]? = some (.cells #[S m.name, .int .i64 m.kind, S m.text, .int .i64 m.num, .bool m.flag] 37)
theorem Blk.at {w : World} {P : Nat} {m : Mem} (h : Blk w P m) : At w P 0 m := by
  unfold Blk at h
  exact ⟨by simp [World.cell?, h], by simp [World.cell?, h], by simp [World.cell?, h], by simp [World.cell?, h], by simp [World.cell?, h]⟩
theorem Blk.fr {w w' : World} {b P : Nat} {m : Mem} (h : Blk w P m) (hf : Fr b w w') : Blk w' P m :=
  hf.others P _ h (fun e => by cases e) (fun c fz e => by injection e with _ e _; exact absurd e (by decide))
theorem Blk.new (w : World) (m : Mem) : Blk (w.alloc (.cells #[S m.name, .int .i64 m.kind, S m.text, .int .i64 m.num, .bool m.flag] 37)) w.heap.size m := heap_alloc_new w _

set_option maxRecDepth 100000 in
set_option maxHeartbeats 6400000 in
theorem appendObject_any (b : Nat) (vl : Value) (l : List Mem) (w : World) (hl : Lies w vl l) (hln : l.length ≤ 4611686018427387904) (hbl : 0 < l.length → ∀ oa n cap, vl = .slice oa n cap → ∀ a, oa = some a → a.block < b)
    (hS : Short w) (hG : G5 b) (hok : ∀ m ∈ l, Json.memOk m) (hlen : tot l + 100 ≤ 140737488355328) (hb : b ≤ w.heap.size) (hp : Pow b w) :
    Calls Tryd.prog 28 #[.slice none 0 0, vl] w fun e w' => ∃ v', e = .returned v' ∧ w'.ownsRow b 5 1 v' (Json.objOf l).length ((Json.objOf l).map B) ∧ Fr b w w' := by
  obtain ⟨i0, hi, hz0, hz1, hz2⟩ := info_parts info8
  obtain ⟨oa, ca, rfl, hcp, hca⟩ := hl
  have HA := hide hca
  have HBL := hide (fun h0 a h => hbl h0 oa l.length ca rfl a h)
  have HS := hide hS
  have HG := hide hG
  have HOK := hide hok
  have HP := hide hp
  clear hca hS hG hok hp hbl
  go_enter Tryd.func28, Tryd.ntmps28
  go_wp2_with (at_builtin; refine wpList_append_own _ rfl _ _ 60 rfl b 5 i0 (.int .u8 0) 1 1 Tryd.underlying60 hi hz0 hz1 hz2 rfl (by decide) _ _ _ rfl ((World.ownsRow_nil _ _ _ _).alloc _) ⟨w.heap.size, 0, none⟩ 1 1 [_] rfl rfl (cell_one_new _ _ _) ?c2 ?c3 ?c4 ?c5 ?_)
  case c2 => first | rfl | (intro u hu; simp at hu; subst hu; rfl)
  case c3 => unfold maxLen; omega
  case c4 => omega
  case c5 => first | omega | (simp; done) | (simp; omega)
  intro v1 w1 hown' hgrow _
  have H1 : Hid (w1.ownsRow b 5 1 v1 ([123] ++ Json.rowOf (l.take 0)).length (([123] ++ Json.rowOf (l.take 0)).map B)) := hown'
  have H2 : Hid (Fr b w w1) := ((Fr.refl b w).alloc hb _).grown ((World.ownsRow_nil _ _ _ _).alloc _) hgrow (by simp; omega)
  clear hown' hgrow
  go_wp2_with fail
  go_loopw [0, 12] (fun v i wr => ∃ k : Nat, k ≤ l.length ∧ i = .int .i64 k ∧ wr.ownsRow b 5 1 v ([123] ++ Json.rowOf (l.take k)).length (([123] ++ Json.rowOf (l.take k)).map B) ∧ Fr b w wr) (fun _ i _ => l.length - (intOf i).toNat)
  case atStart => exact ⟨0, Nat.zero_le _, rfl, H1.out, H2.out⟩
  case round =>
    obtain ⟨k, hk, rfl, hown, hfr⟩ := hrel
    have hsz : b ≤ wr.heap.size := Nat.le_trans hb hfr.size
    have hrl := row_len (l.take k) (fun m hm => (HOK.out m (List.mem_of_mem_take hm)).2.2)
    by_cases hlt : k < l.length
    · have hki : (k : Int) < (l.length : Int) := by omega
      have k0 : (0 : Int) ≤ (k : Int) := Int.natCast_nonneg _
      obtain ⟨bb, o, rfl, hbb, ha⟩ := HA.out k hlt
      have hA := ha.below hfr.below (HBL.out (by omega) _ rfl)
      have d0 := hA.c0
      have d1 := hA.c1
      have d2 := hA.c2
      have d3 := hA.c3
      have d4 := hA.c4
      have htk := tot_take l k hlt
      have hmok := HOK.out l[k] (List.getElem_mem hlt)
      have hLL : ([123] ++ Json.rowOf (l.take k)).length ≤ tot (l.take k) + 1 := by simp only [List.length_append, List.length_cons, List.length_nil]; omega
      have hsn : [123] ++ Json.rowOf (l.take (k + 1)) = (([123] ++ Json.rowOf (l.take k) ++ sep (l.take k)) ++ Json.quote l[k].name ++ [58]) ++ Json.valueOf l[k] := by
        rw [List.take_succ_eq_append_getElem hlt, row_snoc]; simp [Json.memberOf]
      have HSK : Hid (sep (l.take k) = if k = 0 then [] else [44]) := by
        show _ = _
        unfold sep
        by_cases h0 : k = 0
        · subst h0; rw [if_pos rfl, if_pos List.take_zero]
        · rw [if_neg h0, if_neg (by intro e; rw [List.take_eq_nil_iff] at e; rcases e with e | e; exact h0 e; subst e; simp at hlt)]
      have HVN : Hid (Lib.validD l[k].name = true) := by
        have := hmok.2.1; simp only [Json.plainMem, Bool.and_eq_true] at this; exact this.1
      have HVT : Hid (l[k].kind = 1 → Lib.validD l[k].text = true) := by
        intro hk1; have := hmok.2.1; simp [Json.plainMem, hk1] at this; exact this.2
      have HKN : Hid (l[k].kind = 1 ∨ l[k].kind = 2 ∨ l[k].kind = 3) := by
        have := hmok.1; show _ ∨ _; simpa [Json.known, or_assoc] using this
      have HNR : Hid (Json.inRange l[k].num) := hmok.2.2
      have HSN := hide hsn
      clear hmok ha hA hrl hsn
      generalize l[k] = m at *
      have HO1 := hide (hown.alloc (.cells #[S m.name, .int .i64 m.kind, S m.text, .int .i64 m.num, .bool m.flag] 37))
      have HF1 := hide (hfr.alloc hsz (.cells #[S m.name, .int .i64 m.kind, S m.text, .int .i64 m.num, .bool m.flag] 37))
      have HB1 := hide (Blk.new wr m)
      clear hown hfr
      generalize [123] ++ Json.rowOf (l.take k) = L1 at *
      by_cases h0 : k = 0
      · have HL2 : Hid (L1 = L1 ++ sep (l.take k)) := by show _ = _; rw [HSK.out, if_pos h0, List.append_nil]
        have hkz : ¬ (0 : Int) < (k : Int) := by omega
        clear h0
        go_wp2_with fail
        generalize wr.alloc (.cells #[S m.name, .int .i64 m.kind, S m.text, .int .i64 m.num, .bool m.flag] 37) = W2 at *
        generalize wr.heap.size = P at *
        clear d0 d1 d2 d3 d4
        obtain ⟨L2, hL2⟩ : ∃ L2, L1 = L2 := ⟨_, rfl⟩
        have HO2 := HO1
        have HF2 := HF1
        have HB := HB1
        rw [hL2] at HO2
        have hLL2 : L2.length ≤ tot (l.take k) + 2 := by rw [← hL2]; omega
        have HL2 : Hid (L2 = L1 ++ sep (l.take k)) := by show _ = _; rw [← hL2]; exact HL2.out
        clear hL2 HO1 HF1 HB1
        have f0 := HB.out.at.c0
        go_wp2_with fail
        refine (appendQuoted_any b _ L2 ⟨m.name.toArray⟩ W2 (HS.out.under HF2.out.below HG.out) HG.out HVN.out HO2.out (by rw [str_size]; omega) (Nat.le_trans hb HF2.out.size)).mono ?_
        rintro x W3 ⟨v3, rfl, ho3, hf3⟩
        have HO3 := hide ho3
        have HF3 := hide (HF2.out.trans hf3)
        have HB3 := hide (HB.out.fr hf3)
        clear ho3 hf3 f0
        rw [str_list] at HO3
        have hq3 := quote_len m.name
        obtain ⟨L3, hL3⟩ : ∃ L3, L2 ++ Json.quote m.name = L3 := ⟨_, rfl⟩
        have hl3 : L3.length ≤ L2.length + 6 * m.name.length + 2 := by rw [← hL3, List.length_append]; omega
        rw [hL3] at HO3
        have HL3 := hide hL3
        clear hL3
        go_wp2_with (at_builtin; refine wpList_append_own _ rfl _ _ 60 rfl b 5 i0 (.int .u8 0) 1 1 Tryd.underlying60 hi hz0 hz1 hz2 rfl (by decide) _ _ _ rfl (HO3.out.alloc _) ⟨W3.heap.size, 0, none⟩ 1 1 [_] rfl rfl (cell_one_new _ _ _) ?d2 ?d3 ?d4 ?d5 ?_)
        case d2 => first | rfl | (intro u hu; simp at hu; subst hu; rfl)
        case d3 => unfold maxLen; omega
        case d4 => omega
        case d5 => have := HF3.out.size; first | omega | (simp; omega)
        intro v4 w4 hown' hgrow _
        have HO4 : Hid (w4.ownsRow b 5 1 v4 (L3 ++ [58]).length ((L3 ++ [58]).map B)) := by
          show w4.ownsRow _ _ _ _ _ _
          rw [List.length_append, List.map_append]; exact hown'
        have hf4 : Fr b W3 w4 := ((Fr.refl b W3).alloc (Nat.le_trans hb HF3.out.size) _).grown (HO3.out.alloc _) hgrow (by have := HF3.out.size; simp; omega)
        have HF4 := hide (HF3.out.trans hf4)
        have HB4 := hide (HB3.out.fr hf4)
        clear hown' hgrow hf4
        have hA4 := HB4.out.at
        have f0 := hA4.c0
        have f1 := hA4.c1
        have f2 := hA4.c2
        have f3 := hA4.c3
        have f4 := hA4.c4
        clear hA4
        go_wp2_with fail
        refine (appendValue_any b _ (L3 ++ [58]) m w4 (HS.out.under HF4.out.below HG.out) HG.out HVT.out HKN.out HNR.out HO4.out (by simp only [List.length_append, List.length_cons, List.length_nil]; omega) (Nat.le_trans hb HF4.out.size) (HP.out.on HF4.out.below)).mono ?_
        rintro x W5 ⟨v5, rfl, ho5, hf5⟩
        have HO5 := hide ho5
        have HF5 := hide (HF4.out.trans hf5)
        clear ho5 hf5 f0 f1 f2 f3 f4
        go_wp2
        go_roundw
        case rel => exact ⟨k + 1, by omega, by go_num, by rw [HSN.out, ← HL2.out, HL3.out]; exact HO5.out, HF5.out⟩
        case measure => simp [intOf] <;> omega
      · have hkz : (0 : Int) < (k : Int) := by omega
        have HL2' : Hid (L1 ++ [44] = L1 ++ sep (l.take k)) := by show _ = _; rw [HSK.out, if_neg h0]
        clear h0
        go_wp2_with (at_builtin; refine wpList_append_own _ rfl _ _ 60 rfl b 5 i0 (.int .u8 0) 1 1 Tryd.underlying60 hi hz0 hz1 hz2 rfl (by decide) _ _ _ rfl (HO1.out.alloc _) ⟨wr.heap.size + 1, 0, none⟩ 1 1 [_] rfl rfl (cell_one_at _ _ _ _ (by simp)) ?C2 ?C3 ?C4 ?C5 ?_)
        case C2 => first | rfl | (intro u hu; simp at hu; subst hu; rfl)
        case C3 => unfold maxLen; omega
        case C4 => omega
        case C5 => have := HF1.out.size; first | omega | (simp; omega)
        intro vC wC hown' hgrow _
        have HO2 : Hid (wC.ownsRow b 5 1 vC (L1 ++ [44]).length ((L1 ++ [44]).map B)) := by
          show wC.ownsRow _ _ _ _ _ _
          rw [List.length_append, List.map_append]; exact hown'
        have hfC : Fr b (wr.alloc (.cells #[S m.name, .int .i64 m.kind, S m.text, .int .i64 m.num, .bool m.flag] 37)) wC := ((Fr.refl b _).alloc (Nat.le_trans hb HF1.out.size) _).grown (HO1.out.alloc _) hgrow (by have := HF1.out.size; simp; omega)
        have HF2 := hide (HF1.out.trans hfC)
        have HB := hide (HB1.out.fr hfC)
        have HL2 := HL2'
        clear hown' hgrow hfC HL2' d0 d1 d2 d3 d4 HO1 HF1 HB1
        obtain ⟨L2, hL2⟩ : ∃ L2, L1 ++ [44] = L2 := ⟨_, rfl⟩
        rw [hL2] at HO2 HL2
        have hLL2 : L2.length ≤ tot (l.take k) + 2 := by rw [← hL2]; simp only [List.length_append, List.length_cons, List.length_nil]; omega
        clear hL2
        obtain ⟨W2, rfl⟩ : ∃ W2 : World, W2 = wC := ⟨_, rfl⟩
        generalize wr.heap.size = P at *
        have f0 := HB.out.at.c0
        go_wp2_with fail
        refine (appendQuoted_any b _ L2 ⟨m.name.toArray⟩ W2 (HS.out.under HF2.out.below HG.out) HG.out HVN.out HO2.out (by rw [str_size]; omega) (Nat.le_trans hb HF2.out.size)).mono ?_
        rintro x W3 ⟨v3, rfl, ho3, hf3⟩
        have HO3 := hide ho3
        have HF3 := hide (HF2.out.trans hf3)
        have HB3 := hide (HB.out.fr hf3)
        clear ho3 hf3 f0
        rw [str_list] at HO3
        have hq3 := quote_len m.name
        obtain ⟨L3, hL3⟩ : ∃ L3, L2 ++ Json.quote m.name = L3 := ⟨_, rfl⟩
        have hl3 : L3.length ≤ L2.length + 6 * m.name.length + 2 := by rw [← hL3, List.length_append]; omega
        rw [hL3] at HO3
        have HL3 := hide hL3
        clear hL3
        go_wp2_with (at_builtin; refine wpList_append_own _ rfl _ _ 60 rfl b 5 i0 (.int .u8 0) 1 1 Tryd.underlying60 hi hz0 hz1 hz2 rfl (by decide) _ _ _ rfl (HO3.out.alloc _) ⟨W3.heap.size, 0, none⟩ 1 1 [_] rfl rfl (cell_one_new _ _ _) ?d2 ?d3 ?d4 ?d5 ?_)
        case d2 => first | rfl | (intro u hu; simp at hu; subst hu; rfl)
        case d3 => unfold maxLen; omega
        case d4 => omega
        case d5 => have := HF3.out.size; first | omega | (simp; omega)
        intro v4 w4 hown' hgrow _
        have HO4 : Hid (w4.ownsRow b 5 1 v4 (L3 ++ [58]).length ((L3 ++ [58]).map B)) := by
          show w4.ownsRow _ _ _ _ _ _
          rw [List.length_append, List.map_append]; exact hown'
        have hf4 : Fr b W3 w4 := ((Fr.refl b W3).alloc (Nat.le_trans hb HF3.out.size) _).grown (HO3.out.alloc _) hgrow (by have := HF3.out.size; simp; omega)
        have HF4 := hide (HF3.out.trans hf4)
        have HB4 := hide (HB3.out.fr hf4)
        clear hown' hgrow hf4
        have hA4 := HB4.out.at
        have f0 := hA4.c0
        have f1 := hA4.c1
        have f2 := hA4.c2
        have f3 := hA4.c3
        have f4 := hA4.c4
        clear hA4
        go_wp2_with fail
        refine (appendValue_any b _ (L3 ++ [58]) m w4 (HS.out.under HF4.out.below HG.out) HG.out HVT.out HKN.out HNR.out HO4.out (by simp only [List.length_append, List.length_cons, List.length_nil]; omega) (Nat.le_trans hb HF4.out.size) (HP.out.on HF4.out.below)).mono ?_
        rintro x W5 ⟨v5, rfl, ho5, hf5⟩
        have HO5 := hide ho5
        have HF5 := hide (HF4.out.trans hf5)
        clear ho5 hf5 f0 f1 f2 f3 f4
        go_wp2
        go_roundw
        case rel => exact ⟨k + 1, by omega, by go_num, by rw [HSN.out, ← HL2.out, HL3.out]; exact HO5.out, HF5.out⟩
        case measure => simp [intOf] <;> omega
    · obtain rfl : k = l.length := by omega
      rw [List.take_length] at hown hrl
      have HQ : Hid (Json.objOf l = ([123] ++ Json.rowOf l) ++ [125]) := by show _ = _; simp [Json.objOf]
      have hLL : ([123] ++ Json.rowOf l).length ≤ tot l + 1 := by simp only [List.length_append, List.length_cons, List.length_nil]; omega
      have HF := hide hfr
      have HOw := hide hown
      clear hown hfr
      generalize [123] ++ Json.rowOf l = L at *
      go_wp2_with (at_builtin; refine wpList_append_own _ rfl _ _ 60 rfl b 5 i0 (.int .u8 0) 1 1 Tryd.underlying60 hi hz0 hz1 hz2 rfl (by decide) _ _ _ rfl (HOw.out.alloc _) ⟨wr.heap.size, 0, none⟩ 1 1 [_] rfl rfl (cell_one_new _ _ _) ?E2 ?E3 ?E4 ?E5 ?_)
      case E2 => first | rfl | (intro u hu; simp at hu; subst hu; rfl)
      case E3 => unfold maxLen; omega
      case E4 => omega
      case E5 => have := HF.out.size; first | omega | (simp; omega)
      intro vE wE hown' hgrow _
      have K1 : Hid (wE.ownsRow b 5 1 vE (Json.objOf l).length ((Json.objOf l).map B)) := by
        show wE.ownsRow _ _ _ _ _ _
        rw [HQ.out, List.length_append, List.map_append]; exact hown'
      have K2 : Hid (Fr b w wE) := (HF.out.alloc hsz _).grown (HOw.out.alloc _) hgrow (by simp; omega)
      clear hown' hgrow
      go_wp2
      go_ret
      exact ⟨_, rfl, K1.out, K2.out⟩

theorem Lies.blk {w : World} {v : Value} {l : List Mem} (h : Lies w v l) : 0 < l.length → ∀ oa n cap, v = .slice oa n cap → ∀ a, oa = some a → a.block < w.heap.size := by
  intro h0 oa n cap hv a ha
  obtain ⟨oa', cap', hv', _, hc⟩ := h
  obtain ⟨b, o, ho, hlt, _⟩ := hc 0 h0
  rw [hv] at hv'
  injection hv' with e1 _ _
  rw [← e1, ha] at ho
  injection ho with ho
  rw [ho]; exact hlt

/-- what Object answers -/
def objAns (e : Nat → Addr) (l : List Mem) : Value := if Json.check l = 0 then .tuple #[S (Json.objOf l), .nilIface] else .tuple #[S [], errV e (Json.check l)]

set_option maxRecDepth 100000 in
set_option maxHeartbeats 1600000 in
theorem object_any (vl : Value) (l : List Mem) (w : World) (hl : Lies w vl l) (hln : l.length ≤ 4611686018427387904) (hS : Short w) (hT : Tabs w) (hr : ∀ m ∈ l, Json.inRange m.num) (hlen : tot l + 100 ≤ 140737488355328) (hp : Pow w.heap.size w) (e : Nat → Addr) (he : Four w e) :
    Calls Tryd.prog 13 #[vl] w fun x w' => x = .returned (objAns e l) ∧ Below w.heap.size w w' := by
  obtain ⟨R, hR⟩ : ∃ R, objAns e l = R := ⟨_, rfl⟩
  rw [hR]
  have HR := hide hR
  have HL := hide hl
  have HS := hide hS
  have HT := hide hT
  have HE := hide he
  have HP := hide hp
  have HN := hide hr
  clear hR hl hS hT he hp hr
  go_enter Tryd.func13, Tryd.ntmps13
  go_wp2_with fail
  refine (refusal_any vl l w HL.out hln HT.out e HE.out (fun m hm => by have := tot_mem hm; omega)).mono ?_
  rintro x w1 ⟨rfl, hb1⟩
  have HB1 := hide hb1
  clear hb1
  by_cases hc : Json.check l = 0
  · have HRR : Hid (R = .tuple #[S (Json.objOf l), .nilIface]) := by show _ = _; rw [← HR.out]; exact if_pos hc
    obtain ⟨h1, h2, h3⟩ := Json.check_ok hc
    have HM : Hid (∀ m ∈ l, Json.memOk m) := fun m hm => ⟨(h2 m hm).1, (h2 m hm).2, HN.out m hm⟩
    have hev : errV e (Json.check l) = .nilIface := if_pos hc
    rw [hev]
    clear hev h1 h2 h3 hc
    go_wp2_with fail
    refine (appendObject_any w.heap.size vl l w1 (HL.out.below HB1.out) hln HL.out.blk (HS.out.under HB1.out HS.out.lt) HS.out.lt HM.out hlen HB1.out.size (HP.out.on HB1.out)).mono ?_
    rintro x w2 ⟨v', rfl, ho, hf⟩
    have hconv := conv_own ho rfl
    have H2 := hide (HB1.out.trans hf.below)
    clear ho hf
    go_wp2
    go_ret2
    exact ⟨by rw [HRR.out]; rfl, H2.out⟩
  · obtain ⟨a, ha⟩ : ∃ a, errV e (Json.check l) = X a := ⟨_, if_neg hc⟩
    have HRR : Hid (R = .tuple #[S [], X a]) := by show _ = _; rw [← HR.out]; unfold objAns; rw [if_neg hc, ha]
    rw [ha]
    clear ha hc
    go_wp2
    go_ret2
    exact ⟨by rw [HRR.out]; rfl, HB1.out⟩
end Go.Proofs.YtkkgngmhdlmgnaaDoor.jw
