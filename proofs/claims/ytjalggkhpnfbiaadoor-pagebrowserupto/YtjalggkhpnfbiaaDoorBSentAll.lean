import Derived.Test.YtjalggkhpnfbiaaDoorBSentVal
namespace Go.Proofs.YtjalggkhpnfbiaaDoor.sent
open Go.ChangeShapes Go.WideShapes Go.ChangeAt Go.RowKit Go.Proofs.YtjalggkhpnfbiaaDoor.common Go.Proofs.YtjalggkhpnfbiaaDoor.lst Go.Maps
attribute [local go_sem ↓] Go.wp_at_zero Go.wp_at_succ

theorem map_below {H : Type} {P : Program} {k : TypeId} {R : Value → Option (DataW H × List MemPlace)} {b n : Nat} {D : DataW H} {B : Nat} {w w' : World} (h : w.ownsMap P k R b n D) (hb : Below B w w') (hB : b < B) : w'.ownsMap P k R b n D := by
  obtain ⟨es, clock, h1, h2⟩ := h
  exact ⟨es, clock, (hb.block b hB).trans h1, h2⟩

theorem own_base {w : World} {base base' : Nat} {e : TypeId} {size : Nat} {v : Value} {n : Nat} {xs : List Value} (h : w.ownsRow base e size v n xs) (hb : base' ≤ base) : w.ownsRow base' e size v n xs := by
  refine ⟨h.1, ?_⟩
  rcases h.2 with hh | ⟨g, cap, cur, hv, hg, hr⟩
  · exact Or.inl hh
  · exact Or.inr ⟨g, cap, cur, hv, Nat.le_trans hb hg, hr⟩

/-- a slice of inputs that reads as xs -/
def LiesI (w : World) (v : Value) (xs : List Inp) : Prop :=
  ∃ oa cap, v = .slice oa xs.length cap ∧ ∀ i (h : i < xs.length), ∃ b o, oa = some ⟨b, o, none⟩ ∧ b < w.heap.size ∧ w.cell? ⟨b, o + i * 4, none⟩ = some (.int .i64 xs[i].kind) ∧ w.cell? ⟨b, o + i * 4 + 1, none⟩ = some (.string xs[i].name) ∧ w.cell? ⟨b, o + i * 4 + 2, none⟩ = some (.string xs[i].value) ∧ w.cell? ⟨b, o + i * 4 + 3, none⟩ = some (.string xs[i].label)

theorem LiesI.below {w w' : World} {v : Value} {l : List Inp} (h : LiesI w v l) (hb : Below w.heap.size w w') : LiesI w' v l := by
  obtain ⟨oa, cap, hv, hc⟩ := h
  refine ⟨oa, cap, hv, fun i hi => ?_⟩
  obtain ⟨b, o, ho, hlt, c0, c1, c2, c3⟩ := hc i hi
  exact ⟨b, o, ho, Nat.lt_of_lt_of_le hlt hb.size, (hb.cell hlt).trans c0, (hb.cell hlt).trans c1, (hb.cell hlt).trans c2, (hb.cell hlt).trans c3⟩

/-- inputs whose parts are values of the language -/
def FitsI (xs : List Inp) : Prop := ∀ x ∈ xs, -9223372036854775808 ≤ x.kind ∧ x.kind ≤ 9223372036854775807 ∧ x.name.size ≤ maxLen ∧ x.value.size ≤ maxLen

/-- what one input sends -/
def one (l : List PB) (x : Inp) : List PB := if (valOf l x).2 = true ∧ x.name ≠ ⟨#[]⟩ then [(x.name, (valOf l x).1)] else []
/-- what a form sends -/
def sentL (l : List PB) (xs : List Inp) : List PB := xs.flatMap (one l)
theorem sentL_take (l : List PB) (xs : List Inp) (k : Nat) (h : k < xs.length) : sentL l (xs.take (k + 1)) = sentL l (xs.take k) ++ one l xs[k] := by
  unfold sentL
  rw [List.take_succ_eq_append_getElem h, List.flatMap_append]
  simp
theorem one_len (l : List PB) (x : Inp) : (one l x).length ≤ 1 := by
  unfold one
  split <;> simp
theorem sentL_len (l : List PB) : ∀ xs : List Inp, (sentL l xs).length ≤ xs.length
  | [] => Nat.le_refl _
  | x :: r => by
    have h1 := one_len l x
    have h2 := sentL_len l r
    unfold sentL at h2 ⊢
    rw [List.flatMap_cons, List.length_append, List.length_cons]
    omega

theorem not_emp {s : ByteArray} (h : ¬ s = ⟨#[]⟩) : s.toList.isEmpty = false := by
  cases hh : s.toList with
  | nil =>
    refine absurd ?_ h
    rw [ByteArray.toList_eq] at hh
    cases s
    simp only [ByteArray.mk.injEq]
    exact Array.toList_inj.1 hh
  | cons _ _ => rfl

set_option maxRecDepth 100000 in
set_option maxHeartbeats 3200000 in
theorem sent_any (vI vT : Value) (act but : ByteArray) (l : List PB) (xs : List Inp) (w : World) (hi : LiesI w vI xs) (hl : Lies w vT l) (hf : Fits l) (hx : FitsI xs) (hs : l.length * 32 ≤ 140737488355328) (hsx : xs.length * 32 ≤ 140737488355328) :
    Calls Tryd.prog 22 #[.agg #[.string act, vI, .string but], vT] w fun e w' => ∃ v', e = .returned v' ∧ w'.ownsRow w.heap.size 66 2 v' (sentL l xs).length (cl (sentL l xs)) ∧ Below w.heap.size w w' := by
  obtain ⟨i0, hin, hz0, hz1, hz2⟩ := info_parts infoP
  have B0 : Below w.heap.size w (w.alloc (.cells #[.string act, vI, .string but] 31)) := (Below.refl _ _).alloc (Nat.le_refl _) _
  have HI := hide (hi.below B0)
  have HL := hide (hl.below B0)
  have hF : (w.alloc (.cells #[.string act, vI, .string but] 31)).heap[w.heap.size]? = some (.cells #[.string act, vI, .string but] 31) := (MapKept.heap_alloc w _).1
  clear hi hl
  go_enter Tryd.func22, Tryd.ntmps22
  go_wp2_with fail
  generalize hW : w.alloc (.cells #[.string act, vI, .string but] 31) = W at *
  refine (look_any vT l W HL.out hf hs).mono ?_
  rintro e w1 ⟨bL, bC, rfl, hbL, hbC, hL, hC, B1⟩
  have hF1 := (B1.block _ (Array.getElem?_eq_some_iff.1 hF).1).trans hF
  have HI1 := hide (HI.out.below B1)
  have HL1 := hide (HL.out.below B1)
  obtain ⟨oi, ci, rfl, HC0⟩ := HI1.out
  obtain ⟨ot, ct, rfl, _⟩ := HL1.out
  have f1 : (w1.alloc (.cells #[.slice ot l.length ct, .map (some bL), .map (some bC)] 93)).cell? ⟨w.heap.size, 1, none⟩ = some (.slice oi xs.length ci) := by
    have : (w1.alloc (.cells #[.slice ot l.length ct, .map (some bL), .map (some bC)] 93)).heap[w.heap.size]? = some (.cells #[.string act, .slice oi xs.length ci, .string but] 31) := (Below.heap_alloc _ _ _ (Array.getElem?_eq_some_iff.1 hF1).1).trans hF1
    simp [World.cell?, this]
  have HLm := hide (hL.alloc (.cells #[.slice ot l.length ct, .map (some bL), .map (some bC)] 93))
  have HCm := hide (hC.alloc (.cells #[.slice ot l.length ct, .map (some bL), .map (some bC)] 93))
  have B3 : Below w.heap.size w (w1.alloc (.cells #[.slice ot l.length ct, .map (some bL), .map (some bC)] 93)) := (B0.trans (B1.mono B0.size)).alloc (Nat.le_trans B0.size B1.size) _
  have HI3 := hide (HI1.out.below ((Below.refl _ _).alloc (Nat.le_refl _) (.cells #[.slice ot l.length ct, .map (some bL), .map (some bC)] 93)))
  have HL3 := hide (HL1.out.below ((Below.refl _ _).alloc (Nat.le_refl _) (.cells #[.slice ot l.length ct, .map (some bL), .map (some bC)] 93)))
  have HD : Hid ((w1.alloc (.cells #[.slice ot l.length ct, .map (some bL), .map (some bC)] 93)).heap[w1.heap.size]? = _) := hide (MapKept.heap_alloc w1 _).1
  have hbL1 := hL.lt
  have hbC1 := hC.lt
  have hsz3 : w1.heap.size < (w1.alloc (.cells #[.slice ot l.length ct, .map (some bL), .map (some bC)] 93)).heap.size := by simp
  clear HC0 hL hC hF HI HL HI1 HL1
  go_wp2_with fail
  generalize w1.alloc (.cells #[.slice ot l.length ct, .map (some bL), .map (some bC)] 93) = W3 at *
  go_loopw [5, 16] (fun v i wr => ∃ k : Nat, k ≤ xs.length ∧ i = .int .i64 k ∧ wr.ownsRow W3.heap.size 66 2 v (sentL l (xs.take k)).length (cl (sentL l (xs.take k))) ∧ Below W3.heap.size W3 wr) (fun _ i _ => xs.length - (intOf i).toNat)
  case atStart => exact ⟨0, Nat.zero_le _, rfl, World.ownsRow_nil _ _ _ _, Below.refl _ _⟩
  case round =>
    obtain ⟨k, hk, rfl, hown, hnx⟩ := hrel
    have hsz := hnx.size
    by_cases hlt : k < xs.length
    · have hki : (k : Int) < (xs.length : Int) := by omega
      have hxk := hx xs[k] (List.getElem_mem hlt)
      have hll := sentL_len l (xs.take k)
      rw [List.length_take] at hll
      have HS := hide (sentL_take l xs k hlt)
      obtain ⟨_, _, hoi, HCI⟩ := HI3.out
      obtain ⟨b, o, ho, hb, c0, c1, c2, c3⟩ := HCI k hlt
      cases hoi
      cases ho
      have d0 := (hnx.cell (p := ⟨b, o + k * 4, none⟩) hb).trans c0
      have d1 := (hnx.cell (p := ⟨b, o + k * 4 + 1, none⟩) hb).trans c1
      have d2 := (hnx.cell (p := ⟨b, o + k * 4 + 2, none⟩) hb).trans c2
      have d3 := (hnx.cell (p := ⟨b, o + k * 4 + 3, none⟩) hb).trans c3
      clear HCI c0 c1 c2 c3
      generalize xs[k] = x at *
      have BA : Below wr.heap.size wr (wr.alloc (.cells #[.int .i64 x.kind, .string x.name, .string x.value, .string x.label] 28)) := (Below.refl _ _).alloc (Nat.le_refl _) _
      have BB : Below W3.heap.size W3 (wr.alloc (.cells #[.int .i64 x.kind, .string x.name, .string x.value, .string x.label] 28)) := hnx.trans (BA.mono hsz)
      have hD := (BB.block _ hsz3).trans HD.out
      have hE : (wr.alloc (.cells #[.int .i64 x.kind, .string x.name, .string x.value, .string x.label] 28)).heap[wr.heap.size]? = some (.cells #[.int .i64 x.kind, .string x.name, .string x.value, .string x.label] 28) := (MapKept.heap_alloc wr _).1
      have m0 : (wr.alloc (.cells #[.int .i64 x.kind, .string x.name, .string x.value, .string x.label] 28)).cell? ⟨w1.heap.size, 0, none⟩ = some (.slice ot l.length ct) := by simp [World.cell?, hD]
      have m1 : (wr.alloc (.cells #[.int .i64 x.kind, .string x.name, .string x.value, .string x.label] 28)).cell? ⟨w1.heap.size, 0 + 1, none⟩ = some (.map (some bL)) := by simp [World.cell?, hD]
      have m2 : (wr.alloc (.cells #[.int .i64 x.kind, .string x.name, .string x.value, .string x.label] 28)).cell? ⟨w1.heap.size, 0 + 2, none⟩ = some (.map (some bC)) := by simp [World.cell?, hD]
      clear hD
      go_wp2_with fail
      refine (val_any _ l x bL bC _ (HL3.out.below BB) hf (map_below HLm.out BB (by omega)) (map_below HCm.out BB (by omega)) hxk.1 hxk.2.1 hxk.2.2.1 hxk.2.2.2).mono ?_
      rintro e w2 ⟨rfl, hb2⟩
      have hE2 := (hb2.block _ (Array.getElem?_eq_some_iff.1 hE).1).trans hE
      have n1 : w2.cell? ⟨wr.heap.size, 1, none⟩ = some (.string x.name) := by simp [World.cell?, hE2]
      have own2 := own_below (own_below hown BA) hb2
      have B2 : Below W3.heap.size W3 w2 := BB.trans (hb2.mono BB.size)
      have hsz2 := B2.size
      have H1 := hide own2
      have H2 := hide B2
      have HSS : Hid (sentL l (xs.take (k + 1)) = sentL l (xs.take k) ++ if (valOf l x).2 = true ∧ x.name ≠ ⟨#[]⟩ then [(x.name, (valOf l x).1)] else []) := HS.out
      clear own2 B2 HS hown hnx BA BB hE hE2 hb2 m0 m1 m2 d0 d1 d2 d3 hxk HD HL3 HI3 HLm HCm
      generalize (valOf l x).1 = tv at *
      generalize (valOf l x).2 = ok at *
      cases ok with
      | false =>
        rw [if_neg (by simp), List.append_nil] at HSS
        go_wp2_with fail
        go_roundw
        case rel => exact ⟨k + 1, by omega, by go_num, HSS.out ▸ H1.out, H2.out⟩
        case measure => simp [intOf]; omega
      | true =>
        by_cases hne : x.name = ⟨#[]⟩
        · rw [if_neg (by simp [hne]), List.append_nil] at HSS
          rw [hne] at n1
          go_wp2_with fail
          go_roundw
          case rel => exact ⟨k + 1, by omega, by go_num, HSS.out ▸ H1.out, H2.out⟩
          case measure => simp [intOf]; omega
        · rw [if_pos ⟨rfl, hne⟩] at HSS
          generalize x.name = nm at *
          have hemp := not_emp hne
          go_wp2_with (at_builtin; refine wpList_append_own _ rfl _ _ 43 rfl W3.heap.size 66 i0 (.agg #[.string ⟨#[]⟩, .string ⟨#[]⟩]) 2 32 Tryd.underlying43 hin hz0 hz1 hz2 rfl (by decide) _ _ _ rfl (H1.out.alloc _) ⟨w2.heap.size, 0, none⟩ 1 1 [.string nm, .string tv] rfl rfl (cells_new _ _ _) ?c2 ?c3 ?c4 ?c5 ?_)
          case c2 => first | rfl | (intro u hu; simp at hu; rcases hu with rfl | rfl <;> rfl)
          case c3 => unfold maxLen; omega
          case c4 => omega
          case c5 => first | omega | (simp; omega)
          intro v' w3 hown' hgrow _
          have R1 : Hid (w3.ownsRow W3.heap.size 66 2 v' (sentL l (xs.take (k + 1))).length (cl (sentL l (xs.take (k + 1))))) := by
            show World.ownsRow _ _ _ _ _ _ _
            rw [HSS.out, cl_app, List.length_append]; exact hown'
          have R2 : Hid (Below W3.heap.size W3 w3) := (H2.out.alloc hsz2 _).grown hgrow (by simp; omega) (own_ge H1.out)
          clear hown' hgrow H1 H2
          go_wp2
          go_roundw
          case rel => exact ⟨k + 1, by omega, by go_num, R1.out, R2.out⟩
          case measure => simp [intOf]; omega
    · obtain rfl : k = xs.length := by omega
      rw [List.take_length] at hown
      have H1 := hide hown
      have H2 := hide hnx
      clear hown hnx
      go_wp2_with fail
      go_ret
      exact ⟨_, rfl, own_base H1.out B3.size, B3.trans (H2.out.mono B3.size)⟩

end Go.Proofs.YtjalggkhpnfbiaaDoor.sent
