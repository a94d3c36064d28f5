import Derived.Test.YtcpflfpgnbihiaaGreatDoorMSplitSeq
import Derived.Test.YtcpflfpgnbihiaaGreatDoorMLookWalks
import Derived.Maps.AppendAt
import Derived.Deep.AppendLies
namespace Go.Proofs.YtcpflfpgnbihiaaGreatDoor.pctw
open Go.RowKit Go.Shelf Go.Proofs.YtcpflfpgnbihiaaGreatDoor.common
open Go.Proofs.YtcpflfpgnbihiaaGreatDoor.rng (Seq Abides range_law post)

def boxesOf (w : World) (s : ByteArray) : World := ((w.alloc (.cells #[.string s] 9)).alloc (.cells #[.string ⟨#[38]⟩] 9)).alloc (.cells #[.int .i64 0] 3)

set_option maxRecDepth 100000 in
theorem splitHead_any (s : ByteArray) (w : World) :
    Calls Tryz.prog 76 #[.string s, .string ⟨#[38]⟩, .int .i64 0] w fun e w' => e = .returned (.func (.func 99) #[] #[.pointer (some ⟨w.heap.size + 1, 0, none⟩), .pointer (some ⟨w.heap.size, 0, none⟩), .pointer (some ⟨w.heap.size + 2, 0, none⟩)]) ∧ w' = boxesOf w s := by
  go_enter Tryz.func76, Tryz.ntmps76
  go_wp2
  go_ret
  exact ⟨rfl, rfl⟩

set_option maxRecDepth 100000 in
theorem splitFace_any (s : ByteArray) (w : World) :
    Calls Tryz.prog 60 #[.string s, .string ⟨#[38]⟩] w fun e w' => e = .returned (.func (.func 99) #[] #[.pointer (some ⟨w.heap.size + 1, 0, none⟩), .pointer (some ⟨w.heap.size, 0, none⟩), .pointer (some ⟨w.heap.size + 2, 0, none⟩)]) ∧ w' = boxesOf w s := by
  go_enter Tryz.func60, Tryz.ntmps60
  go_wp2_with fail
  refine (splitHead_any s w).mono ?_
  rintro e w' ⟨rfl, rfl⟩
  go_wp2
  go_ret
  exact ⟨rfl, rfl⟩

theorem own_mono {w : World} {base base' : Nat} {e : TypeId} {size : Nat} {v : Value} {n : Nat} {xs : List Value} (h : w.ownsRow base e size v n xs) (hb : base' ≤ base) : w.ownsRow base' e size v n xs := by
  refine ⟨h.1, ?_⟩
  rcases h.2 with hh | ⟨g, cap, cur, rfl, hg, hh⟩
  · exact Or.inl hh
  · exact Or.inr ⟨g, cap, cur, rfl, Nat.le_trans hb hg, hh⟩

/-- the pieces that are not empty -/
def ne (l : List ByteArray) : List ByteArray := l.filter fun p => p ≠ ⟨#[]⟩
theorem ne_hit (pre : List ByteArray) {x : ByteArray} (h : x ≠ ⟨#[]⟩) : ne (pre ++ [x]) = ne pre ++ [x] := by simp [ne, h]
theorem ne_miss (pre : List ByteArray) : ne (pre ++ [⟨#[]⟩]) = ne pre := by simp [ne]
theorem ne_prefix {a b : List ByteArray} (h : a <+: b) : (ne a).length ≤ (ne b).length := by
  obtain ⟨c, rfl⟩ := h
  unfold ne
  rw [List.filter_append, List.length_append]; omega
theorem ne_parts (s : ByteArray) : ne (parts s) = (Pct.pieces s.data.toList).map fun l => ⟨l.toArray⟩ := by
  unfold ne parts Pct.pieces
  rw [List.filter_map]
  congr 1
  apply List.filter_congr
  intro l _
  have : ((⟨l.toArray⟩ : ByteArray) ≠ ⟨#[]⟩) ↔ l ≠ [] := by
    constructor
    · intro h e; subst e; exact h rfl
    · intro h e
      apply h
      have := congrArg (fun x : ByteArray => x.data.toList) e
      simpa using this
  simp only [Function.comp, decide_eq_decide]
  exact this

/-- 'pieces = append(pieces, piece)', the box lying below the rows -/
theorem appendedN {W w1 : World} {n₀ N B : Nat} {t e : TypeId} {v v' : Value} {k m : Nat} {xs ys : List Value} {tmp : Obj} {bp bs bv : Nat}
    (hv : Boxed W B t v) (hB : B < N) (h0 : n₀ ≤ B) (hrow : W.ownsRow N e 1 v k xs) (hN : N ≤ W.heap.size) (hbx : B ≠ bp ∧ B ≠ bs ∧ B ≠ bv ∧ bp < N ∧ bs < N ∧ bv < N)
    (hown' : w1.ownsRow N e 1 v' m ys) (hgrow : (W.alloc tmp).grownBy w1 v.ownBlock) :
    Boxed w1 B t v ∧ Boxed (w1.setCell ⟨B, 0, none⟩ v') B t v' ∧ (w1.setCell ⟨B, 0, none⟩ v').ownsRow N e 1 v' m ys ∧ KeepsOthers W (w1.setCell ⟨B, 0, none⟩ v') ∧ Below n₀ W (w1.setCell ⟨B, 0, none⟩ v') ∧ Kp bp bs bv W (w1.setCell ⟨B, 0, none⟩ v') := by
  have own : ∀ j, v.ownBlock = some j → N ≤ j := fun j ej => (hrow.lt j ej).1
  have far : ∀ j, j < N → some j ≠ v.ownBlock := fun j hj ej => by have := own j ej.symm; omega
  have hv1 : Boxed w1 B t v := (hv.alloc tmp).kept hgrow (far B hB)
  have kept : ∀ j, j < N → j ≠ B → (w1.setCell ⟨B, 0, none⟩ v').heap[j]? = W.heap[j]? := fun j hj hne => by
    rw [rng.set_heap_other w1 B j v' hne, hgrow.block j (by simp; omega) (far j hj), Below.heap_alloc W tmp j (by omega)]
  refine ⟨hv1, hv1.set v', ownsRow_setCell_below hown' hB v', ?_, ?_, kept bp hbx.2.2.2.1 (fun e => hbx.1 e.symm), kept bs hbx.2.2.2.2.1 (fun e => hbx.2.1 e.symm), kept bv hbx.2.2.2.2.2 (fun e => hbx.2.2.1 e.symm)⟩
  · refine ((KeepsOthers.alloc W tmp).trans (KeepsOthers.of_grownBy hgrow fun j o ej hj => ?_)).trans (KeepsOthers.setCell _ _ _)
    rcases (hrow.alloc tmp).2 with ⟨rfl, _⟩ | ⟨g, cap, cur, rfl, _, hgb, _⟩
    · simp [Value.ownBlock] at ej
    · obtain rfl : g = j := by simpa [Value.ownBlock] using ej
      rw [hgb] at hj; cases hj; rfl
  · exact (((Below.refl n₀ W).alloc (by omega) tmp).grown hgrow (by simp; omega) fun j ej => by have := own j ej; omega).setCell (p := ⟨B, 0, none⟩) h0 v'

theorem infoS : (Tryz.prog.info? 9).map (fun i => (i.zero, i.size, i.bytes)) = some (some (.string ⟨#[]⟩), 1, 16) := by kernel_rfl

section
attribute [local go_sem] Oper.semAt_some

theorem boxes_size (w : World) (s : ByteArray) : (boxesOf w s).heap.size = w.heap.size + 3 := by simp [boxesOf]
theorem boxes_new (w : World) (s : ByteArray) : Boxes (boxesOf w s) (w.heap.size + 1) w.heap.size (w.heap.size + 2) s := by
  have h0 := Boxed.new w 9 (.string s)
  have h1 := Boxed.new (w.alloc (.cells #[.string s] 9)) 9 (.string ⟨#[38]⟩)
  have h2 := Boxed.new ((w.alloc (.cells #[.string s] 9)).alloc (.cells #[.string ⟨#[38]⟩] 9)) 3 (.int .i64 0)
  rw [World.size_alloc] at h1
  rw [World.size_alloc, World.size_alloc] at h2
  exact ⟨h1.alloc _, (h0.alloc _).alloc _, h2⟩
theorem boxes_below (w : World) (s : ByteArray) : Below w.heap.size w (boxesOf w s) := (((Below.refl _ w).alloc (Nat.le_refl _) _).alloc (by simp) _).alloc (by simp; omega) _

/-- what the loop's own cells hold -/
def Inv (w : World) (N : Nat) (pre : List ByteArray) (W : World) : Prop :=
  (∃ v, Boxed W w.heap.size 60 v ∧ W.ownsRow N 9 1 v (ne pre).length ((ne pre).map Value.string)) ∧ Below w.heap.size w W ∧ N ≤ W.heap.size

theorem inv_abides (w : World) (N b : Nat) (p : List ByteArray → Prop) (hb : w.heap.size < b) (hbN : b < N) : rng.Abides (α := ByteArray) N b (fun pre W => Inv w N pre W ∧ p pre) where
  put := by
    rintro pre A l o o' ⟨⟨⟨v, hv, hr⟩, hB, hN⟩, hp⟩ hl ho hc
    refine ⟨⟨⟨v, hv.kept (grownBy_putObj' A l o') (fun e => by cases e; omega), ownsRow_putObj hr o' ho hc⟩, ?_, by rw [World.putObj_size]; exact hN⟩, hp⟩
    exact hB.trans ((Below.refl _ A).grown (grownBy_putObj' A l o') hB.size (fun k e => by cases e; omega))
  alloc := by
    rintro pre A o ⟨⟨⟨v, hv, hr⟩, hB, hN⟩, hp⟩
    exact ⟨⟨⟨v, hv.alloc o, hr.alloc o⟩, hB.alloc hB.size o, by simp; omega⟩, hp⟩
  set := by
    rintro pre A u ⟨⟨⟨v, hv, hr⟩, hB, hN⟩, hp⟩
    exact ⟨⟨⟨v, hv.other (by omega) u, ownsRow_setCell_below hr hbN u⟩, hB.setCell (p := ⟨b, 0, none⟩) (by show w.heap.size ≤ b; omega) u, Nat.le_trans hN (grownBy_setCell' A b u).size⟩, hp⟩
  drew := by
    rintro pre A ⟨⟨⟨v, hv, hr⟩, hB, hN⟩, hp⟩
    exact ⟨⟨⟨v, hv, hr⟩, hB.drew, hN⟩, hp⟩

set_option maxRecDepth 100000 in
set_option maxHeartbeats 6400000 in
theorem piecesOf_any (s : ByteArray) (w : World) (hs : s.size ≤ reachBytes) :
    Calls Tryz.prog 40 #[.string s] w fun e w' => Below w.heap.size w w' ∧ ∃ v q, e = .returned v ∧ w'.ownsRow w.heap.size 9 1 v q.length (q.map Value.string) ∧
      ((q = ne (parts s) ∧ q.length ≤ 32) ∨ (q.length = 33 ∧ 33 ≤ (ne (parts s)).length)) := by
  obtain ⟨i0, hi, hz0, hz1, hz2⟩ := info_parts infoS
  refine (callsIn_wide (n := 5)).1 ?_
  refine callsIn_of_wp_marks Tryz.func40 rfl trivial ?_ rfl
  simp only [Tryz.ntmps40, List.size_toArray, List.length_cons, List.length_nil, Nat.reduceAdd, Nat.reduceSub, Array.replicate_succ, Array.replicate_zero, List.push_toArray, List.append_toArray, List.nil_append, List.cons_append]
  gi_wp2
  refine ⟨trivial, (callsIn_wide.2 (splitFace_any s _)).mono ?_⟩
  rintro e w' ⟨rfl, rfl⟩
  gi_wp2
  have hsz : (w.alloc (.cells #[.slice none 0 0] 60)).heap.size = w.heap.size + 1 := by simp
  have hN := boxes_size (w.alloc (.cells #[.slice none 0 0] 60)) s
  have hBX := boxes_new (w.alloc (.cells #[.slice none 0 0] 60)) s
  have hB0 := ((Below.refl _ w).alloc (Nat.le_refl _) (.cells #[.slice none 0 0] 60)).trans ((boxes_below (w.alloc (.cells #[.slice none 0 0] 60)) s).mono (by rw [hsz]; omega))
  have hbo : Boxed (boxesOf (w.alloc (.cells #[.slice none 0 0] 60)) s) w.heap.size 60 (.slice none 0 0) := (((Boxed.new w 60 (.slice none 0 0)).alloc _).alloc _).alloc _
  rw [hsz] at hN hBX
  generalize boxesOf (w.alloc (.cells #[.slice none 0 0] 60)) s = W0 at *
  refine range_law (b := w.heap.size + 1) rfl (by omega) (gf := 99) rfl trivial (enters_of Tryz.func99 (by kernel_rfl) rfl) (enc := fun x : ByteArray => #[Value.string x]) (fun _ => rfl) (by omega)
    (split_seq 4 s hs (w.heap.size + 1 + 1) (w.heap.size + 1) (w.heap.size + 1 + 2) (by omega) (by omega) W0 hBX)
    (fun h k => ⟨k.1.trans h.1, k.2.1.trans h.2.1, k.2.2.trans h.2.2⟩)
    (fun A l o hl => ⟨World.putObj_heap_other (by omega), World.putObj_heap_other (by omega), World.putObj_heap_other (by omega)⟩)
    (fun o o' => ⟨?n1, ?n2, ?n3⟩)
    (fun pre W => Inv w W0.heap.size pre W ∧ (ne pre).length ≤ 32) (fun id pre W => Inv w W0.heap.size pre W ∧ (id = 0 ∧ (ne pre).length = 33))
    (inv_abides w _ _ (fun pre => (ne pre).length ≤ 32) (by omega) (by omega)) (fun id => inv_abides w _ _ (fun pre => id = 0 ∧ (ne pre).length = 33) (by omega) (by omega))
    ⟨⟨⟨_, hbo, World.ownsRow_nil _ _ _ _⟩, hB0, Nat.le_refl _⟩, by decide⟩
    (fun x => { tmps := #[.string s, undef, .slice none 0 0, .pointer (some ⟨w.heap.size, 0, none⟩), .string x, .string s, .func (.func 99) #[] #[.pointer (some ⟨w.heap.size + 1 + 1, 0, none⟩), .pointer (some ⟨w.heap.size + 1, 0, none⟩), .pointer (some ⟨w.heap.size + 1 + 2, 0, none⟩)], .string x, undef, undef, undef, undef, undef, undef, undef, undef, undef, undef], defers := [] }) ?assign ?body ?done ?stop
  case n1 => exact ((Below.heap_alloc _ _ _ (by simp; omega)).trans (Below.heap_alloc _ _ _ (by omega)))
  case n2 => exact ((Below.heap_alloc _ _ _ (by simp; omega)).trans (Below.heap_alloc _ _ _ (by omega)))
  case n3 => exact ((Below.heap_alloc _ _ _ (by simp; omega)).trans (Below.heap_alloc _ _ _ (by omega)))
  case assign =>
    intro l x W K hK
    gi_wp2
    exact hK
  case body =>
    rintro l pre x W ⟨⟨⟨v, hv, hrow⟩, hB, hWN⟩, hlen⟩
    by_cases hx : x = ⟨#[]⟩
    · subst hx
      gi_wp2
      exact ⟨KeepsOthers.refl _, ⟨rfl, rfl, rfl⟩, ⟨⟨v, hv, by rw [ne_miss]; exact hrow⟩, hB, hWN⟩, by rw [ne_miss]; exact hlen⟩
    · have hx2 : ¬ x.toList = [] := fun e => hx (ba_ext (by rw [ByteArray.toList_eq] at e; rw [e]))
      have hx3 : (x.toList == []) = false := beq_false_of_ne hx2
      have hx4 : x.toList.isEmpty = false := by
        cases hh : x.toList with
        | nil => exact absurd hh hx2
        | cons _ _ => rfl
      have HNE := hide (ne_hit pre hx)
      have hc := hv.cell
      generalize ne pre = q at *
      by_cases h32 : q.length = 32
      · have h33 : (32 : Int) < (q.length : Int) + 1 := by omega
        have HL := hide h32
        clear h32
        gi_wp2_with (gi_at_builtin; refine wpListIn_append_own _ rfl _ _ 60 rfl W0.heap.size 9 i0 (.string ⟨#[]⟩) 1 16 Tryz.underlying60 hi hz0 hz1 hz2 rfl (by decide) _ _ _ rfl (hrow.alloc _) ⟨W.heap.size, 0, none⟩ 1 1 [.string x] rfl rfl (cell_one_new _ _ _) (by simp [Value.oneCell']) (by unfold maxLen; omega) (by omega) (by simp; omega) ?_; intro v' w1 hown' hgrow _; obtain ⟨g', cap', rfl⟩ := ownsRow_succ hown'; obtain ⟨hv1, hv2, hr2, hk2, hb2, hkp2⟩ := appendedN (n₀ := w.heap.size) (bp := w.heap.size + 1 + 1) (bs := w.heap.size + 1) (bv := w.heap.size + 1 + 2) hv (by omega) (Nat.le_refl _) hrow hWN ⟨by omega, by omega, by omega, by omega, by omega, by omega⟩ hown' hgrow; have hc1 := hv1.cell; have hf1 := hv1.frozen; have hc2 := hv2.cell)
        exact ⟨hk2, ⟨⟨_, hv2, by rw [HNE.out, List.length_append, List.map_append]; exact hr2⟩, hB.trans hb2, Nat.le_trans hWN hk2.size⟩, rfl, by rw [HNE.out, List.length_append, HL.out]; rfl⟩
      · have h33 : ¬ (32 : Int) < (q.length : Int) + 1 := by omega
        gi_wp2_with (gi_at_builtin; refine wpListIn_append_own _ rfl _ _ 60 rfl W0.heap.size 9 i0 (.string ⟨#[]⟩) 1 16 Tryz.underlying60 hi hz0 hz1 hz2 rfl (by decide) _ _ _ rfl (hrow.alloc _) ⟨W.heap.size, 0, none⟩ 1 1 [.string x] rfl rfl (cell_one_new _ _ _) (by simp [Value.oneCell']) (by unfold maxLen; omega) (by omega) (by simp; omega) ?_; intro v' w1 hown' hgrow _; obtain ⟨g', cap', rfl⟩ := ownsRow_succ hown'; obtain ⟨hv1, hv2, hr2, hk2, hb2, hkp2⟩ := appendedN (n₀ := w.heap.size) (bp := w.heap.size + 1 + 1) (bs := w.heap.size + 1) (bv := w.heap.size + 1 + 2) hv (by omega) (Nat.le_refl _) hrow hWN ⟨by omega, by omega, by omega, by omega, by omega, by omega⟩ hown' hgrow; have hc1 := hv1.cell; have hf1 := hv1.frozen; have hc2 := hv2.cell)
        rw [← hN]
        exact ⟨hk2, hkp2, ⟨⟨_, hv2, by rw [HNE.out, List.length_append, List.map_append]; exact hr2⟩, hB.trans hb2, Nat.le_trans hWN hk2.size⟩, by rw [HNE.out, List.length_append]; simp; omega⟩
  case done =>
    rintro D xs W hD rfl ⟨⟨⟨v, hv, hrow⟩, hB, _⟩, hlen⟩ hK
    have hc := hv.cell
    gi_wp2
    refine ⟨by simp, .inl ⟨_, _, rfl, run_takeDeferred hK, ?_⟩⟩
    exact ⟨_, results_tmp rfl _ _ _, hB.trans ((Below.refl _ W).grown (grownBy_putObj' W D _) hB.size (fun k e => by cases e; omega)), v, ne (parts s), rfl, ownsRow_putObj (own_mono hrow (by omega)) _ hK rfl, Or.inl ⟨rfl, hlen⟩⟩
  case stop =>
    rintro D id pre W hD hpre ⟨⟨⟨v, hv, hrow⟩, hB, _⟩, rfl, hlen⟩ hK
    have hc := hv.cell
    gi_wp2
    refine ⟨by simp, .inl ⟨_, _, rfl, run_takeDeferred hK, ?_⟩⟩
    exact ⟨_, results_tmp rfl _ _ _, hB.trans ((Below.refl _ W).grown (grownBy_putObj' W D _) hB.size (fun k e => by cases e; omega)), v, ne pre, rfl, ownsRow_putObj (own_mono hrow (by omega)) _ hK rfl, Or.inr ⟨hlen, by have := ne_prefix hpre; omega⟩⟩
end

end Go.Proofs.YtcpflfpgnbihiaaGreatDoor.pctw
