import Derived.Test.YtkamnkldgeaaaaaDoorDrBase
import Derived.BigQuiet
namespace Go.Proofs.YtkamnkldgeaaaaaDoor.dr
open Go.ChangeShapes Go.WideShapes Go.ChangeAt Go.RowKit Go.Proofs.YtkamnkldgeaaaaaDoor.common Go.Proofs.YtkamnkldgeaaaaaDoor.dk

set_option maxRecDepth 100000 in
set_option maxHeartbeats 800000 in
theorem fresh_any (w : World) (v : Value) (l : List UInt8) (h : Rd w v l) (hs : l.length ≤ 140737488355328) :
    Calls Tryd.prog 19 #[v] w fun r' w' => ∃ v, r' = .returned v ∧ w'.ownsRow w.heap.size 5 1 v l.length (l.map B) ∧ Below w.heap.size w w' := by
  obtain ⟨i0, hi, hz0, hz1, hz2⟩ := info_parts info8
  obtain ⟨oa, ca, rfl⟩ := h.len
  have HR := hide h
  clear h
  go_enter Tryd.func19, Tryd.ntmps19
  go_wp2
  go_loopw [3, 4] (fun v i wr => ∃ k : Nat, k ≤ l.length ∧ i = .int .i64 k ∧ wr.ownsRow w.heap.size 5 1 v k ((l.take k).map B) ∧ Below w.heap.size w wr) (fun _ i _ => l.length - (intOf i).toNat)
  case atStart => exact ⟨0, Nat.zero_le _, rfl, World.ownsRow_nil _ _ _ _, Below.refl _ _⟩
  case round =>
    obtain ⟨k, hk, rfl, hown, hnx⟩ := hrel
    have hsz := hnx.size
    by_cases hlt : k < l.length
    · obtain ⟨ga, o1, rfl, h1⟩ := (HR.out.below hnx).cell (by omega)
      have c1 := h1 k hlt
      have hsn := hide (take_snocL l k hlt)
      have k0 : (0 : Int) ≤ (k : Int) := Int.natCast_nonneg _
      have k1 : (k : Int) < (l.length : Int) := by omega
      clear h1
      generalize l[k] = x at *
      go_wp2_with (at_builtin; refine wpList_append_own _ rfl _ _ 25 rfl w.heap.size 5 i0 (.int .u8 0) 1 1 Tryd.underlying25 hi hz0 hz1 hz2 rfl (by decide) _ _ _ rfl (hown.alloc _) ⟨wr.heap.size, 0, none⟩ 1 1 [B x] rfl rfl ?c1 ?c2 ?c3 ?c4 ?c5 ?_)
      case c1 => exact cell_one_new _ _ _
      case c2 => intro u hu; simp at hu; subst hu; rfl
      case c3 => unfold maxLen; omega
      case c4 => omega
      case c5 => simp; omega
      intro v' w1 hown' hgrow _
      have R1 : w1.ownsRow w.heap.size 5 1 v' (k + 1) ((l.take (k + 1)).map B) := by
        rw [hsn.out, List.map_append, List.map_take]; exact hown'
      have R2 : Below w.heap.size w w1 := by
        refine (hnx.alloc hsz _).grown hgrow (by simp; omega) ?_
        exact own_ge hown
      clear hown' hgrow hown
      have H1 := hide R1
      have H2 := hide R2
      clear R1 R2
      go_wp2
      go_roundw
      case rel => exact ⟨k + 1, by omega, by go_num, H1.out, H2.out⟩
      case measure => simp [intOf]; omega
    · obtain rfl : k = l.length := by omega
      have H1 : Hid (wr.ownsRow w.heap.size 5 1 u3 l.length (l.map B)) := by
        rw [List.take_of_length_le (Nat.le_refl _)] at hown; exact hown
      have H2 := hide hnx
      clear hown hnx
      go_wp2
      go_ret
      exact ⟨_, rfl, H1.out, H2.out⟩

/-- a new disk of the document's -/
def OpenedQ (w : World) (x : Sq) (r' : Ending) (w' : World) : Prop := ∃ g F, r' = .returned (ptr g) ∧ Dq w' g F x ∧ (∀ k ∈ F, w.heap.size ≤ k) ∧ Below w.heap.size w w'
theorem own_zero {w : World} {base : Nat} {e : TypeId} {size : Nat} {v : Value} {n : Nat} {xs : List Value} (h : w.ownsRow base e size v n xs) : w.ownsRow 0 e size v n xs := by
  refine ⟨h.1, ?_⟩
  rcases h.2 with h1 | ⟨g, cap, cur, rfl, h1, h2⟩
  · exact Or.inl h1
  · exact Or.inr ⟨g, cap, cur, rfl, Nat.zero_le _, h2⟩

set_option maxRecDepth 100000 in
set_option maxHeartbeats 1600000 in
theorem dopen_any (w : World) (v : Value) (l : List UInt8) (room : Int) (h : Rd w v l) (hl : l.length ≤ 140737488355328) :
    Calls Tryd.prog 6 #[v, .int .i64 room] w fun r' w' => OpenedQ w ⟨l, [], roomOf room, [], false⟩ r' w' := by
  have HO := hide (fresh_any w v l h hl)
  obtain ⟨oa, c, rfl⟩ := h.len
  clear h
  have HFIN : Hid (∀ (w1 : World) (u : Value), w1.ownsRow w.heap.size 5 1 u l.length (l.map B) → Below w.heap.size w w1 → OpenedQ w ⟨l, [], roomOf room, [], false⟩ (.returned (ptr w1.heap.size)) (w1.alloc (.cells #[u, .slice none 0 0, .int .i64 (roomOf room : Int), .bool false, .slice none 0 0] 58))) := fun w1 u hn hb => by
    have B2 : Below w1.heap.size w1 (w1.alloc (.cells #[u, .slice none 0 0, .int .i64 (roomOf room : Int), .bool false, .slice none 0 0] 58)) := (Below.refl _ _).alloc (Nat.le_refl _) _
    refine ⟨w1.heap.size, fq w1.heap.size u (.slice none 0 0) (.slice none 0 0), rfl, ⟨u, _, _, rfl, heap_alloc_new _ _, own_zero (own_below hn B2), World.ownsRow_nil _ _ _ _, World.ownsRow_nil _ _ _ _, fun b _ h => (by cases h)⟩, fun k hk => ?_, keepD hb B2⟩
    rcases fq_cases hk with rfl | h1 | h1 | h1
    · exact hb.size
    · exact own_ge hn k h1
    · cases h1
    · cases h1
  by_cases h0 : 0 ≤ room
  · have z0 : ¬ room < 0 := by omega
    by_cases h1 : room ≤ 1073741824
    · have z1 : ¬ (1073741824 : Int) < room := by omega
      have hro : (roomOf room : Int) = room := by unfold roomOf; rw [if_neg z0, if_neg z1]; omega
      rw [hro] at HFIN
      clear hro h0 h1
      go_enter Tryd.func6, Tryd.ntmps6
      go_wp2_with fail
      refine HO.out.mono ?_
      rintro r' w1 ⟨u, rfl, n1, b1⟩
      have HZ := hide (HFIN.out w1 u n1 b1)
      obtain ⟨o', c', rfl, _⟩ := own_slice n1
      clear n1 b1 HFIN HO
      go_wp2
      go_ret
      exact HZ.out
    · have z1 : (1073741824 : Int) < room := by omega
      have hro : (roomOf room : Int) = 1073741824 := by unfold roomOf; rw [if_neg z0, if_pos z1]; rfl
      rw [hro] at HFIN
      clear hro h0 h1
      go_enter Tryd.func6, Tryd.ntmps6
      go_wp2_with fail
      refine HO.out.mono ?_
      rintro r' w1 ⟨u, rfl, n1, b1⟩
      have HZ := hide (HFIN.out w1 u n1 b1)
      obtain ⟨o', c', rfl, _⟩ := own_slice n1
      clear n1 b1 HFIN HO
      go_wp2
      go_ret
      exact HZ.out
  · have z0 : room < 0 := by omega
    have hro : (roomOf room : Int) = 0 := by unfold roomOf; rw [if_pos z0]; rfl
    rw [hro] at HFIN
    clear hro h0
    go_enter Tryd.func6, Tryd.ntmps6
    go_wp2_with fail
    refine HO.out.mono ?_
    rintro r' w1 ⟨u, rfl, n1, b1⟩
    have HZ := hide (HFIN.out w1 u n1 b1)
    obtain ⟨o', c', rfl, _⟩ := own_slice n1
    clear n1 b1 HFIN HO
    go_wp2
    go_ret
    exact HZ.out
set_option maxRecDepth 100000 in
set_option maxHeartbeats 1600000 in
theorem ddead_any (w : World) (p : Nat) (F : List Nat) (x : Sq) (h : Dq w p F x) :
    Calls Tryd.prog 41 #[ptr p] w fun r' w' => r' = .returned (.bool x.d) ∧ w' = w := by
  obtain ⟨vs, vt, va, rfl, h⟩ := h
  have c3 : w.cell? ⟨p, 3, none⟩ = some (.bool x.d) := cell_of h.cell 3
  clear h
  go_enter Tryd.func41, Tryd.ntmps41
  go_wp2
  go_ret
  exact ⟨rfl, rfl⟩
set_option maxRecDepth 100000 in
/-- cells of the disk's own are written -/
theorem Lq.set {w w' : World} {p : Nat} {vs vt va vs' vt' va' : Value} {x y : Sq} (h : Lq w p vs vt va x) (hw : w'.heap[p]? = some (.cells (dqc vs' vt' y.r y.d va') 58)) (hk : ∀ k, k ≠ p → w'.heap[k]? = w.heap[k]?) (h1 : w.ownsRow 0 5 1 vs' y.A.length (y.A.map B)) (h2 : w.ownsRow 0 5 1 vt' y.T.length (y.T.map B)) (h3 : w.ownsRow 0 77 2 va' y.a.length (acs y.a)) (hs : ∀ b, vs'.ownBlock = some b → vt'.ownBlock ≠ some b) : Lq w' p vs' vt' va' y := by
  have ne : ∀ {b : Nat} {e1 : TypeId} {c1 : Array Value}, w.heap[b]? = some (.cells c1 e1 (0, 0)) → e1 ≠ 58 → b ≠ p := fun hb hne e0 => by
    rw [e0, h.cell] at hb
    obtain ⟨_, h7, _⟩ := Obj.cells.inj (Option.some.inj hb)
    exact hne h7.symm
  refine ⟨hw, own_keepK h1 fun g hg => hk g ?_, own_keepK h2 fun g hg => hk g ?_, own_keepK h3 fun g hg => hk g ?_, hs⟩
  · obtain ⟨_, _, h4⟩ := own_at h1 g hg
    exact ne h4 (by decide)
  · obtain ⟨_, _, h4⟩ := own_at h2 g hg
    exact ne h4 (by decide)
  · obtain ⟨_, _, h4⟩ := own_at h3 g hg
    exact ne h4 (by decide)
set_option maxRecDepth 100000 in
set_option maxHeartbeats 1600000 in
theorem drevive_any (w : World) (p : Nat) (F : List Nat) (x : Sq) (h : Dq w p F x) :
    Calls Tryd.prog 40 #[ptr p] w fun r' w' => r' = .returned (.tuple #[]) ∧ Mq w p F ⟨x.A, x.T, x.r, x.a, false⟩ w' := by
  obtain ⟨vs, vt, va, rfl, h⟩ := h
  have c3 : w.cell? ⟨p, 3, none⟩ = some (.bool x.d) := cell_of h.cell 3
  have f3 : w.frozen? ⟨p, 3, none⟩ = false := free_of h.cell 3
  have HM : Hid (Mq w p (fq p vs vt va) ⟨x.A, x.T, x.r, x.a, false⟩ (w.setCell ⟨p, 3, none⟩ (.bool false))) :=
    ⟨fq p vs vt va, ⟨vs, vt, va, rfl, h.set (set_of h.cell 3 _) (fun k hk => set_other _ _ _ _ hk) h.safe h.tail h.arms h.sep⟩, (Fr.refl _ _).set ⟨p, 3, none⟩ _ (Or.inl (fq_p _ _ _ _)), fun _ hk => Or.inl hk⟩
  clear h
  go_enter Tryd.func40, Tryd.ntmps40
  go_wp2
  go_end0
  exact ⟨rfl, HM.out⟩
set_option maxRecDepth 100000 in
set_option maxHeartbeats 1600000 in
theorem all_any (w : World) (p : Nat) (F : List Nat) (x : Sq) (h : Dq w p F x) (hA : x.A.length + x.T.length ≤ 140737488355328) :
    Calls Tryd.prog 48 #[ptr p] w fun r' w' => ∃ v, r' = .returned v ∧ w'.ownsRow w.heap.size 5 1 v (x.A ++ x.T).length ((x.A ++ x.T).map B) ∧ Below w.heap.size w w' := by
  obtain ⟨vs, vt, va, rfl, h⟩ := h
  have c0 : w.cell? ⟨p, 0, none⟩ = some vs := cell_of h.cell 0
  have HFR := hide (fresh_any w vs x.A (rd_own h.safe) (by omega))
  obtain ⟨os, cs, e1, _⟩ := own_slice h.safe
  obtain ⟨ot, ct, e2, _⟩ := own_slice h.tail
  have hpl : p < w.heap.size := (Array.getElem?_eq_some_iff.1 h.cell).1
  have HH := hide h
  clear h
  subst e1 e2
  go_enter Tryd.func48, Tryd.ntmps48
  go_wp2_with fail
  refine HFR.out.mono ?_
  rintro r' w1 ⟨v1, rfl, h1, b1⟩
  have c1 : w1.cell? ⟨p, 1, none⟩ = some (.slice ot x.T.length ct) := cell_of ((b1.block p hpl).trans HH.out.cell) 1
  obtain ⟨v', W', hrun, hown, hfr, hat⟩ := append_rd w1 w.heap.size v1 x.A h1 ot ct x.T ((rd_own HH.out.tail).below b1) (by omega) b1.size
  have HB : Hid (Below w.heap.size w W') := b1.trans (hfr.below (fun k hk => own_ge h1 k (by simpa using hk)) b1.size)
  have HO := hide hown
  obtain ⟨o1, cc1, rfl, _⟩ := own_slice h1
  obtain ⟨o2, cc2, rfl, _⟩ := own_slice hown
  obtain ⟨N, hN⟩ : ∃ N, N = (x.A ++ x.T).length := ⟨_, rfl⟩
  rw [← hN] at hrun HO
  have HN := hide hN
  clear hown hfr hat h1 b1 HFR c0 hN
  go_wp2_with (at_builtin; refine wpList_append_run rfl _ _ 25 25 rfl _ _ rfl rfl _ _ hrun ?_)
  go_ret
  exact ⟨_, rfl, by rw [← HN.out]; exact HO.out, HB.out⟩
end Go.Proofs.YtkamnkldgeaaaaaDoor.dr
