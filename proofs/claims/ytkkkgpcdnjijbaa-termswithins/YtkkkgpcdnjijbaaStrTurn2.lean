import Derived.Test.YtkkkgpcdnjijbaaStrTurn
namespace Go.Proofs.Ytkkkgpcdnjijbaa.ss
open Go.ChangeShapes Go.WideShapes Go.ChangeAt Go.RowKit Go.Proofs.Ytkkkgpcdnjijbaa.common Go.Proofs.Ytkkkgpcdnjijbaa.bk
attribute [local go_sem ↓] Go.wp_at_zero Go.wp_at_succ

/-- nothing but one block has changed -/
structure Only (g : Nat) (w w' : World) : Prop where
  below : Below g w w'
  size : w'.heap.size = w.heap.size
  block : ∀ k, k ≠ g → w'.heap[k]? = w.heap[k]?
theorem Only.refl (g : Nat) (w : World) : Only g w w := ⟨Below.refl _ _, rfl, fun _ _ => rfl⟩
theorem Only.set {g : Nat} {w w' : World} (h : Only g w w') (i : Nat) (u : Value) : Only g w (w'.setCell ⟨g, i, none⟩ u) :=
  ⟨h.below.setCell (Nat.le_refl _) _, by rw [← h.size]; simp [World.setCell], fun k hk => (Below.heap_setCell _ _ _ _ (fun e => hk e)).trans (h.block k hk)⟩
theorem Only.cell {g : Nat} {w w' : World} (h : Only g w w') {p : Addr} (hp : p.block ≠ g) : w'.cell? p = w.cell? p := by
  unfold World.cell?
  rw [h.block _ hp]
set_option maxRecDepth 100000 in
set_option maxHeartbeats 3200000 in
theorem turn_only (g n cap : Nat) (l r : List ByteArray) (w : World) (hn : l.length = n) (hr : Row w g (l ++ r)) (hs : l.length ≤ 4611686018427387904) (hp : ∀ p ∈ l, p.size ≤ 140737488355328) :
    Calls Try.prog 19 #[.slice (some ⟨g, 0, none⟩) n cap] w fun e w' => e = .returned (.slice (some ⟨g, 0, none⟩) n cap) ∧ Row w' g (turnL l ++ r) ∧ Only g w w' := by
  have HR := hide hr
  have HP := hide hp
  clear hr hp
  have hq : (n : Int).tdiv 2 = ((n / 2 : Nat) : Int) := by simp
  have HQ : Hid (IntKind.i64.wrap ((n : Int).tdiv 2) = ((n / 2 : Nat) : Int)) := by show _ = _; rw [hq]; exact wrap_le _ (by omega) (by omega)
  clear hq
  go_enter Try.func19, Try.ntmps19
  go_wp2_with fail
  go_loopw [3] (fun i wr => ∃ k : Nat, k ≤ n / 2 ∧ i = .int .i64 k ∧ Row wr g (mixR l k ++ r) ∧ Only g w wr) (fun i _ => n - (intOf i).toNat)
  case atStart => exact ⟨0, Nat.zero_le _, rfl, by rw [mixR_zero]; exact HR.out, Only.refl _ _⟩
  case round =>
    obtain ⟨k, hk, rfl, hrow, hnx⟩ := hrel
    by_cases hlt : k < n / 2
    · have hki : (k : Int) < ((n / 2 : Nat) : Int) := by omega
      have hkn : (k : Int) < (n : Int) := by omega
      have hll : (mixR l k ++ r).length = n + r.length := by rw [List.length_append, mixR_len, hn]
      have g0 : (mixR l k ++ r)[k]'(by omega) = l[k]'(by omega) := by
        rw [List.getElem_append_left (by rw [mixR_len]; omega), mixR_get l k k (by omega), if_neg (by omega), getD_at l k (by omega)]
      have g1 : (mixR l k ++ r)[n - 1 - k]'(by omega) = l[n - 1 - k]'(by omega) := by
        rw [List.getElem_append_left (by rw [mixR_len]; omega), mixR_get l k _ (by omega), if_neg (by omega), getD_at l _ (by omega)]
      have d0 : wr.cell? ⟨g, k, none⟩ = some (.string (l[k]'(by omega))) := by rw [hrow.cell k (by omega), g0]
      have d1 : wr.cell? ⟨g, n - 1 - k, none⟩ = some (.string (l[n - 1 - k]'(by omega))) := by rw [hrow.cell (n - 1 - k) (by omega), g1]
      have f0 : wr.frozen? ⟨g, k, none⟩ = false := hrow.free k (by omega)
      have f1 : wr.frozen? ⟨g, n - 1 - k, none⟩ = false := hrow.free (n - 1 - k) (by omega)
      have HRW : Hid (Row ((wr.setCell ⟨g, k, none⟩ (.string (l[n - 1 - k]'(by omega)))).setCell ⟨g, n - 1 - k, none⟩ (.string (l[k]'(by omega)))) g (mixR l (k + 1) ++ r)) := by
        have h1 := (hrow.set k (by omega) (l[n - 1 - k]'(by omega))).set (n - 1 - k) (by rw [List.length_set]; omega) (l[k]'(by omega))
        rw [List.set_append_left _ _ (by rw [mixR_len]; omega), List.set_append_left _ _ (by rw [List.length_set, mixR_len]; omega)] at h1
        have e := mixR_step l k (by omega)
        subst hn
        rw [e] at h1
        exact h1
      have HX := hide hnx
      clear hrow hnx g0 g1
      generalize l[k]'(by omega) = p at *
      generalize l[n - 1 - k]'(by omega) = q at *
      have k0 : (0 : Int) ≤ (k : Int) := Int.natCast_nonneg _
      have w1 : IntKind.i64.wrap ((n : Int) - 1) = (n : Int) - 1 := wrap_le _ (by omega) (by omega)
      have w2 : IntKind.i64.wrap ((n : Int) - 1 - (k : Int)) = (n : Int) - 1 - (k : Int) := wrap_le _ (by omega) (by omega)
      have t2 : ((n : Int) - 1 - (k : Int)).toNat = n - 1 - k := by omega
      have k2 : (0 : Int) ≤ (n : Int) - 1 - (k : Int) := by omega
      have k3 : (n : Int) - 1 - (k : Int) < (n : Int) := by omega
      go_wp2_with fail
      go_roundw
      case rel => exact ⟨k + 1, by omega, by go_num, HRW.out, (HX.out.set _ _).set _ _⟩
      case measure => simp [intOf]; omega
    · obtain rfl : k = n / 2 := by omega
      have e : mixR l (n / 2) = l.reverse := by rw [← hn]; exact mixR_half l
      rw [e] at hrow
      have hki : ¬ ((n / 2 : Nat) : Int) < ((n / 2 : Nat) : Int) := by omega
      by_cases h0 : 0 < n
      · have h0i : (0 : Int) < (n : Int) := by omega
        have hlr : 0 < l.reverse.length := by rw [List.length_reverse]; omega
        have d0 : wr.cell? ⟨g, 0, none⟩ = some (.string (l.reverse[0]'hlr)) := by
          rw [hrow.cell 0 (by rw [List.length_append]; omega), List.getElem_append_left hlr]
        have f0 : wr.frozen? ⟨g, 0, none⟩ = false := hrow.free 0 (by rw [List.length_append]; omega)
        have HRW : Hid (Row (wr.setCell ⟨g, 0, none⟩ (.string (zed (l.reverse[0]'hlr)))) g (turnL l ++ r)) := by
          have h1 := hrow.set 0 (by rw [List.length_append]; omega) (zed (l.reverse[0]'hlr))
          rw [List.set_append_left _ _ hlr, turnL_set l hlr] at h1
          exact h1
        have hpz : (l.reverse[0]'hlr).size ≤ 140737488355328 := HP.out _ (List.mem_reverse.1 (List.getElem_mem hlr))
        have HX := hide hnx
        clear hrow hnx e
        generalize l.reverse[0]'hlr = p at *
        go_wp2_with fail
        go_ret
        exact ⟨rfl, HRW.out, HX.out.set _ _⟩
      · have h0i : ¬ (0 : Int) < (n : Int) := by omega
        have hl0 : l = [] := List.eq_nil_of_length_eq_zero (by omega)
        have e2 : l.reverse = turnL l := by rw [hl0]; rfl
        rw [e2] at hrow
        have H1 := hide hrow
        have H2 := hide hnx
        clear hrow hnx e e2 hl0
        go_wp2_with fail
        go_ret
        exact ⟨rfl, H1.out, H2.out⟩

/-- texts in a block of one's own, from a place on -/
def Mine (w : World) (base : Nat) (v : Value) (l : List ByteArray) : Prop := w.ownsRow base 9 1 v l.length (sc l)
/-- nothing but a slice's own block has changed -/
def OnlyV (v : Value) (w w' : World) : Prop := w.heap.size ≤ w'.heap.size ∧ ∀ k, v.ownBlock ≠ some k → w'.heap[k]? = w.heap[k]?
/-- two slices in two blocks -/
def Apart (u v : Value) : Prop := ∀ k, u.ownBlock = some k → v.ownBlock ≠ some k
theorem Apart.symm {u v : Value} (h : Apart u v) : Apart v u := fun k h1 h2 => h k h2 h1
theorem apart_of {w w' : World} {b b' : Nat} {u v : Value} {l m : List ByteArray} (h : Mine w b u l) (h' : Mine w' b' v m) (hb : w.heap.size ≤ b') : Apart u v := fun k h1 h2 => by
  have := h.lt k h1
  have := h'.lt k h2
  omega
theorem Mine.only {w w' : World} {base : Nat} {u v : Value} {l : List ByteArray} (h : Mine w base u l) (ho : OnlyV v w w') (ha : Apart u v) : Mine w' base u l := by
  unfold Mine at h ⊢
  refine ⟨h.1, ?_⟩
  rcases h.2 with hh | ⟨b, cap, cur, rfl, hb, hh, hn⟩
  · exact Or.inl hh
  · exact Or.inr ⟨b, cap, cur, rfl, hb, (ho.2 b (ha b rfl)).trans hh, hn⟩
theorem Lies.only {w w' : World} {u v : Value} {l : List ByteArray} (h : Lies w u l) (ho : OnlyV v w w') (ha : Apart u v) : Lies w' u l := by
  obtain ⟨oa, cap, rfl, hc⟩ := h
  refine ⟨oa, cap, rfl, fun i hi => ?_⟩
  obtain ⟨b, o, rfl, hlt, c0⟩ := hc i hi
  refine ⟨b, o, rfl, Nat.lt_of_lt_of_le hlt ho.1, ?_⟩
  have e : w'.heap[b]? = w.heap[b]? := ho.2 b (ha b rfl)
  unfold World.cell? at c0 ⊢
  rw [e]; exact c0

theorem turn_mine (v : Value) (l : List ByteArray) (w : World) {base : Nat} (h : Mine w base v l) (hs : l.length ≤ 4611686018427387904) (hp : ∀ p ∈ l, p.size ≤ 140737488355328) :
    Calls Try.prog 19 #[v] w fun x w' => x = .returned v ∧ Lies w' v (turnL l) ∧ Below base w w' ∧ OnlyV v w w' := by
  rcases row_of_own h with ⟨rfl, rfl⟩ | ⟨g, cap, rfl, hb, hg, hr, _⟩
  · go_enter Try.func19, Try.ntmps19
    go_wp2_with fail
    go_loopw [3] (fun i wr => i = .int .i64 0 ∧ wr = w) (fun _ _ => 0)
    case atStart => exact ⟨rfl, rfl⟩
    case round =>
      obtain ⟨rfl, rfl⟩ := hrel
      go_wp2_with fail
      go_ret
      exact ⟨rfl, lies_nil _, Below.refl _ _, Nat.le_refl _, fun _ _ => rfl⟩
  · refine (turn_only g l.length cap l [] w rfl (by rw [List.append_nil]; exact hr) hs hp).mono ?_
    rintro x w' ⟨rfl, hr', hb'⟩
    refine ⟨rfl, ?_, hb'.below.mono hb, Nat.le_of_eq hb'.size.symm, fun k hk => hb'.block k (fun e => hk (by rw [e]; rfl))⟩
    have := hr'.head (by rw [hb'.size]; exact hg) cap
    rwa [turnL_len] at this

end Go.Proofs.Ytkkkgpcdnjijbaa.ss
