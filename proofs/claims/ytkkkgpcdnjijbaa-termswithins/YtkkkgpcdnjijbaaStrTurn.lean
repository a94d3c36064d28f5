import Derived.Test.YtkkkgpcdnjijbaaStrKit
namespace Go.Proofs.Ytkkkgpcdnjijbaa.ss
open Go.ChangeShapes Go.WideShapes Go.ChangeAt Go.RowKit Go.Proofs.Ytkkkgpcdnjijbaa.common Go.Proofs.Ytkkkgpcdnjijbaa.bk
attribute [local go_sem ↓] Go.wp_at_zero Go.wp_at_succ

/-- the first k and the last k have changed places -/
def mixR (l : List ByteArray) (k : Nat) : List ByteArray :=
  (List.range l.length).map fun i => if i < k ∨ l.length - 1 - i < k then l.getD (l.length - 1 - i) ⟨#[]⟩ else l.getD i ⟨#[]⟩
theorem mixR_len (l : List ByteArray) (k : Nat) : (mixR l k).length = l.length := by simp [mixR]
theorem mixR_get (l : List ByteArray) (k i : Nat) (h : i < l.length) : (mixR l k)[i]'(by rw [mixR_len]; exact h) = if i < k ∨ l.length - 1 - i < k then l.getD (l.length - 1 - i) ⟨#[]⟩ else l.getD i ⟨#[]⟩ := by
  simp [mixR]
theorem getD_at (l : List ByteArray) (i : Nat) (h : i < l.length) : l.getD i ⟨#[]⟩ = l[i] := by
  rw [List.getD_eq_getElem?_getD, List.getElem?_eq_getElem h]; rfl
theorem mixR_zero (l : List ByteArray) : mixR l 0 = l := by
  apply List.ext_getElem (mixR_len l 0)
  intro i h1 h2
  rw [mixR_get l 0 i h2, if_neg (by omega), getD_at l i h2]
theorem mixR_half (l : List ByteArray) : mixR l (l.length / 2) = l.reverse := by
  apply List.ext_getElem (by rw [mixR_len, List.length_reverse])
  intro i h1 h2
  rw [List.length_reverse] at h2
  rw [mixR_get l _ i h2, List.getElem_reverse]
  by_cases hc : i < l.length / 2 ∨ l.length - 1 - i < l.length / 2
  · rw [if_pos hc, getD_at l _ (by omega)]
  · rw [if_neg hc, getD_at l i h2]
    have : l.length - 1 - i = i := by omega
    simp only [this]
theorem mixR_step (l : List ByteArray) (k : Nat) (h : k < l.length / 2) : ((mixR l k).set k (l[l.length - 1 - k]'(by omega))).set (l.length - 1 - k) (l[k]'(by omega)) = mixR l (k + 1) := by
  apply List.ext_getElem (by simp [mixR_len])
  intro i h1 h2
  have hi : i < l.length := by rw [mixR_len] at h2; exact h2
  rw [mixR_get l (k + 1) i hi, List.getElem_set, List.getElem_set]
  by_cases h3 : l.length - 1 - k = i
  · rw [if_pos h3, if_pos (by omega)]
    have e : l.length - 1 - i = k := by omega
    rw [e, getD_at l k (by omega)]
  · rw [if_neg h3]
    by_cases h4 : k = i
    · subst h4
      rw [if_pos rfl, if_pos (by omega), getD_at l _ (by omega)]
    · rw [if_neg h4, mixR_get l k i hi]
      by_cases h5 : i < k ∨ l.length - 1 - i < k
      · rw [if_pos h5, if_pos (by omega)]
      · rw [if_neg h5, if_neg (by omega)]

/-- the last text first, with a letter more -/
def zed (s : ByteArray) : ByteArray := s ++ ⟨#[122]⟩
def headZ : List ByteArray → List ByteArray
  | [] => []
  | x :: r => zed x :: r
def turnL (l : List ByteArray) : List ByteArray := headZ l.reverse
theorem headZ_len (m : List ByteArray) : (headZ m).length = m.length := by cases m <;> rfl
theorem headZ_set (m : List ByteArray) (h : 0 < m.length) : m.set 0 (zed (m[0]'h)) = headZ m := by
  cases m with
  | nil => exact absurd h (Nat.lt_irrefl _)
  | cons x r => rfl
theorem turnL_len (l : List ByteArray) : (turnL l).length = l.length := by
  unfold turnL; rw [headZ_len, List.length_reverse]
theorem turnL_set (l : List ByteArray) (h : 0 < l.reverse.length) : l.reverse.set 0 (zed (l.reverse[0]'h)) = turnL l := headZ_set _ h

set_option maxRecDepth 100000 in
set_option maxHeartbeats 3200000 in
theorem turn_any (g n cap : Nat) (l r : List ByteArray) (w : World) (hn : l.length = n) (hr : Row w g (l ++ r)) (hs : l.length ≤ 4611686018427387904) (hp : ∀ p ∈ l, p.size ≤ 140737488355328) :
    Calls Try.prog 19 #[.slice (some ⟨g, 0, none⟩) n cap] w fun e w' => e = .returned (.slice (some ⟨g, 0, none⟩) n cap) ∧ Row w' g (turnL l ++ r) ∧ Below g w w' := by
  have HR := hide hr
  have HP := hide hp
  clear hr hp
  have hq : (n : Int).tdiv 2 = ((n / 2 : Nat) : Int) := by simp
  have HQ : Hid (IntKind.i64.wrap ((n : Int).tdiv 2) = ((n / 2 : Nat) : Int)) := by show _ = _; rw [hq]; exact wrap_le _ (by omega) (by omega)
  clear hq
  go_enter Try.func19, Try.ntmps19
  go_wp2_with fail
  go_loopw [3] (fun i wr => ∃ k : Nat, k ≤ n / 2 ∧ i = .int .i64 k ∧ Row wr g (mixR l k ++ r) ∧ Below g w wr) (fun i _ => n - (intOf i).toNat)
  case atStart => exact ⟨0, Nat.zero_le _, rfl, by rw [mixR_zero]; exact HR.out, Below.refl _ _⟩
  case round =>
    obtain ⟨k, hk, rfl, hrow, hnx⟩ := hrel
    by_cases hlt : k < n / 2
    · have hki : (k : Int) < ((n / 2 : Nat) : Int) := by omega
      have hkn : (k : Int) < (n : Int) := by omega
      have hll : (mixR l k ++ r).length = n + r.length := by rw [List.length_append, mixR_len, hn]
      have g0 : (mixR l k ++ r)[k]'(by omega) = l[k]'(by omega) := by
        rw [List.getElem_append_left (by rw [mixR_len]; omega), mixR_get l k k (by omega), if_neg (by omega), getD_at l k (by omega)]
      have g1 : (mixR l k ++ r)[n - 1 - k]'(by omega) = l[n - 1 - k]'(by omega) := by
        rw [List.getElem_append_left (by rw [mixR_len]; omega), mixR_get l k _ (by omega), if_neg (by omega), getD_at l _ (by omega)]
      have d0 : wr.cell? ⟨g, k, none⟩ = some (.string (l[k]'(by omega))) := by rw [hrow.cell k (by omega), g0]
      have d1 : wr.cell? ⟨g, n - 1 - k, none⟩ = some (.string (l[n - 1 - k]'(by omega))) := by rw [hrow.cell (n - 1 - k) (by omega), g1]
      have f0 : wr.frozen? ⟨g, k, none⟩ = false := hrow.free k (by omega)
      have f1 : wr.frozen? ⟨g, n - 1 - k, none⟩ = false := hrow.free (n - 1 - k) (by omega)
      have HRW : Hid (Row ((wr.setCell ⟨g, k, none⟩ (.string (l[n - 1 - k]'(by omega)))).setCell ⟨g, n - 1 - k, none⟩ (.string (l[k]'(by omega)))) g (mixR l (k + 1) ++ r)) := by
        have h1 := (hrow.set k (by omega) (l[n - 1 - k]'(by omega))).set (n - 1 - k) (by rw [List.length_set]; omega) (l[k]'(by omega))
        rw [List.set_append_left _ _ (by rw [mixR_len]; omega), List.set_append_left _ _ (by rw [List.length_set, mixR_len]; omega)] at h1
        have e := mixR_step l k (by omega)
        subst hn
        rw [e] at h1
        exact h1
      have HX := hide hnx
      clear hrow hnx g0 g1
      generalize l[k]'(by omega) = p at *
      generalize l[n - 1 - k]'(by omega) = q at *
      have k0 : (0 : Int) ≤ (k : Int) := Int.natCast_nonneg _
      have w1 : IntKind.i64.wrap ((n : Int) - 1) = (n : Int) - 1 := wrap_le _ (by omega) (by omega)
      have w2 : IntKind.i64.wrap ((n : Int) - 1 - (k : Int)) = (n : Int) - 1 - (k : Int) := wrap_le _ (by omega) (by omega)
      have t2 : ((n : Int) - 1 - (k : Int)).toNat = n - 1 - k := by omega
      have k2 : (0 : Int) ≤ (n : Int) - 1 - (k : Int) := by omega
      have k3 : (n : Int) - 1 - (k : Int) < (n : Int) := by omega
      go_wp2_with fail
      go_roundw
      case rel => exact ⟨k + 1, by omega, by go_num, HRW.out, (HX.out.setCell (Nat.le_refl _) _).setCell (Nat.le_refl _) _⟩
      case measure => simp [intOf]; omega
    · obtain rfl : k = n / 2 := by omega
      have e : mixR l (n / 2) = l.reverse := by rw [← hn]; exact mixR_half l
      rw [e] at hrow
      have hki : ¬ ((n / 2 : Nat) : Int) < ((n / 2 : Nat) : Int) := by omega
      by_cases h0 : 0 < n
      · have h0i : (0 : Int) < (n : Int) := by omega
        have hlr : 0 < l.reverse.length := by rw [List.length_reverse]; omega
        have d0 : wr.cell? ⟨g, 0, none⟩ = some (.string (l.reverse[0]'hlr)) := by
          rw [hrow.cell 0 (by rw [List.length_append]; omega), List.getElem_append_left hlr]
        have f0 : wr.frozen? ⟨g, 0, none⟩ = false := hrow.free 0 (by rw [List.length_append]; omega)
        have HRW : Hid (Row (wr.setCell ⟨g, 0, none⟩ (.string (zed (l.reverse[0]'hlr)))) g (turnL l ++ r)) := by
          have h1 := hrow.set 0 (by rw [List.length_append]; omega) (zed (l.reverse[0]'hlr))
          rw [List.set_append_left _ _ hlr, turnL_set l hlr] at h1
          exact h1
        have hpz : (l.reverse[0]'hlr).size ≤ 140737488355328 := HP.out _ (List.mem_reverse.1 (List.getElem_mem hlr))
        have HX := hide hnx
        clear hrow hnx e
        generalize l.reverse[0]'hlr = p at *
        go_wp2_with fail
        go_ret
        exact ⟨rfl, HRW.out, HX.out.setCell (Nat.le_refl _) _⟩
      · have h0i : ¬ (0 : Int) < (n : Int) := by omega
        have hl0 : l = [] := List.eq_nil_of_length_eq_zero (by omega)
        have e2 : l.reverse = turnL l := by rw [hl0]; rfl
        rw [e2] at hrow
        have H1 := hide hrow
        have H2 := hide hnx
        clear hrow hnx e e2 hl0
        go_wp2_with fail
        go_ret
        exact ⟨rfl, H1.out, H2.out⟩

theorem turn_own (v : Value) (l : List ByteArray) (w : World) {base : Nat} {e : TypeId} (h : w.ownsRow base e 1 v l.length (sc l)) (hs : l.length ≤ 4611686018427387904) (hp : ∀ p ∈ l, p.size ≤ 140737488355328) :
    Calls Try.prog 19 #[v] w fun x w' => x = .returned v ∧ Lies w' v (turnL l) ∧ Below base w w' := by
  rcases row_of_own h with ⟨rfl, rfl⟩ | ⟨g, cap, rfl, hb, hg, hr, _⟩
  · go_enter Try.func19, Try.ntmps19
    go_wp2_with fail
    go_loopw [3] (fun i wr => i = .int .i64 0 ∧ wr = w) (fun _ _ => 0)
    case atStart => exact ⟨rfl, rfl⟩
    case round =>
      obtain ⟨rfl, rfl⟩ := hrel
      go_wp2_with fail
      go_ret
      exact ⟨rfl, ⟨none, 0, rfl, fun _ hi => absurd hi (Nat.not_lt_zero _)⟩, Below.refl _ _⟩
  · refine (turn_any g l.length cap l [] w rfl (by rw [List.append_nil]; exact hr) hs hp).mono ?_
    rintro x w' ⟨rfl, hr', hb'⟩
    refine ⟨rfl, ?_, hb'.mono hb⟩
    have := hr'.head (Nat.lt_of_lt_of_le hg hb'.size) cap
    rwa [turnL_len] at this

end Go.Proofs.Ytkkkgpcdnjijbaa.ss
