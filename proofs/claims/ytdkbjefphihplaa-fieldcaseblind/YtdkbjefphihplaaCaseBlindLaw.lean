import Derived.Test.YtdkbjefphihplaaFlipWalk6
import Derived.Test.YtdkbjefphihplaaKeptWalks
import Derived.Deep.AppendLies
namespace Go.Proofs.Ytdkbjefphihplaa.lst
open Go.ChangeShapes Go.WideShapes Go.ChangeAt Go.RowKit Go.Proofs.Ytdkbjefphihplaa.common
attribute [local go_sem ↓] Go.wp_at_zero Go.wp_at_succ

theorem cellsCased : Try.prog.cellsOf 24 = 3 := by kernel_rfl

/-- how many fields bear the name -/
def cnt (l : List PB) (n : List UInt8) : Nat := l.countP fun p => decide (lowB p.1 = n)
theorem fold_cnt (n : List UInt8) (l : List PB) (a : ByteArray × Nat) : (l.foldl (step n) a).2 = a.2 + cnt l n := by
  induction l generalizing a with
  | nil => rfl
  | cons p r ih =>
    rw [List.foldl_cons, ih]
    unfold cnt step
    rw [List.countP_cons]
    by_cases h : lowB p.1 = n
    · rw [if_pos h, if_pos (decide_eq_true h)]; show a.2 + 1 + _ = _; omega
    · rw [if_neg h, if_neg (by simpa using h)]; omega
theorem fold_first (n : List UInt8) (l : List PB) (a : ByteArray × Nat) (h : a.2 ≠ 0) : (l.foldl (step n) a).1 = a.1 := by
  induction l generalizing a with
  | nil => rfl
  | cons p r ih =>
    rw [List.foldl_cons]
    by_cases hp : lowB p.1 = n
    · have e : step n a p = (a.1, a.2 + 1) := by unfold step; rw [if_pos hp, if_neg h]
      rw [e, ih _ (by simp)]
    · have e : step n a p = a := by unfold step; rw [if_neg hp]
      rw [e, ih _ h]
theorem cnt_same (n : List UInt8) : ∀ (l m : List PB), l.length = m.length → (∀ i (h : i < l.length) (h2 : i < m.length), lowB m[i].1 = lowB l[i].1) → cnt m n = cnt l n
  | [], [], _, _ => rfl
  | p :: r, q :: t, hl, h => by
    unfold cnt
    rw [List.countP_cons, List.countP_cons]
    have h0 := h 0 (by simp) (by simp)
    simp only [List.getElem_cons_zero] at h0
    have ih := cnt_same n r t (by simpa using hl) (fun i hi hi2 => by
      have := h (i + 1) (by simpa using hi) (by simpa using hi2)
      simpa using this)
    unfold cnt at ih
    rw [ih, h0]
  | [], _ :: _, hl, _ => by simp at hl
  | _ :: _, [], hl, _ => by simp at hl

abbrev fst : ByteArray := ⟨#[102, 105, 114, 115, 116]⟩
/-- the fields of other cases, with one at the head -/
def Turned (n : List UInt8) (l : List PB) (k : Nat) (m : List PB) : Prop :=
  ∃ t r, m = (t, fst) :: r ∧ lowB t = n ∧ r.length = k ∧ ∀ i (_ : i < k) (h : i < l.length) (h2 : i < r.length), lowB r[i].1 = lowB l[i].1 ∧ r[i].2 = l[i].2
theorem Turned.snoc {n : List UInt8} {l : List PB} {k : Nat} {m : List PB} (h : Turned n l k m) (hk : k < l.length) (x : ByteArray) (hx : lowB x = lowB l[k].1) : Turned n l (k + 1) (m ++ [(x, l[k].2)]) := by
  obtain ⟨t, r, rfl, ht, hr, hi⟩ := h
  refine ⟨t, r ++ [(x, l[k].2)], rfl, ht, by simp [hr], fun i h1 h2 h3 => ?_⟩
  by_cases e : i < k
  · rw [List.getElem_append_left (by omega)]
    exact hi i e h2 (by omega)
  · obtain rfl : i = k := by omega
    rw [List.getElem_append_right (by omega)]
    simp [hr, hx]
theorem Turned.look {n : List UInt8} {l : List PB} {m : List PB} (h : Turned n l l.length m) : lookOf m n = (fst, (lookOf l n).2 + 1) := by
  obtain ⟨t, r, rfl, ht, hr, hi⟩ := h
  have e0 : step n (emp, 0) (t, fst) = (fst, 1) := by unfold step; rw [if_pos ht]; rfl
  unfold lookOf
  rw [List.foldl_cons, e0]
  apply Prod.ext
  · exact fold_first n r _ (by simp)
  · rw [fold_cnt, fold_cnt, cnt_same n l r hr.symm (fun i h1 h2 => (hi i (by omega) h1 h2).1)]
    show 1 + _ = 0 + _ + 1
    omega
theorem Turned.len {n : List UInt8} {l : List PB} {k : Nat} {m : List PB} (h : Turned n l k m) : m.length = k + 1 := by
  obtain ⟨t, r, rfl, _, hr, _⟩ := h
  simp [hr]
theorem low_size {a b : ByteArray} (h : lowB a = lowB b) : a.size = b.size := by rw [← lowB_len a, h, lowB_len]
theorem Turned.names {n : List UInt8} {l : List PB} {k N : Nat} {m : List PB} (h : Turned n l k m) (hk : k ≤ l.length) (hl : ∀ p ∈ l, p.1.size ≤ N) (hn : n.length ≤ N) : ∀ p ∈ m, p.1.size ≤ N := by
  obtain ⟨t, r, rfl, ht, hr, hi⟩ := h
  intro p hp
  rcases List.mem_cons.1 hp with rfl | hp
  · show t.size ≤ N
    rw [← lowB_len t, ht]; exact hn
  · obtain ⟨i, h1, rfl⟩ := List.getElem_of_mem hp
    rw [low_size (hi i (by omega) (by omega) h1).1]
    exact hl _ (List.getElem_mem _)

/-- a struct of three cells, laid in memory -/
structure Three3 (w0 w : World) (b : Nat) (x y z : Value) : Prop where
  c0 : w.cell? ⟨b, 0, none⟩ = some x
  c1 : w.cell? ⟨b, 1, none⟩ = some y
  c2 : w.cell? ⟨b, 2, none⟩ = some z
  bl : Below w0.heap.size w0 w
  lt : b < w.heap.size
theorem three_new (w : World) (x y z : Value) (t : TypeId) : Three3 w (w.alloc (.cells #[x, y, z] t)) w.heap.size x y z :=
  ⟨range_new w #[x, y, z] t 0 x rfl, range_new w #[x, y, z] t 1 y rfl, range_new w #[x, y, z] t 2 z rfl, (Below.refl _ _).alloc (Nat.le_refl _) _, by simp⟩
theorem Three3.next {w0 w w' : World} {b : Nat} {x y z : Value} (h : Three3 w0 w b x y z) (hb : Below w.heap.size w w') : Three3 w0 w' b x y z :=
  ⟨(hb.cell h.lt).trans h.c0, (hb.cell h.lt).trans h.c1, (hb.cell h.lt).trans h.c2, h.bl.trans (hb.mono h.bl.size), Nat.lt_of_lt_of_le h.lt hb.size⟩

set_option maxRecDepth 100000 in
set_option maxHeartbeats 6400000 in
theorem lawCaseBlind (v : Value) (l : List PB) (n : ByteArray) (m : Int) (w : World) (hl : Lies w v l) (hs : (l.length + 2) * 32 ≤ 140737488355328) (hp : ∀ p ∈ l, p.1.size ≤ 140737488355328) (hnn : n.size ≤ 140737488355328) :
    Calls Try.prog 3 #[.agg #[v, .string n, .int .i64 m]] w fun e w' => e = .returned (.bool true) ∧ Below w.heap.size w w' := by
  obtain ⟨i0, hi, hz0, hz1, hz2⟩ := info_parts infoP
  have H0 := hide (three_new w v (.string n) (.int .i64 m) 24)
  have HL := hide (hl.below H0.out.bl)
  obtain ⟨ov, cv, rfl, _⟩ := hl
  have HP := hide hp
  have HNN := hide hnn
  clear hp hnn
  go_enter Try.func3, Try.ntmps3
  go_wp2_with fail
  generalize w.alloc (.cells #[.slice ov l.length cv, .string n, .int .i64 m] 24) = W at *
  refine (look_any _ l n W HL.out (by omega) HP.out).mono ?_
  rintro x w1 ⟨rfl, hb1⟩
  have x0 : ∀ X, Below W.heap.size W X → X.cell? ⟨w.heap.size, 0, none⟩ = some (.slice ov l.length cv) := fun X hX => (H0.out.next hX).c0
  have x1 : ∀ X, Below W.heap.size W X → X.cell? ⟨w.heap.size, 1, none⟩ = some (.string n) := fun X hX => (H0.out.next hX).c1
  have x2 : ∀ X, Below W.heap.size W X → X.cell? ⟨w.heap.size, 2, none⟩ = some (.int .i64 m) := fun X hX => (H0.out.next hX).c2
  go_wp2_with fail
  go_region_held3 (fun X => Below W.heap.size W X)
    (first
      | exact Below.refl _ _
      | assumption
      | exact keepD (by assumption) (by assumption)
      | exact Below.drew (by assumption)
      | exact (Below.refl _ _).drew)
    (first
      | (go_at_call 6; refine (flipped_any n m _ HNN.out).mono ?_; rintro x w2 ⟨t, rfl, ht, hb2⟩)
      | (go_at_call 5; refine (look_any _ l t _ (HL.out.below (by assumption)) (by omega) HP.out).mono ?_; rintro x w3 ⟨rfl, hb3⟩))
  have HB3 : Hid (Below W.heap.size W w3) := by assumption
  clear hb1 hb2 hb3 ht
  have hle := lookOf_le l (lowB n)
  have HLK : Hid (∀ m, Turned (lowB n) l l.length m → lookOf m (lowB n) = (fst, (lookOf l (lowB n)).2 + 1)) := fun m h => h.look
  generalize lookOf l (lowB n) = a at *
  obtain ⟨af, ac⟩ := a
  simp only [] at HLK hle ⊢
  have hb1 := HB3.out
  have y1 := x1 _ hb1
  have y2 := x2 _ hb1
  go_wp2_with fail
  refine (flipped_any n m _ HNN.out).mono ?_
  rintro x w4 ⟨t, rfl, ht, hb4⟩
  have HB4 := hide (keepD HB3.out hb4)
  have HT := hide ht
  clear hb4 hb1 y1 y2 ht
  have hnil : w4.ownsRow W.heap.size 29 2 (.slice none 0 0) 0 [] := World.ownsRow_nil _ _ _ _
  have hsz4 := HB4.out.size
  go_wp2_with (at_builtin; refine wpList_append_own _ rfl _ _ 22 rfl W.heap.size 29 i0 (.agg #[.string ⟨#[]⟩, .string ⟨#[]⟩]) 2 32 Try.underlying22 hi hz0 hz1 hz2 rfl (by decide) _ _ _ rfl (hnil.alloc _) ⟨w4.heap.size, 0, none⟩ 1 1 [.string t, .string fst] rfl rfl (cells_new _ _ _) ?c2 ?c3 ?c4 ?c5 ?_)
  case c2 => first | rfl | (intro u hu; simp at hu; rcases hu with rfl | rfl <;> rfl)
  case c3 => unfold maxLen; omega
  case c4 => omega
  case c5 => first | omega | (simp; omega)
  intro v5 w5 hown5 hgrow5 _
  have HO5 : Hid (w5.ownsRow W.heap.size 29 2 v5 [(t, fst)].length (cl [(t, fst)])) := hown5
  have HB5 := hide ((HB4.out.alloc hsz4 _).grown hgrow5 (by simp; omega) (own_ge hnil))
  clear hown5 hgrow5 hnil hsz4
  have HT5 : Hid (Turned (lowB n) l 0 [(t, fst)]) := ⟨t, [], rfl, HT.out, rfl, fun i h1 => absurd h1 (Nat.not_lt_zero _)⟩
  go_wp2_with fail
  go_loopw [7, 8] (fun v i wr => ∃ (k : Nat) (q : List PB), k ≤ l.length ∧ i = .int .i64 k ∧ Turned (lowB n) l k q ∧ wr.ownsRow W.heap.size 29 2 v q.length (cl q) ∧ Below W.heap.size W wr) (fun _ i _ => l.length - (intOf i).toNat)
  case atStart => exact ⟨0, _, Nat.zero_le _, rfl, HT5.out, HO5.out, HB5.out⟩
  case round =>
    obtain ⟨k, q, hk, rfl, hq, hown, hnx⟩ := hrel
    have hql := hq.len
    have HQ := hide hq
    have hsz := hnx.size
    have z0 := x0 _ hnx
    clear hq
    by_cases hlt : k < l.length
    · have hki : (k : Int) < (l.length : Int) := by omega
      have k0 : (0 : Int) ≤ (k : Int) := Int.natCast_nonneg _
      have HLL := HL.out
      obtain ⟨oa, ca, hva, hca⟩ := HLL
      cases hva
      obtain ⟨b, o, rfl, hb, c0, c1⟩ := hca k hlt
      have d0 : ∀ X, Below W.heap.size W X → X.cell? ⟨b, o + k * 2, none⟩ = some (.string l[k].1) := fun X hX => (hX.cell (p := ⟨b, o + k * 2, none⟩) hb).trans c0
      have d1 : ∀ X, Below W.heap.size W X → X.cell? ⟨b, o + k * 2 + 1, none⟩ = some (.string l[k].2) := fun X hX => (hX.cell (p := ⟨b, o + k * 2 + 1, none⟩) hb).trans c1
      have HPN : Hid (l[k].1.size ≤ 140737488355328) := HP.out _ (List.getElem_mem hlt)
      have HTS : Hid (∀ x, lowB x = lowB l[k].1 → Turned (lowB n) l (k + 1) (q ++ [(x, l[k].2)])) := fun x hx => HQ.out.snoc hlt x hx
      clear hca c0 c1
      generalize l[k] = p at *
      obtain ⟨pn, pv⟩ := p
      simp only [] at d0 d1 HPN HTS
      have HO := hide hown
      have HX := hide hnx
      clear hown
      go_wp2_with fail
      go_region_held3 (fun X => Below W.heap.size W X)
        (first
          | exact Below.refl _ _
          | assumption
          | exact keepD (by assumption) (by assumption)
          | exact Below.drew (by assumption)
          | exact Below.alloc (by assumption) (Below.size (by assumption)) _
          | exact (Below.refl _ _).drew
          | exact Below.grown (Below.alloc (keepD HX.out.drew hb6) (Nat.le_trans hsz (show wr.heap.size ≤ w6.heap.size from hb6.size)) _) hgrow (Nat.le_trans hsz (Nat.le_trans (show wr.heap.size ≤ w6.heap.size from hb6.size) (by simp))) (own_ge HO.out))
        (first
          | (go_at_call 6; refine (flipped_any pn m _ HPN.out).mono ?_; rintro x w6 ⟨y, rfl, hy, hb6⟩)
          | (refine step_append_lies _ (by rfl) _ _ _ (by rfl) W.heap.size 29 i0 (.agg #[.string ⟨#[]⟩, .string ⟨#[]⟩]) 2 32 Try.underlying22 hi hz0 hz1 hz2 rfl (by decide) _ q.length (cl q) (by rfl) ((own_below HO.out ((Below.refl _ _).drew.trans hb6)).alloc _)
              ⟨w6.heap.size, 0, none⟩ 1 1 [.string y, .string pv] (by rfl) (by rfl) (cells_new _ _ _) (by intro u hu; simp at hu; rcases hu with rfl | rfl <;> rfl)
              (by omega) (by unfold maxLen; omega) (by omega) (Nat.le_trans hsz (Nat.le_trans (show wr.heap.size ≤ w6.heap.size from hb6.size) (by simp))) (w6.heap.size + 1) (by simp) ?_; intro gg cap w7 hown7 hgrow hat hlt2))
      all_goals
        have H7 : Hid (Below W.heap.size W w7) := Below.grown (Below.alloc (keepD HX.out.drew hb6) (Nat.le_trans hsz (show wr.heap.size ≤ w6.heap.size from hb6.size)) _) hgrow (Nat.le_trans hsz (Nat.le_trans (show wr.heap.size ≤ w6.heap.size from hb6.size) (by simp))) (own_ge HO.out)
        have HO7 : Hid (w7.ownsRow W.heap.size 29 2 (.slice (some ⟨gg, 0, none⟩) (q.length + 1) cap) (q ++ [(y, pv)]).length (cl (q ++ [(y, pv)]))) := by
          show w7.ownsRow _ _ _ _ _ _
          rw [List.length_append, cl_app]; exact hown7
        have HT7 := hide (HTS.out y hy)
        clear hown7 hgrow hat hlt2 hb6 hy
        go_wp2_with fail
        go_roundw
        case rel => exact ⟨k + 1, _, by omega, by go_num, HT7.out, (by have h := HO7.out; rw [hql] at h; exact h), H7.out⟩
        case measure => simp [intOf]; omega
    · obtain rfl : k = l.length := by omega
      have HLQ := hide (HLK.out q HQ.out)
      have HQN : Hid (∀ p ∈ q, p.1.size ≤ 140737488355328) := HQ.out.names (Nat.le_refl _) HP.out (by rw [lowB_len]; exact HNN.out)
      have HLI := hide (lies_of_own hown)
      have HX := hide hnx
      have z1 := x1 _ hnx
      clear hown hnx
      go_wp2_with fail
      refine (look_any _ q n _ HLI.out (by omega) HQN.out).mono ?_
      rintro x w8 ⟨rfl, hb8⟩
      rw [HLQ.out]
      have HB8 := hide (keepD HX.out hb8)
      clear hb8 z0 z1
      go_wp2_with fail
      go_ret
      exact ⟨rfl, H0.out.bl.trans (HB8.out.mono H0.out.bl.size)⟩

end Go.Proofs.Ytdkbjefphihplaa.lst
