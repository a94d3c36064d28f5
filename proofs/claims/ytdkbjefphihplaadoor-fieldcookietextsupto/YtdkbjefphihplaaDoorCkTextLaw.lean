import Derived.Test.YtdkbjefphihplaaDoorCkText3
import Derived.Test.YtdkbjefphihplaaDoorKeptWalks
import Derived.Test.YtdkbjefphihplaaDoorTurnList
import Derived.Test.YtdkbjefphihplaaDoorErrWalks
import Derived.Test.YtdkbjefphihplaaDoorListOpen
namespace Go.Proofs.YtdkbjefphihplaaDoor.fd
open Go.ChangeShapes Go.WideShapes Go.ChangeAt Go.RowKit Go.Proofs.YtdkbjefphihplaaDoor.common Go.Proofs.YtdkbjefphihplaaDoor.bk
open Go.Proofs.YtdkbjefphihplaaDoor.lst (PB Lies Row)
attribute [local go_sem ↓] Go.wp_at_zero Go.wp_at_succ

theorem ck_parts (l : List PB) (e : Nat → Addr) : ∃ (T : ByteArray) (V : Value) (c : Int), ckTextR l (errw.E e 2) (errw.E e 1) = .tuple #[.string T, V] ∧ refCkR l = .tuple #[.string T, .int .i64 c] ∧
    ∀ W, errw.Errs W e → Calls Tryd.prog 23 #[V] W fun x w' => x = .returned (.int .i64 c) ∧ w' = W := by
  unfold ckTextR refCkR
  by_cases h : 16 < l.length
  · rw [if_pos h, if_pos h]
    exact ⟨_, _, _, rfl, rfl, fun W hW => errw.num_2 W e hW⟩
  · rw [if_neg h, if_neg h]
    cases allCk l with
    | true => exact ⟨_, _, _, rfl, rfl, fun W _ => errw.num_nil W⟩
    | false => exact ⟨_, _, _, rfl, rfl, fun W hW => errw.num_1 W e hW⟩

theorem tot_swap (l : List PB) : tot (l.map fun p => (p.2, p.1)) = tot l := by
  induction l with
  | nil => rfl
  | cons p r ih => show p.2.size + p.1.size + 3 + tot (r.map fun p => (p.2, p.1)) = p.1.size + p.2.size + 3 + tot r; rw [ih]; omega

set_option maxRecDepth 100000 in
set_option maxHeartbeats 6400000 in
theorem lawCookieTexts (v : Value) (l : List PB) (w : World) (hl : Lies w v l) (hn : (l.length + 2) * 32 ≤ 140737488355328) (hs : tot l ≤ 140737488355328) (e : Nat → Addr) (he : errw.Errs w e) :
    Calls Tryd.prog 6 #[v] w fun x w' => x = .returned (.bool true) ∧ Below w.heap.size w w' := by
  obtain ⟨T, V, c, h1, h2, h3⟩ := ck_parts l e
  obtain ⟨T', V', c', g1, g2, g3⟩ := ck_parts (l.map fun p => (p.2, p.1)) e
  have HP1 : Hid (∀ (u : Value) W, Below w.heap.size w W → Lies W u l → Calls Tryd.prog 20 #[u] W fun x w' => x = .returned (.tuple #[.string T, V]) ∧ Below W.heap.size W w') := by
    intro u W hW hu
    rw [← h1]
    exact cookieText_any u l W hu hs _ _ ((he.below hW).cell 2 (by decide)) ((he.below hW).cell 1 (by decide))
  have HP2 : Hid (∀ (u : Value) W, Lies W u l → Calls Tryd.prog 21 #[u] W fun x w' => x = .returned (.tuple #[.string T, .int .i64 c]) ∧ Below W.heap.size W w') := by
    intro u W hu
    rw [← h2]
    exact refCkText_any u l W hu hs
  have HQ1 : Hid (∀ (u : Value) W, Below w.heap.size w W → Lies W u (l.map fun p => (p.2, p.1)) → Calls Tryd.prog 20 #[u] W fun x w' => x = .returned (.tuple #[.string T', V']) ∧ Below W.heap.size W w') := by
    intro u W hW hu
    rw [← g1]
    exact cookieText_any u _ W hu (by rw [tot_swap]; exact hs) _ _ ((he.below hW).cell 2 (by decide)) ((he.below hW).cell 1 (by decide))
  have HQ2 : Hid (∀ (u : Value) W, Lies W u (l.map fun p => (p.2, p.1)) → Calls Tryd.prog 21 #[u] W fun x w' => x = .returned (.tuple #[.string T', .int .i64 c']) ∧ Below W.heap.size W w') := by
    intro u W hu
    rw [← g2]
    exact refCkText_any u _ W hu (by rw [tot_swap]; exact hs)
  have HN : Hid (∀ W, Below w.heap.size w W → Calls Tryd.prog 23 #[V] W fun x w' => x = .returned (.int .i64 c) ∧ w' = W) := fun W hW => h3 W (he.below hW)
  have HN' : Hid (∀ W, Below w.heap.size w W → Calls Tryd.prog 23 #[V'] W fun x w' => x = .returned (.int .i64 c') ∧ w' = W) := fun W hW => g3 W (he.below hW)
  have HL := hide hl
  obtain ⟨ov, cv, rfl, _⟩ := hl
  clear h1 h2 h3 g1 g2 g3 he
  go_enter Tryd.func6, Tryd.ntmps6
  go_wp2_with fail
  refine (lst.spare_any _ l w HL.out hn).mono ?_
  rintro x w1 ⟨g, cap, rfl, hg0, hg, hcap, hrow, hb1⟩
  have HFL : Hid (Lies w1 (.slice (some ⟨g, 0, none⟩) l.length cap) l) := by
    have := hrow.lies hg l.length cap (by rw [List.length_append]; omega)
    rw [List.take_left] at this
    exact this
  have HR1 := hide hrow
  have HG1 := hide hg
  have HB1 := hide hb1
  clear hrow hb1 hg
  have k4 : (l.length : Int) ≤ (cap : Int) := by omega
  have k5 : l.length ≤ cap := by omega
  have k0 : (0 : Int) ≤ (l.length : Int) := Int.natCast_nonneg _
  go_wp2_with fail
  refine (HP1.out _ w1 HB1.out HFL.out).mono ?_
  rintro x w2 ⟨rfl, hb2⟩
  have HR2 := hide (HR1.out.below hb2 HG1.out)
  have HG2 : Hid (g < w2.heap.size) := Nat.lt_of_lt_of_le HG1.out hb2.size
  have HB2 := hide (keepD HB1.out hb2)
  clear hb2 HR1 HG1 HFL
  go_wp2_with fail
  refine (lst.copied_any _ l w2 (HL.out.below HB2.out) (by omega)).mono ?_
  rintro x w3 ⟨v3, rfl, ho3, hb3⟩
  have HO3 := hide (lst.lies_of_own ho3)
  have HR3 := hide (HR2.out.below hb3 HG2.out)
  have HG3 : Hid (g < w3.heap.size) := Nat.lt_of_lt_of_le HG2.out hb3.size
  have HB3 := hide (keepD HB2.out hb3)
  clear hb3 HR2 HG2 ho3
  go_wp2_with fail
  refine (HP2.out _ w3 HO3.out).mono ?_
  rintro x w4 ⟨rfl, hb4⟩
  have HR4 := hide (HR3.out.below hb4 HG3.out)
  have HG4 : Hid (g < w4.heap.size) := Nat.lt_of_lt_of_le HG3.out hb4.size
  have HB4 := hide (keepD HB3.out hb4)
  clear hb4 HR3 HG3 HO3
  go_wp2_with (go_at_call 23; refine (HN.out _ HB4.out).mono ?_; rintro x w5 ⟨rfl, rfl⟩)
  refine (lst.kept_any g cap _ l _ HR4.out HG4.out (HL.out.below HB4.out) hcap (by omega)).mono ?_
  rintro x w5 ⟨rfl, hb5⟩
  have HR5 := hide (HR4.out.below hb5 HG4.out)
  have HG5 : Hid (g < w5.heap.size) := Nat.lt_of_lt_of_le HG4.out hb5.size
  have HB5 := hide (keepD HB4.out hb5)
  clear hb5 HR4 HG4
  go_wp2_with fail
  refine (lst.turn_any g l.length cap l _ w5 rfl HR5.out (by omega)).mono ?_
  rintro x w6 ⟨rfl, hr6, hb6⟩
  have HL6 := hide (lst.lies_map l hr6 (Nat.lt_of_lt_of_le HG5.out hb6.size) cap)
  have HB6 := hide (lst.keepT hg0 HB5.out hb6)
  clear hr6 hb6
  go_wp2_with fail
  refine (HQ1.out _ w6 HB6.out HL6.out).mono ?_
  rintro x w7 ⟨rfl, hb7⟩
  have HB7 := hide (keepD HB6.out hb7)
  clear hb7 HL6
  go_wp2_with fail
  refine (lst.copied_any _ l w7 (HL.out.below HB7.out) (by omega)).mono ?_
  rintro x w8 ⟨v8, rfl, ho8, hb8⟩
  have HO8 := hide ho8
  have HB8 := hide (keepD HB7.out hb8)
  have HS78 : Hid (w7.heap.size ≤ w8.heap.size) := hb8.size
  clear hb8 ho8
  go_wp2_with fail
  refine (lst.turn_own _ l w8 HO8.out (by omega)).mono ?_
  rintro x w9 ⟨rfl, hl9, hb9⟩
  have HL9 := hide hl9
  have HB9 := hide (lst.keepT HB7.out.size HB8.out hb9)
  clear hl9 hb9
  go_wp2_with fail
  refine (HQ2.out _ w9 HL9.out).mono ?_
  rintro x w10 ⟨rfl, hb10⟩
  have HB10 := hide (keepD HB9.out hb10)
  clear hb10
  go_wp2_with (go_at_call 23; refine (HN'.out _ HB10.out).mono ?_; rintro x w11 ⟨rfl, rfl⟩)
  go_ret
  exact ⟨by simp, HB10.out⟩

theorem bulk_tot {H : Type} (l : List PB) : tot l ≤ 3 * Rows.uptoBulkAll (l.map (lst.dat (H := H))) := by
  induction l with
  | nil => exact Nat.zero_le _
  | cons p r ih =>
    have e : Rows.uptoBulkAll ((p :: r).map (lst.dat (H := H))) = Rows.uptoBulk (lst.dat (H := H) p) + Rows.uptoBulkAll (r.map (lst.dat (H := H))) := by
      rw [List.map_cons, Rows.uptoBulkAll]
    have h2 : p.1.size + p.2.size + 1 ≤ Rows.uptoBulk (lst.dat (H := H) p) := by
      unfold lst.dat
      simp only [Rows.uptoBulk, Rows.uptoBulkAll, len_list]
      omega
    rw [e]
    show p.1.size + p.2.size + 3 + tot r ≤ _
    omega

end Go.Proofs.YtdkbjefphihplaaDoor.fd
