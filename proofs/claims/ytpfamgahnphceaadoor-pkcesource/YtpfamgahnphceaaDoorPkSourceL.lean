import Derived.Test.YtpfamgahnphceaaDoorPkBoth
import Derived.BigQuiet
import Derived.Test.YtpfamgahnphceaaDoorKitWalks
namespace Go.Proofs.YtpfamgahnphceaaDoor.pk
open Go.ChangeShapes Go.WideShapes Go.ChangeAt Go.RowKit Go.Proofs.YtpfamgahnphceaaDoor.common
open Go.Proofs.YtpfamgahnphceaaDoor.errw (Errs E)
attribute [local go_sem ↓] Go.wp_at_zero Go.wp_at_succ

abbrev Dr := Int × Int × ByteArray
/-- a script -/
def LiesD (w : World) (v : Value) (l : List Dr) : Prop :=
  ∃ oa cap, v = .slice oa l.length cap ∧ ∀ i (h : i < l.length), ∃ b o, oa = some ⟨b, o, none⟩ ∧ b < w.heap.size ∧ w.cell? ⟨b, o + i * 3, none⟩ = some (.int .i64 l[i].1) ∧ w.cell? ⟨b, o + i * 3 + 1, none⟩ = some (.int .i64 l[i].2.1) ∧ w.cell? ⟨b, o + i * 3 + 2, none⟩ = some (.string l[i].2.2) ∧ -9223372036854775808 ≤ l[i].1 ∧ l[i].1 ≤ 9223372036854775807
theorem LiesD.below {w w' : World} {v : Value} {l : List Dr} (h : LiesD w v l) (hb : Below w.heap.size w w') : LiesD w' v l := by
  obtain ⟨oa, cap, hv, hc⟩ := h
  refine ⟨oa, cap, hv, fun i hi => ?_⟩
  obtain ⟨b, o, ho, hlt, c0, c1, c2, c3⟩ := hc i hi
  exact ⟨b, o, ho, Nat.lt_of_lt_of_le hlt hb.size, (hb.cell hlt).trans c0, (hb.cell hlt).trans c1, (hb.cell hlt).trans c2, c3⟩

abbrev WA (w : World) : World := ((w.alloc (.cells #[.slice none 0 0] 53)).alloc (.cells #[.slice none 0 0] 53)).alloc (.cells #[ptr w.heap.size, ptr (w.heap.size + 1)] 39)
abbrev WB (w : World) : World := ((w.alloc (.cells #[.slice none 0 0] 63)).alloc (.cells #[.slice none 0 0] 63)).alloc (.cells #[ptr w.heap.size, ptr (w.heap.size + 1)] 42)
theorem s4_start (w : World) : S4 w ((WB (WA w)).alloc (.cells #[.slice none 0 0] 22)) w.heap.size none 0 (fun _ => none) (fun _ => none) (fun _ => []) (fun _ => []) (.slice none 0 0) [] := by
  have zA : (WA w).heap.size = w.heap.size + 3 := by simp
  have zB : (WB (WA w)).heap.size = w.heap.size + 6 := by simp
  have old : ∀ k, k < w.heap.size + 3 → ((WB (WA w)).alloc (.cells #[.slice none 0 0] 22)).heap[k]? = (WA w).heap[k]? := fun k hk => by
    rw [heap_alloc_old _ _ (by omega)]
    unfold WB
    rw [heap_alloc_old _ _ (by simp; omega), heap_alloc_old _ _ (by simp; omega), heap_alloc_old _ _ (by omega)]
  have a0 : (WA w).heap[w.heap.size]? = some (.cells #[.slice none 0 0] 53 (0, 0)) := by
    unfold WA
    rw [heap_alloc_old _ _ (by simp; omega), heap_alloc_old _ _ (by simp), heap_alloc_new]
  have a1 : (WA w).heap[w.heap.size + 1]? = some (.cells #[.slice none 0 0] 53 (0, 0)) := by
    unfold WA
    rw [heap_alloc_old _ _ (by simp)]
    exact at_new _ _ _ (by simp)
  have a2 : (WA w).heap[w.heap.size + 2]? = some (.cells #[ptr w.heap.size, ptr (w.heap.size + 1)] 39 (0, 0)) := at_new _ _ _ (by simp)
  have oldB : ∀ k, k < w.heap.size + 6 → ((WB (WA w)).alloc (.cells #[.slice none 0 0] 22)).heap[k]? = (WB (WA w)).heap[k]? := fun k hk => heap_alloc_old _ _ (by omega)
  have b0 : (WB (WA w)).heap[w.heap.size + 3]? = some (.cells #[.slice none 0 0] 63 (0, 0)) := by
    unfold WB
    rw [heap_alloc_old _ _ (by simp), heap_alloc_old _ _ (by simp)]
    exact at_new _ _ _ (by omega)
  have b1 : (WB (WA w)).heap[w.heap.size + 4]? = some (.cells #[.slice none 0 0] 63 (0, 0)) := by
    unfold WB
    rw [heap_alloc_old _ _ (by simp)]
    exact at_new _ _ _ (by simp)
  have b2 : (WB (WA w)).heap[w.heap.size + 5]? = some (.cells #[ptr (w.heap.size + 3), ptr (w.heap.size + 4)] 42 (0, 0)) := by
    unfold WB
    rw [zA]
    exact at_new _ _ _ (by simp)
  refine ⟨fun i hi => ⟨⟨.slice none 0 0, ?_, ln_nil _ _ _⟩, fun _ h => (by cases h)⟩, fun i hi => ⟨.slice none 0 0, ?_, ln_nil _ _ _⟩, (old _ (by omega)).trans a2, (oldB _ (by omega)).trans b2, ?_, World.ownsRow_nil _ _ _ _, fun _ _ _ h => (by cases h), fun _ _ _ h => (by cases h), fun _ _ _ _ _ _ h => (by cases h), fun _ _ _ _ _ _ h => (by cases h), fun _ _ _ h => (by cases h), ?_, ?_, fun _ h => (by cases h)⟩
  · match i, hi with
    | 0, _ => exact (old _ (by omega)).trans a0
    | 1, _ => exact (old _ (by omega)).trans a1
  · match i, hi with
    | 0, _ => exact (oldB _ (by omega)).trans b0
    | 1, _ => exact (oldB _ (by omega)).trans b1
  · exact at_new _ _ _ (by omega)
  · exact (((((((Below.refl w.heap.size w).alloc (Nat.le_refl _) _).alloc (by simp) _).alloc (by simp; omega) _).alloc (by simp; omega) _).alloc (by simp; omega) _).alloc (by simp; omega) _).alloc (by simp; omega) _
  · simp

theorem arr2 {w : World} {b : Nat} {x y : Value} {t : TypeId} (h : w.heap[b]? = some (.cells #[x, y] t (0, 0))) : w.cell? ⟨b, 0, none⟩ = some x ∧ w.cell? ⟨b, 1, none⟩ = some y := by
  constructor <;> simp [World.cell?, h]

set_option maxRecDepth 100000 in
set_option maxHeartbeats 12800000 in
theorem lawSource (v : Value) (l : List Dr) (w : World) (hl : LiesD w v l) (hn : l.length * 32 ≤ 140737488355328) (hu : radw.UrlTab w) (e : Nat → Addr) (he : Errs w e) :
    Calls Tryd.prog 4 #[v] w fun x w' => x = .returned (.bool true) ∧ Below w.heap.size w w' := by
  have HL := hide hl
  have HU := hide hu
  have HE := hide he
  have hug : 13 < w.heap.size := hu.lt (by decide)
  have HUG := hide hug
  have HS0 := hide (s4_start w)
  have hmf : ∀ (fn : Fn) (first cap : Array Value) (w : World), (Instr.makeFunc fn first cap).run Tryd.prog w = .ok (.func fn first cap) w := by intros; rfl
  obtain ⟨VA, hVA⟩ : ∃ VA, VA = WA w := ⟨_, rfl⟩
  obtain ⟨VB, hVB⟩ : ∃ VB, VB = WB VA := ⟨_, rfl⟩
  have zA : VA.heap.size = w.heap.size + 3 := by rw [hVA]; simp
  have zB : VB.heap.size = w.heap.size + 6 := by rw [hVB]; simp; omega
  rw [← hVA, ← hVB] at HS0
  have hsB : VB.heap[w.heap.size + 2]? = some (.cells #[ptr w.heap.size, ptr (w.heap.size + 1)] 39 (0, 0)) := (heap_alloc_old VB _ (by omega)).symm.trans HS0.out.arS
  have q0 := (arr2 hsB).1
  have q1 := (arr2 hsB).2
  have HVA := hide hVA
  have HVB := hide hVB
  have HZA := hide zA
  have HZB := hide zB
  obtain ⟨oa, cap, rfl, hcs⟩ := hl
  clear hu he hug hcs zA zB hVA hVB hsB
  go_enter Tryd.func4, Tryd.ntmps4
  go_wp2_with fail
  refine (newSource_any _).mono ?_
  rintro x w1 ⟨rfl, rfl⟩
  go_wp2_with fail
  refine (newSource_any _).mono ?_
  rintro x w1 ⟨rfl, rfl⟩
  rw [show (w.alloc (.cells #[.slice none 0 0] 53)).heap.size = w.heap.size + 1 by simp]
  go_wp2_with fail
  rw [show ((w.alloc (.cells #[.slice none 0 0] 53)).alloc (.cells #[.slice none 0 0] 53)).alloc (.cells #[.pointer (some ⟨w.heap.size, 0, none⟩), .pointer (some ⟨w.heap.size + 1, 0, none⟩)] 39) = VA from HVA.out.symm]
  refine (newDoc_any _).mono ?_
  rintro x w1 ⟨rfl, rfl⟩
  go_wp2_with fail
  refine (newDoc_any _).mono ?_
  rintro x w1 ⟨rfl, rfl⟩
  rw [show (VA.alloc (.cells #[.slice none 0 0] 63)).heap.size = VA.heap.size + 1 by simp]
  rw [HVB.out] at q0 q1
  go_wp2_with fail
  rw [show ((VA.alloc (.cells #[.slice none 0 0] 63)).alloc (.cells #[.slice none 0 0] 63)).alloc (.cells #[.pointer (some ⟨VA.heap.size, 0, none⟩), .pointer (some ⟨VA.heap.size + 1, 0, none⟩)] 42) = VB from HVB.out.symm, HZA.out]
  rw [show w.heap.size + 3 + 1 + 1 + 1 = w.heap.size + 6 from rfl, show w.heap.size + 3 + 1 + 1 = w.heap.size + 5 from rfl, show w.heap.size + 3 + 1 = w.heap.size + 4 from rfl, show w.heap.size + 1 + 1 = w.heap.size + 2 from rfl]
  clear q0 q1 HZA HZB HVA HVB
  generalize VB.alloc (.cells #[.slice none 0 0] 22) = W0 at *
  go_loopw [6] (fun i wr => ∃ (k : Nat) (kb : Option Nat) (kd : Int) (G H : Nat → Option Nat) (L : Nat → List ByteArray) (sv : Value) (sn : List ByteArray), k ≤ l.length ∧ i = .int .i64 k ∧ S4 w wr w.heap.size kb kd G H L L sv sn ∧ sn.length ≤ k) (fun i _ => l.length - (intOf i).toNat)
  case atStart => exact ⟨0, none, 0, _, _, _, _, [], Nat.zero_le _, rfl, HS0.out, Nat.le_refl _⟩
  case round =>
    obtain ⟨k, kb0, kd0, G, H, L, sv, sn, hk, rfl, hs, hsn⟩ := hrel
    by_cases hlt : k < l.length
    · have hki : (k : Int) < (l.length : Int) := by omega
      obtain ⟨oa', cap', hv', hc'⟩ := HL.out.below hs.low
      obtain ⟨b, o, hoa, hbl, d0, d1, d2, hw1, hw2⟩ := hc' k hlt
      obtain rfl : oa = some ⟨b, o, none⟩ := by cases hv'; exact hoa
      have hbw : b < w.heap.size := by
        obtain ⟨oa2, cap2, hv2, hc2⟩ := HL.out
        obtain ⟨b2, o2, ho2, hb2, _⟩ := hc2 k hlt
        cases hv2
        cases ho2
        exact hb2
      have HTX : Hid (∀ X, Below w.heap.size w X → X.cell? ⟨b, o + k * 3 + 2, none⟩ = some (.string l[k].2.2)) := fun X hX => by
        obtain ⟨oa2, cap2, hv2, hc2⟩ := HL.out.below hX
        obtain ⟨b2, o2, ho2, _, _, _, hc3, _⟩ := hc2 k hlt
        cases hv2
        cases ho2
        exact hc3
      clear hv' hc' hoa hbl d2
      have hsl : sn.length ≤ 4611686018427387904 := by omega
      have hsb : (sn.length + 1) * 16 ≤ 140737488355328 := by omega
      have HP := hide (fun X => kitw.pick_any l[k].1 2 X (by decide) (by decide) hw1 hw2)
      obtain ⟨hp0, hp1⟩ := kitw.pick_bounds l[k].1 2
      have hp2 := hp1 (by decide)
      obtain ⟨kk, hkk⟩ : ∃ kk : Nat, kitw.pick l[k].1 2 = (kk : Int) := ⟨(kitw.pick l[k].1 2).toNat, by omega⟩
      have hk2 : kk < 2 := by omega
      rw [hkk] at HP
      have HS := hide hs
      have d1' : (wr.alloc (.cells #[.int .i64 l[k].2.1] 3)).cell? ⟨wr.heap.size, 0, none⟩ = some (.int .i64 l[k].2.1) := cell0 (heap_alloc_new wr _)
      have HS1 := hide (hs.other l[k].2.1)
      have k0 : (0 : Int) ≤ (k : Int) := Int.natCast_nonneg _
      have kk0 : (0 : Int) ≤ (kk : Int) := Int.natCast_nonneg _
      have kk2 : (kk : Int) < 2 := by omega
      have HSL := hide hsl
      have HSB := hide hsb
      have HSN := hide hsn
      clear hp0 hp1 hp2 hkk hs hw1 hw2 hsl hsb hsn
      generalize l[k].1 = who at *
      generalize l[k].2.1 = kind at *
      generalize l[k].2.2 = txt at *
      go_wp2_with fail
      refine (HP.out _).mono ?_
      rintro x w1 ⟨rfl, h1⟩
      obtain rfl := h1.symm
      clear h1 HP d0
      have x0 : ∀ X, (∃ kb G H L M sv sn, S4 w X w.heap.size kb kind G H L M sv sn) → X.cell? ⟨w.heap.size + 2, kk, none⟩ = some (ptr (w.heap.size + kk)) := fun X ⟨_, _, _, _, _, _, _, h⟩ => by
        have h2 := arr2 h.arS
        match kk, hk2 with
        | 0, _ => exact h2.1
        | 1, _ => exact h2.2
      have x1 : ∀ X, (∃ kb G H L M sv sn, S4 w X w.heap.size kb kind G H L M sv sn) → X.cell? ⟨w.heap.size + 5, kk, none⟩ = some (ptr (w.heap.size + 3 + kk)) := fun X ⟨_, _, _, _, _, _, _, h⟩ => by
        have h2 := arr2 h.arD
        match kk, hk2 with
        | 0, _ => exact h2.1
        | 1, _ => exact h2.2
      have x2 : ∀ X, (∃ kb G H L M sv sn, S4 w X w.heap.size kb kind G H L M sv sn) → X.cell? ⟨b, o + k * 3 + 2, none⟩ = some (.string txt) := fun X ⟨_, _, _, _, _, _, _, h⟩ => HTX.out X h.low
      have HXE : Hid (∀ X, (∃ kb G H L M sv sn, S4 w X w.heap.size kb kind G H L M sv sn) → Errs X e) := fun X ⟨_, _, _, _, _, _, _, h⟩ => HE.out.below h.low
      by_cases hz : kind = 0
      · subst hz
        obtain ⟨ev, f, D, hpp⟩ := pushes_any w w.heap.size wr.heap.size kk hk2 0 L sv sn e txt rfl HE.out
        have HPP := hide hpp
        clear hpp
        go_wp2_with fail
        generalize wr.alloc (.cells #[.int .i64 0] 3) = V1 at *
        generalize wr.heap.size = kb at *
        go_region_held3 (fun X => ∃ kb G H L M sv sn, S4 w X w.heap.size kb 0 G H L M sv sn)
          (first
            | assumption
            | exact ⟨_, _, _, _, _, _, _, HS1.out⟩
            | exact ⟨_, _, _, _, _, _, _, HS1.out.drew⟩
            | exact ⟨_, _, _, _, _, _, _, hs1⟩
            | exact ⟨_, _, _, _, _, _, _, hs1.drew⟩)
          ((go_at_call 6; refine (HPP.out.c1 _ _ _ (by first | exact HS1.out | exact HS1.out.drew)).mono ?_; rintro x w2 ⟨rfl, G1, hs1⟩))
        have HS2 := hide hs1
        clear hs1 HS1 d1'
        go_wp2_with fail
        go_region_held3 (fun X => ∃ kb G H L M sv sn, S4 w X w.heap.size kb 0 G H L M sv sn)
          (first
            | assumption
            | exact ⟨_, _, _, _, _, _, _, HS2.out⟩
            | exact ⟨_, _, _, _, _, _, _, HS2.out.drew⟩
            | exact ⟨_, _, _, _, _, _, _, hs3⟩
            | exact ⟨_, _, _, _, _, _, _, hs3.drew⟩)
          (first
            | (go_at_call 14; refine (HPP.out.c2 _ _ _ _ (by first | exact HS2.out | exact HS2.out.drew)).mono ?_; rintro x w3 ⟨rfl, H1, hs3⟩)
            | (go_at_call 11; refine (HPP.out.c3 _ (HXE.out _ (by assumption))).mono ?_; rintro x w4 ⟨rfl, h4⟩; obtain rfl := h4.symm; clear h4))
        have HS9 : Hid (S4 w w3 w.heap.size (some kb) 0 G1 H1 (upd L kk D) (upd L kk D) sv sn) := hs3
        have HN9 : Hid (sn.length ≤ k + 1) := by have := HSN.out; show _ ≤ _; omega
        have c15 := cell0 (hs3.kc kb rfl).2
        clear hs3 x0 x1 x2 HS2 HPP HXE HTX HSL HSB HSN
        generalize upd L kk D = L9 at *
        have r0 := (arr2 HS9.out.arS).1
        have r1 := (arr2 HS9.out.arS).2
        have r2 := (arr2 HS9.out.arD).1
        have r3 := (arr2 HS9.out.arD).2
        have F0 : Hid (∀ m, Calls Tryd.prog 9 #[ptr w.heap.size] (w3.drewN m) fun x w' => x = .returned (.int .i64 (L9 0).length) ∧ w' = w3.drewN m) := fun m => by
          have := left_any (w3.drewN m) _ _ _ ((HS9.out.below (bdN (Below.refl _ _) m)).src 0 (by decide))
          rw [raw_len] at this
          exact this
        have F1 : Hid (∀ m, Calls Tryd.prog 9 #[ptr (w.heap.size + 1)] (w3.drewN m) fun x w' => x = .returned (.int .i64 (L9 1).length) ∧ w' = w3.drewN m) := fun m => by
          have := left_any (w3.drewN m) _ _ _ ((HS9.out.below (bdN (Below.refl _ _) m)).src 1 (by decide))
          rw [raw_len] at this
          exact this
        have F2 : Hid (∀ m, Calls Tryd.prog 18 #[ptr (w.heap.size + 3)] (w3.drewN m) fun x w' => x = .returned (.int .i64 (L9 0).length) ∧ w' = w3.drewN m) := fun m =>
          dleft_any (w3.drewN m) _ _ _ ((HS9.out.below (bdN (Below.refl _ _) m)).dsr 0 (by decide))
        have F3 : Hid (∀ m, Calls Tryd.prog 18 #[ptr (w.heap.size + 4)] (w3.drewN m) fun x w' => x = .returned (.int .i64 (L9 1).length) ∧ w' = w3.drewN m) := fun m =>
          dleft_any (w3.drewN m) _ _ _ ((HS9.out.below (bdN (Below.refl _ _) m)).dsr 1 (by decide))
        have HE9 : Hid (∀ m, S4 w (w3.drewN m) w.heap.size (some kb) 0 G1 H1 L9 L9 sv sn) := fun m => HS9.out.below (bdN (Below.refl _ _) m)
        generalize ((L9 0).length : Int) = n0 at *
        generalize ((L9 1).length : Int) = n1 at *
        go_wp2_with fail
        go_quiet (first
          | (go_at_call 9; first | (with_reducible exact Calls.quiet_of_same (F0.out _)) | (with_reducible exact Calls.quiet_of_same (F1.out _)))
          | (go_at_call 18; first | (with_reducible exact Calls.quiet_of_same (F2.out _)) | (with_reducible exact Calls.quiet_of_same (F3.out _))))
        clear r0 r1 r2 r3 F0 F1 F2 F3
        go_wp2_with fail
        go_roundw
        case rel => exact ⟨k + 1, (some kb), 0, G1, H1, L9, sv, sn, by omega, by go_num, HE9.out _, HN9.out⟩
        case measure => simp [intOf]; omega
      have qz : (kind == 0) = false := beq_false_of_ne hz
      by_cases hlo : kind < 1
      · have q1 : ¬ (1 : Int) ≤ kind := by omega
        go_wp2_with fail
        generalize wr.alloc (.cells #[.int .i64 kind] 3) = V1 at *
        generalize wr.heap.size = kb at *
        have HS9 : Hid (S4 w V1 w.heap.size (some kb) kind G H L L sv sn) := HS1.out
        have HN9 : Hid (sn.length ≤ k + 1) := by have := HSN.out; show _ ≤ _; omega
        clear d1' x0 x1 x2 HS1 HXE HTX HSL HSB HSN
        have r0 := (arr2 HS9.out.arS).1
        have r1 := (arr2 HS9.out.arS).2
        have r2 := (arr2 HS9.out.arD).1
        have r3 := (arr2 HS9.out.arD).2
        have F0 : Hid (∀ m, Calls Tryd.prog 9 #[ptr w.heap.size] (V1.drewN m) fun x w' => x = .returned (.int .i64 (L 0).length) ∧ w' = V1.drewN m) := fun m => by
          have := left_any (V1.drewN m) _ _ _ ((HS9.out.below (bdN (Below.refl _ _) m)).src 0 (by decide))
          rw [raw_len] at this
          exact this
        have F1 : Hid (∀ m, Calls Tryd.prog 9 #[ptr (w.heap.size + 1)] (V1.drewN m) fun x w' => x = .returned (.int .i64 (L 1).length) ∧ w' = V1.drewN m) := fun m => by
          have := left_any (V1.drewN m) _ _ _ ((HS9.out.below (bdN (Below.refl _ _) m)).src 1 (by decide))
          rw [raw_len] at this
          exact this
        have F2 : Hid (∀ m, Calls Tryd.prog 18 #[ptr (w.heap.size + 3)] (V1.drewN m) fun x w' => x = .returned (.int .i64 (L 0).length) ∧ w' = V1.drewN m) := fun m =>
          dleft_any (V1.drewN m) _ _ _ ((HS9.out.below (bdN (Below.refl _ _) m)).dsr 0 (by decide))
        have F3 : Hid (∀ m, Calls Tryd.prog 18 #[ptr (w.heap.size + 4)] (V1.drewN m) fun x w' => x = .returned (.int .i64 (L 1).length) ∧ w' = V1.drewN m) := fun m =>
          dleft_any (V1.drewN m) _ _ _ ((HS9.out.below (bdN (Below.refl _ _) m)).dsr 1 (by decide))
        have HE9 : Hid (∀ m, S4 w (V1.drewN m) w.heap.size (some kb) kind G H L L sv sn) := fun m => HS9.out.below (bdN (Below.refl _ _) m)
        generalize ((L 0).length : Int) = n0 at *
        generalize ((L 1).length : Int) = n1 at *
        go_wp2_with fail
        go_quiet (first
          | (go_at_call 9; first | (with_reducible exact Calls.quiet_of_same (F0.out _)) | (with_reducible exact Calls.quiet_of_same (F1.out _)))
          | (go_at_call 18; first | (with_reducible exact Calls.quiet_of_same (F2.out _)) | (with_reducible exact Calls.quiet_of_same (F3.out _))))
        clear r0 r1 r2 r3 F0 F1 F2 F3
        go_wp2_with fail
        go_roundw
        case rel => exact ⟨k + 1, (some kb), kind, G, H, L, sv, sn, by omega, by go_num, HE9.out _, HN9.out⟩
        case measure => simp [intOf]; omega
      by_cases hhi : (4 : Int) < kind
      · have q1 : (1 : Int) ≤ kind := by omega
        have q2 : ¬ kind ≤ 4 := by omega
        go_wp2_with fail
        generalize wr.alloc (.cells #[.int .i64 kind] 3) = V1 at *
        generalize wr.heap.size = kb at *
        have HS9 : Hid (S4 w V1 w.heap.size (some kb) kind G H L L sv sn) := HS1.out
        have HN9 : Hid (sn.length ≤ k + 1) := by have := HSN.out; show _ ≤ _; omega
        clear d1' x0 x1 x2 HS1 HXE HTX HSL HSB HSN
        have r0 := (arr2 HS9.out.arS).1
        have r1 := (arr2 HS9.out.arS).2
        have r2 := (arr2 HS9.out.arD).1
        have r3 := (arr2 HS9.out.arD).2
        have F0 : Hid (∀ m, Calls Tryd.prog 9 #[ptr w.heap.size] (V1.drewN m) fun x w' => x = .returned (.int .i64 (L 0).length) ∧ w' = V1.drewN m) := fun m => by
          have := left_any (V1.drewN m) _ _ _ ((HS9.out.below (bdN (Below.refl _ _) m)).src 0 (by decide))
          rw [raw_len] at this
          exact this
        have F1 : Hid (∀ m, Calls Tryd.prog 9 #[ptr (w.heap.size + 1)] (V1.drewN m) fun x w' => x = .returned (.int .i64 (L 1).length) ∧ w' = V1.drewN m) := fun m => by
          have := left_any (V1.drewN m) _ _ _ ((HS9.out.below (bdN (Below.refl _ _) m)).src 1 (by decide))
          rw [raw_len] at this
          exact this
        have F2 : Hid (∀ m, Calls Tryd.prog 18 #[ptr (w.heap.size + 3)] (V1.drewN m) fun x w' => x = .returned (.int .i64 (L 0).length) ∧ w' = V1.drewN m) := fun m =>
          dleft_any (V1.drewN m) _ _ _ ((HS9.out.below (bdN (Below.refl _ _) m)).dsr 0 (by decide))
        have F3 : Hid (∀ m, Calls Tryd.prog 18 #[ptr (w.heap.size + 4)] (V1.drewN m) fun x w' => x = .returned (.int .i64 (L 1).length) ∧ w' = V1.drewN m) := fun m =>
          dleft_any (V1.drewN m) _ _ _ ((HS9.out.below (bdN (Below.refl _ _) m)).dsr 1 (by decide))
        have HE9 : Hid (∀ m, S4 w (V1.drewN m) w.heap.size (some kb) kind G H L L sv sn) := fun m => HS9.out.below (bdN (Below.refl _ _) m)
        generalize ((L 0).length : Int) = n0 at *
        generalize ((L 1).length : Int) = n1 at *
        go_wp2_with fail
        go_quiet (first
          | (go_at_call 9; first | (with_reducible exact Calls.quiet_of_same (F0.out _)) | (with_reducible exact Calls.quiet_of_same (F1.out _)))
          | (go_at_call 18; first | (with_reducible exact Calls.quiet_of_same (F2.out _)) | (with_reducible exact Calls.quiet_of_same (F3.out _))))
        clear r0 r1 r2 r3 F0 F1 F2 F3
        go_wp2_with fail
        go_roundw
        case rel => exact ⟨k + 1, (some kb), kind, G, H, L, sv, sn, by omega, by go_num, HE9.out _, HN9.out⟩
        case measure => simp [intOf]; omega
      have q1 : (1 : Int) ≤ kind := by omega
      have q2 : kind ≤ 4 := by omega
      have y0 := x0 _ ⟨_, _, _, _, _, _, _, HS1.out⟩
      have hdz : ∀ d D, L kk = d :: D → d.size = 32 := fun d D h => by
        have := (HS.out.src kk hk2).all d.data.toList (by rw [h]; simp [rawL])
        rwa [plen] at this
      by_cases h4 : kind = 4
      · obtain ⟨xs, ev, f, D, hbb⟩ : ∃ xs ev f D, Both w w.heap.size wr.heap.size kk kind L L sv sn e .nilFunc xs ev f D := by
          cases hL : L kk with
          | nil => exact ⟨_, _, _, _, both_dry w _ _ kk hk2 kind L sv sn e _ hL rfl HE.out⟩
          | cons d D => exact ⟨_, _, _, _, both_nil w _ _ kk hk2 kind L sv sn e d D hL (hdz d D hL) rfl HU.out HSL.out (by unfold tk; rw [decide_eq_false (by omega), decide_eq_false (by omega)]; rfl)⟩
        have q4 : ¬ kind < 4 := by omega
        clear hdz h4
        have HB := hide hbb
        clear hbb
        go_wp2_with fail
        generalize wr.alloc (.cells #[.int .i64 kind] 3) = V1 at *
        generalize wr.heap.size = kb at *
        have x3 : ∀ X, (∃ G H L M, S4 w X w.heap.size (some kb) kind G H L M sv sn) → X.cell? ⟨kb, 0, none⟩ = some (.int .i64 kind) := fun X ⟨_, _, _, _, h⟩ => cell0 (h.kc kb rfl).2
        have x4 : ∀ X, (∃ G H L M, S4 w X w.heap.size (some kb) kind G H L M sv sn) → X.cell? ⟨w.heap.size + 6, 0, none⟩ = some sv := fun X ⟨_, _, _, _, h⟩ => cell0 h.sen
        have x5 : ∀ X, (∃ G H L M, S4 w X w.heap.size (some kb) kind G H L M sv sn) → X.cell? ⟨w.heap.size + 5, kk, none⟩ = some (ptr (w.heap.size + 3 + kk)) := fun X ⟨_, _, _, _, h⟩ => x1 X ⟨_, _, _, _, _, _, _, h⟩
        refine (HB.out.c1 _ _ _ HS1.out).mono ?_
        rintro x w2 ⟨rfl, G1, hs1⟩
        have HS2 := hide hs1
        clear hs1 d1' x0 x1 x2 y0
        go_wp2_with fail
        go_region_held3 (fun X => ∃ G H L M, S4 w X w.heap.size (some kb) kind G H L M sv sn)
          (first
            | assumption
            | exact ⟨_, _, _, _, HS2.out⟩
            | exact ⟨_, _, _, _, HS2.out.drew⟩
            | exact ⟨_, _, _, _, hs3⟩
            | exact ⟨_, _, _, _, hs3.drew⟩)
          ((go_at_call 17; refine (HB.out.c2 _ _ _ _ (by first | exact HS2.out | exact HS2.out.drew)).mono ?_; rintro x w3 ⟨rfl, H1, hs3⟩))
        have HS3 := hide hs3
        have HN3 := hide (HB.out.c3 w3 (HXE.out w3 ⟨_, _, _, _, _, _, _, hs3⟩))
        have z6 := cell0 hs3.sen
        clear hs3 x3 x4 x5 HS2 HS1 HB HXE
        generalize upd L kk D = L9 at *
        go_wp2_with fail
        refine HN3.out.mono ?_
        rintro x w4 ⟨rfl, h4⟩
        obtain rfl := h4.symm
        clear h4 HN3
        by_cases hf : f = 0
        · subst hf
          obtain ⟨i0, hi, hz0, hz1, hz2⟩ := info_parts ss.infoS
          have HW5 := hide (HS3.out.below ((Below.refl w3.heap.size w3).alloc (Nat.le_refl _) (.cells #[.string xs] 9)))
          go_wp2_with (at_builtin; refine wpList_append_lies _ rfl _ _ 22 rfl (w.heap.size + 7) 9 i0 (.string ⟨#[]⟩) 1 16 Tryd.underlying22 hi hz0 hz1 hz2 rfl (by decide) sv sn.length (ss.sc sn) rfl HW5.out.row ⟨w3.heap.size, 0, none⟩ 1 1 [.string xs] rfl rfl (news1 w3 _ _) (by intro u hu; simp at hu; subst hu; rfl) (by decide) (by have := HSL.out; unfold maxLen; omega) HSB.out HW5.out.big (w3.heap.size + 1) (by simp) ?_)
          intro gg cap' w6 hown hgrow hat hlt6
          have h66 : w6.heap[w.heap.size + 6]? = some (.cells #[sv] 22 (0, 0)) := (hgrow.block _ (by have := HW5.out.big; omega) (fun e => by have := (own_type HW5.out.row _ e.symm).1; omega)).trans HW5.out.sen
          have c66 := cell0 h66
          have f66 := free0 h66
          have HS7 : Hid (S4 w (w6.setCell ⟨w.heap.size + 6, 0, none⟩ (.slice (some ⟨gg, 0, none⟩) (sn.length + 1) cap')) w.heap.size (some kb) kind G1 H1 L9 L9 (.slice (some ⟨gg, 0, none⟩) (sn.length + 1) cap') (sn ++ [xs])) :=
            HW5.out.seen _ (sn ++ [xs]) (by rw [sc_snoc, List.length_append]; exact hown) hgrow (fun g hg => by
              have : gg = g := by simpa [Value.ownBlock] using hg
              subst this
              rcases hat with h | h
              · exact Or.inl h
              · exact Or.inr (by simp; omega))
          clear hown hgrow hat hlt6 h66 z6 hi hz0 hz1 hz2 HW5 HS3
          go_wp2_with fail
          generalize w6.setCell ⟨w.heap.size + 6, 0, none⟩ (.slice (some ⟨gg, 0, none⟩) (sn.length + 1) cap') = X7 at *
          have HS9 := hide HS7.out
          have HN9 : Hid ((sn ++ [xs]).length ≤ k + 1) := by have := HSN.out; show _ ≤ _; rw [List.length_append]; simp; omega
          clear c66 f66 HTX HSL HSB HSN HS7
          generalize sn ++ [xs] = sn9 at *
          have r0 := (arr2 HS9.out.arS).1
          have r1 := (arr2 HS9.out.arS).2
          have r2 := (arr2 HS9.out.arD).1
          have r3 := (arr2 HS9.out.arD).2
          have F0 : Hid (∀ m, Calls Tryd.prog 9 #[ptr w.heap.size] (X7.drewN m) fun x w' => x = .returned (.int .i64 (L9 0).length) ∧ w' = X7.drewN m) := fun m => by
            have := left_any (X7.drewN m) _ _ _ ((HS9.out.below (bdN (Below.refl _ _) m)).src 0 (by decide))
            rw [raw_len] at this
            exact this
          have F1 : Hid (∀ m, Calls Tryd.prog 9 #[ptr (w.heap.size + 1)] (X7.drewN m) fun x w' => x = .returned (.int .i64 (L9 1).length) ∧ w' = X7.drewN m) := fun m => by
            have := left_any (X7.drewN m) _ _ _ ((HS9.out.below (bdN (Below.refl _ _) m)).src 1 (by decide))
            rw [raw_len] at this
            exact this
          have F2 : Hid (∀ m, Calls Tryd.prog 18 #[ptr (w.heap.size + 3)] (X7.drewN m) fun x w' => x = .returned (.int .i64 (L9 0).length) ∧ w' = X7.drewN m) := fun m =>
            dleft_any (X7.drewN m) _ _ _ ((HS9.out.below (bdN (Below.refl _ _) m)).dsr 0 (by decide))
          have F3 : Hid (∀ m, Calls Tryd.prog 18 #[ptr (w.heap.size + 4)] (X7.drewN m) fun x w' => x = .returned (.int .i64 (L9 1).length) ∧ w' = X7.drewN m) := fun m =>
            dleft_any (X7.drewN m) _ _ _ ((HS9.out.below (bdN (Below.refl _ _) m)).dsr 1 (by decide))
          have HE9 : Hid (∀ m, S4 w (X7.drewN m) w.heap.size (some kb) kind G1 H1 L9 L9 _ sn9) := fun m => HS9.out.below (bdN (Below.refl _ _) m)
          generalize ((L9 0).length : Int) = n0 at *
          generalize ((L9 1).length : Int) = n1 at *
          go_wp2_with fail
          go_quiet (first
            | (go_at_call 9; first | (with_reducible exact Calls.quiet_of_same (F0.out _)) | (with_reducible exact Calls.quiet_of_same (F1.out _)))
            | (go_at_call 18; first | (with_reducible exact Calls.quiet_of_same (F2.out _)) | (with_reducible exact Calls.quiet_of_same (F3.out _))))
          clear r0 r1 r2 r3 F0 F1 F2 F3
          go_wp2_with fail
          go_roundw
          case rel => exact ⟨k + 1, (some kb), kind, G1, H1, L9, _, sn9, by omega, by go_num, HE9.out _, HN9.out⟩
          case measure => simp [intOf]; omega
        · have qf : (f == 0) = false := beq_false_of_ne hf
          have HS9 := hide HS3.out
          have HN9 : Hid (sn.length ≤ k + 1) := by have := HSN.out; show _ ≤ _; omega
          clear z6 HTX HSL HSB HSN HS3
          have r0 := (arr2 HS9.out.arS).1
          have r1 := (arr2 HS9.out.arS).2
          have r2 := (arr2 HS9.out.arD).1
          have r3 := (arr2 HS9.out.arD).2
          have F0 : Hid (∀ m, Calls Tryd.prog 9 #[ptr w.heap.size] (w3.drewN m) fun x w' => x = .returned (.int .i64 (L9 0).length) ∧ w' = w3.drewN m) := fun m => by
            have := left_any (w3.drewN m) _ _ _ ((HS9.out.below (bdN (Below.refl _ _) m)).src 0 (by decide))
            rw [raw_len] at this
            exact this
          have F1 : Hid (∀ m, Calls Tryd.prog 9 #[ptr (w.heap.size + 1)] (w3.drewN m) fun x w' => x = .returned (.int .i64 (L9 1).length) ∧ w' = w3.drewN m) := fun m => by
            have := left_any (w3.drewN m) _ _ _ ((HS9.out.below (bdN (Below.refl _ _) m)).src 1 (by decide))
            rw [raw_len] at this
            exact this
          have F2 : Hid (∀ m, Calls Tryd.prog 18 #[ptr (w.heap.size + 3)] (w3.drewN m) fun x w' => x = .returned (.int .i64 (L9 0).length) ∧ w' = w3.drewN m) := fun m =>
            dleft_any (w3.drewN m) _ _ _ ((HS9.out.below (bdN (Below.refl _ _) m)).dsr 0 (by decide))
          have F3 : Hid (∀ m, Calls Tryd.prog 18 #[ptr (w.heap.size + 4)] (w3.drewN m) fun x w' => x = .returned (.int .i64 (L9 1).length) ∧ w' = w3.drewN m) := fun m =>
            dleft_any (w3.drewN m) _ _ _ ((HS9.out.below (bdN (Below.refl _ _) m)).dsr 1 (by decide))
          have HE9 : Hid (∀ m, S4 w (w3.drewN m) w.heap.size (some kb) kind G1 H1 L9 L9 sv sn) := fun m => HS9.out.below (bdN (Below.refl _ _) m)
          generalize ((L9 0).length : Int) = n0 at *
          generalize ((L9 1).length : Int) = n1 at *
          go_wp2_with fail
          go_quiet (first
            | (go_at_call 9; first | (with_reducible exact Calls.quiet_of_same (F0.out _)) | (with_reducible exact Calls.quiet_of_same (F1.out _)))
            | (go_at_call 18; first | (with_reducible exact Calls.quiet_of_same (F2.out _)) | (with_reducible exact Calls.quiet_of_same (F3.out _))))
          clear r0 r1 r2 r3 F0 F1 F2 F3
          go_wp2_with fail
          go_roundw
          case rel => exact ⟨k + 1, (some kb), kind, G1, H1, L9, sv, sn, by omega, by go_num, HE9.out _, HN9.out⟩
          case measure => simp [intOf]; omega
      · obtain ⟨xs, ev, f, D, hbb⟩ : ∃ xs ev f D, Both w w.heap.size wr.heap.size kk kind L L sv sn e (.func (.func 15) #[] #[ptr wr.heap.size, ptr (w.heap.size + 6)]) xs ev f D := by
          cases hL : L kk with
          | nil => exact ⟨_, _, _, _, both_dry w _ _ kk hk2 kind L sv sn e _ hL rfl HE.out⟩
          | cons d D => exact ⟨_, _, _, _, both_fn w _ _ kk hk2 kind L sv sn e d D hL (hdz d D hL) rfl HU.out HE.out HSL.out⟩
        have q4 : kind < 4 := by omega
        clear hdz h4
        have HB := hide hbb
        clear hbb
        go_wp2_with fail
        generalize wr.alloc (.cells #[.int .i64 kind] 3) = V1 at *
        generalize wr.heap.size = kb at *
        have x3 : ∀ X, (∃ G H L M, S4 w X w.heap.size (some kb) kind G H L M sv sn) → X.cell? ⟨kb, 0, none⟩ = some (.int .i64 kind) := fun X ⟨_, _, _, _, h⟩ => cell0 (h.kc kb rfl).2
        have x4 : ∀ X, (∃ G H L M, S4 w X w.heap.size (some kb) kind G H L M sv sn) → X.cell? ⟨w.heap.size + 6, 0, none⟩ = some sv := fun X ⟨_, _, _, _, h⟩ => cell0 h.sen
        have x5 : ∀ X, (∃ G H L M, S4 w X w.heap.size (some kb) kind G H L M sv sn) → X.cell? ⟨w.heap.size + 5, kk, none⟩ = some (ptr (w.heap.size + 3 + kk)) := fun X ⟨_, _, _, _, h⟩ => x1 X ⟨_, _, _, _, _, _, _, h⟩
        refine (HB.out.c1 _ _ _ HS1.out).mono ?_
        rintro x w2 ⟨rfl, G1, hs1⟩
        have HS2 := hide hs1
        clear hs1 d1' x0 x1 x2 y0
        go_wp2_with fail
        go_region_held3 (fun X => ∃ G H L M, S4 w X w.heap.size (some kb) kind G H L M sv sn)
          (first
            | assumption
            | exact ⟨_, _, _, _, HS2.out⟩
            | exact ⟨_, _, _, _, HS2.out.drew⟩
            | exact ⟨_, _, _, _, hs3⟩
            | exact ⟨_, _, _, _, hs3.drew⟩)
          ((go_at_call 17; refine (HB.out.c2 _ _ _ _ (by first | exact HS2.out | exact HS2.out.drew)).mono ?_; rintro x w3 ⟨rfl, H1, hs3⟩))
        have HS3 := hide hs3
        have HN3 := hide (HB.out.c3 w3 (HXE.out w3 ⟨_, _, _, _, _, _, _, hs3⟩))
        have z6 := cell0 hs3.sen
        clear hs3 x3 x4 x5 HS2 HS1 HB HXE
        generalize upd L kk D = L9 at *
        go_wp2_with fail
        refine HN3.out.mono ?_
        rintro x w4 ⟨rfl, h4⟩
        obtain rfl := h4.symm
        clear h4 HN3
        by_cases hf : f = 0
        · subst hf
          obtain ⟨i0, hi, hz0, hz1, hz2⟩ := info_parts ss.infoS
          have HW5 := hide (HS3.out.below ((Below.refl w3.heap.size w3).alloc (Nat.le_refl _) (.cells #[.string xs] 9)))
          go_wp2_with (at_builtin; refine wpList_append_lies _ rfl _ _ 22 rfl (w.heap.size + 7) 9 i0 (.string ⟨#[]⟩) 1 16 Tryd.underlying22 hi hz0 hz1 hz2 rfl (by decide) sv sn.length (ss.sc sn) rfl HW5.out.row ⟨w3.heap.size, 0, none⟩ 1 1 [.string xs] rfl rfl (news1 w3 _ _) (by intro u hu; simp at hu; subst hu; rfl) (by decide) (by have := HSL.out; unfold maxLen; omega) HSB.out HW5.out.big (w3.heap.size + 1) (by simp) ?_)
          intro gg cap' w6 hown hgrow hat hlt6
          have h66 : w6.heap[w.heap.size + 6]? = some (.cells #[sv] 22 (0, 0)) := (hgrow.block _ (by have := HW5.out.big; omega) (fun e => by have := (own_type HW5.out.row _ e.symm).1; omega)).trans HW5.out.sen
          have c66 := cell0 h66
          have f66 := free0 h66
          have HS7 : Hid (S4 w (w6.setCell ⟨w.heap.size + 6, 0, none⟩ (.slice (some ⟨gg, 0, none⟩) (sn.length + 1) cap')) w.heap.size (some kb) kind G1 H1 L9 L9 (.slice (some ⟨gg, 0, none⟩) (sn.length + 1) cap') (sn ++ [xs])) :=
            HW5.out.seen _ (sn ++ [xs]) (by rw [sc_snoc, List.length_append]; exact hown) hgrow (fun g hg => by
              have : gg = g := by simpa [Value.ownBlock] using hg
              subst this
              rcases hat with h | h
              · exact Or.inl h
              · exact Or.inr (by simp; omega))
          clear hown hgrow hat hlt6 h66 z6 hi hz0 hz1 hz2 HW5 HS3
          go_wp2_with fail
          generalize w6.setCell ⟨w.heap.size + 6, 0, none⟩ (.slice (some ⟨gg, 0, none⟩) (sn.length + 1) cap') = X7 at *
          have HS9 := hide HS7.out
          have HN9 : Hid ((sn ++ [xs]).length ≤ k + 1) := by have := HSN.out; show _ ≤ _; rw [List.length_append]; simp; omega
          clear c66 f66 HTX HSL HSB HSN HS7
          generalize sn ++ [xs] = sn9 at *
          have r0 := (arr2 HS9.out.arS).1
          have r1 := (arr2 HS9.out.arS).2
          have r2 := (arr2 HS9.out.arD).1
          have r3 := (arr2 HS9.out.arD).2
          have F0 : Hid (∀ m, Calls Tryd.prog 9 #[ptr w.heap.size] (X7.drewN m) fun x w' => x = .returned (.int .i64 (L9 0).length) ∧ w' = X7.drewN m) := fun m => by
            have := left_any (X7.drewN m) _ _ _ ((HS9.out.below (bdN (Below.refl _ _) m)).src 0 (by decide))
            rw [raw_len] at this
            exact this
          have F1 : Hid (∀ m, Calls Tryd.prog 9 #[ptr (w.heap.size + 1)] (X7.drewN m) fun x w' => x = .returned (.int .i64 (L9 1).length) ∧ w' = X7.drewN m) := fun m => by
            have := left_any (X7.drewN m) _ _ _ ((HS9.out.below (bdN (Below.refl _ _) m)).src 1 (by decide))
            rw [raw_len] at this
            exact this
          have F2 : Hid (∀ m, Calls Tryd.prog 18 #[ptr (w.heap.size + 3)] (X7.drewN m) fun x w' => x = .returned (.int .i64 (L9 0).length) ∧ w' = X7.drewN m) := fun m =>
            dleft_any (X7.drewN m) _ _ _ ((HS9.out.below (bdN (Below.refl _ _) m)).dsr 0 (by decide))
          have F3 : Hid (∀ m, Calls Tryd.prog 18 #[ptr (w.heap.size + 4)] (X7.drewN m) fun x w' => x = .returned (.int .i64 (L9 1).length) ∧ w' = X7.drewN m) := fun m =>
            dleft_any (X7.drewN m) _ _ _ ((HS9.out.below (bdN (Below.refl _ _) m)).dsr 1 (by decide))
          have HE9 : Hid (∀ m, S4 w (X7.drewN m) w.heap.size (some kb) kind G1 H1 L9 L9 _ sn9) := fun m => HS9.out.below (bdN (Below.refl _ _) m)
          generalize ((L9 0).length : Int) = n0 at *
          generalize ((L9 1).length : Int) = n1 at *
          go_wp2_with fail
          go_quiet (first
            | (go_at_call 9; first | (with_reducible exact Calls.quiet_of_same (F0.out _)) | (with_reducible exact Calls.quiet_of_same (F1.out _)))
            | (go_at_call 18; first | (with_reducible exact Calls.quiet_of_same (F2.out _)) | (with_reducible exact Calls.quiet_of_same (F3.out _))))
          clear r0 r1 r2 r3 F0 F1 F2 F3
          go_wp2_with fail
          go_roundw
          case rel => exact ⟨k + 1, (some kb), kind, G1, H1, L9, _, sn9, by omega, by go_num, HE9.out _, HN9.out⟩
          case measure => simp [intOf]; omega
        · have qf : (f == 0) = false := beq_false_of_ne hf
          have HS9 := hide HS3.out
          have HN9 : Hid (sn.length ≤ k + 1) := by have := HSN.out; show _ ≤ _; omega
          clear z6 HTX HSL HSB HSN HS3
          have r0 := (arr2 HS9.out.arS).1
          have r1 := (arr2 HS9.out.arS).2
          have r2 := (arr2 HS9.out.arD).1
          have r3 := (arr2 HS9.out.arD).2
          have F0 : Hid (∀ m, Calls Tryd.prog 9 #[ptr w.heap.size] (w3.drewN m) fun x w' => x = .returned (.int .i64 (L9 0).length) ∧ w' = w3.drewN m) := fun m => by
            have := left_any (w3.drewN m) _ _ _ ((HS9.out.below (bdN (Below.refl _ _) m)).src 0 (by decide))
            rw [raw_len] at this
            exact this
          have F1 : Hid (∀ m, Calls Tryd.prog 9 #[ptr (w.heap.size + 1)] (w3.drewN m) fun x w' => x = .returned (.int .i64 (L9 1).length) ∧ w' = w3.drewN m) := fun m => by
            have := left_any (w3.drewN m) _ _ _ ((HS9.out.below (bdN (Below.refl _ _) m)).src 1 (by decide))
            rw [raw_len] at this
            exact this
          have F2 : Hid (∀ m, Calls Tryd.prog 18 #[ptr (w.heap.size + 3)] (w3.drewN m) fun x w' => x = .returned (.int .i64 (L9 0).length) ∧ w' = w3.drewN m) := fun m =>
            dleft_any (w3.drewN m) _ _ _ ((HS9.out.below (bdN (Below.refl _ _) m)).dsr 0 (by decide))
          have F3 : Hid (∀ m, Calls Tryd.prog 18 #[ptr (w.heap.size + 4)] (w3.drewN m) fun x w' => x = .returned (.int .i64 (L9 1).length) ∧ w' = w3.drewN m) := fun m =>
            dleft_any (w3.drewN m) _ _ _ ((HS9.out.below (bdN (Below.refl _ _) m)).dsr 1 (by decide))
          have HE9 : Hid (∀ m, S4 w (w3.drewN m) w.heap.size (some kb) kind G1 H1 L9 L9 sv sn) := fun m => HS9.out.below (bdN (Below.refl _ _) m)
          generalize ((L9 0).length : Int) = n0 at *
          generalize ((L9 1).length : Int) = n1 at *
          go_wp2_with fail
          go_quiet (first
            | (go_at_call 9; first | (with_reducible exact Calls.quiet_of_same (F0.out _)) | (with_reducible exact Calls.quiet_of_same (F1.out _)))
            | (go_at_call 18; first | (with_reducible exact Calls.quiet_of_same (F2.out _)) | (with_reducible exact Calls.quiet_of_same (F3.out _))))
          clear r0 r1 r2 r3 F0 F1 F2 F3
          go_wp2_with fail
          go_roundw
          case rel => exact ⟨k + 1, (some kb), kind, G1, H1, L9, sv, sn, by omega, by go_num, HE9.out _, HN9.out⟩
          case measure => simp [intOf]; omega
    · obtain rfl : k = l.length := by omega
      have HS := hide hs
      clear hs
      go_wp2_with fail
      go_ret
      exact ⟨rfl, HS.out.low⟩

end Go.Proofs.YtpfamgahnphceaaDoor.pk
