import Derived.Test.YtdkbjefphihplabDoorSafeMath2
import Derived.Test.YtdkbjefphihplabDoorSetW3
import Derived.Test.YtdkbjefphihplabDoorCkText2
import Derived.Test.YtdkbjefphihplabDoorFieldVal0
namespace Go.Proofs.YtdkbjefphihplabDoor.fd
open Go.ChangeShapes Go.WideShapes Go.ChangeAt Go.RowKit Go.Proofs.YtdkbjefphihplabDoor.common Go.Proofs.YtdkbjefphihplabDoor.bk
open Go.Proofs.YtdkbjefphihplabDoor.lst (PB Lies)
attribute [local go_sem ↓] Go.wp_at_zero Go.wp_at_succ

theorem semis_take (s : ByteArray) (k : Nat) (h : k < s.size) : Fd.semis (s.data.toList.take (k + 1)) = Fd.semis (s.data.toList.take k) + if s[k] = 59 then 1 else 0 := by
  rw [take_snoc s k h, Fd.semis_app]
  congr 1
  unfold Fd.semis
  by_cases e : s[k] = 59
  · rw [if_pos e, e]; rfl
  · rw [if_neg e]; simp [e]
theorem semis_le (l : List UInt8) : Fd.semis l ≤ l.length := List.countP_le_length

set_option maxRecDepth 100000 in
set_option maxHeartbeats 800000 in
theorem semicolons_any (s : ByteArray) (w : World) (hs : s.size ≤ 4611686018427387904) :
    Calls Tryd.prog 15 #[.string s] w fun e w' => e = .returned (.int .i64 (Fd.semis s.data.toList : Int)) ∧ w' = w := by
  have HT : Hid (∀ k (_ : k < s.size), Fd.semis (s.data.toList.take (k + 1)) = Fd.semis (s.data.toList.take k) + if s[k] = 59 then 1 else 0) := semis_take s
  have HE : Hid (s.data.toList.take s.size = s.data.toList) := take_all s
  go_enter Tryd.func15, Tryd.ntmps15
  go_wp2_with fail
  go_loopw [3, 4] (fun n i wr => ∃ k : Nat, k ≤ s.size ∧ i = .int .i64 k ∧ n = .int .i64 (Fd.semis (s.data.toList.take k) : Int) ∧ wr = w) (fun _ i _ => s.size - (intOf i).toNat)
  case atStart => exact ⟨0, Nat.zero_le _, rfl, rfl, rfl⟩
  case round =>
    obtain ⟨k, hk, rfl, rfl, rfl⟩ := hrel
    have hle := semis_le (s.data.toList.take k)
    rw [List.length_take] at hle
    by_cases hlt : k < s.size
    · have hki : (k : Int) < (s.size : Int) := by omega
      have HTK := hide (HT.out k hlt)
      generalize Fd.semis (s.data.toList.take k) = n at *
      by_cases hp : s[k] = 59
      · have hpi : (s[k].toNat : Int) = 59 := by rw [hp]; rfl
        rw [if_pos hp] at HTK
        clear hp
        go_wp2_with fail
        go_roundw
        case rel => exact ⟨k + 1, by omega, by go_num, by rw [HTK.out]; go_num, by trivial⟩
        case measure => simp [intOf]; omega
      · have hpi : ¬ (s[k].toNat : Int) = 59 := fun e => hp (UInt8.toNat_inj.1 (by show s[k].toNat = 59; omega))
        rw [if_neg hp] at HTK
        clear hp
        go_wp2_with fail
        go_roundw
        case rel => exact ⟨k + 1, by omega, by go_num, by rw [HTK.out]; rfl, by trivial⟩
        case measure => simp [intOf]; omega
    · obtain rfl : k = s.size := by omega
      rw [HE.out]
      go_wp2_with fail
      go_ret
      exact ⟨rfl, rfl⟩

theorem cellsWares : Tryd.prog.cellsOf 37 = 6 := by kernel_rfl
theorem setB_known : setB ⟨#[107]⟩ ⟨#[118]⟩ 7 = ⟨#[107, 61, 118, 59, 32, 80, 97, 116, 104, 61, 47, 59, 32, 77, 97, 120, 45, 65, 103, 101, 61, 55, 59, 32, 83, 101, 99, 117, 114, 101, 59, 32, 72, 116, 116, 112, 79, 110, 108, 121, 59, 32, 83, 97, 109, 101, 83, 105, 116, 101, 61, 76, 97, 120]⟩ := by
  have h : Lib.itoa 7 = [55] := by
    have := Lib.itoa_nonneg 7
    rw [show ((7 : Nat) : Int) = 7 from rfl] at this
    rw [this, Lib.decDigits_one (by decide)]; rfl
  unfold setB ckB attrB itoaB
  rw [if_pos (by decide), h]
  apply ba_ext
  rfl

/-- what a caller gets who writes a cookie, and what may be said of it -/
def Good (w : World) (T : ByteArray) (V : Value) (n : Int) : Prop :=
  (V = .nilIface ∧ (∀ W, Below w.heap.size w W → Calls Tryd.prog 14 #[.string T] W fun e w' => e = .returned (.bool true) ∧ Below W.heap.size W w') ∧
    (∀ W, Calls Tryd.prog 15 #[.string T] W fun e w' => e = .returned (.int .i64 n) ∧ w' = W)) ∨ ∃ a, V = X a

/-- a struct of six cells in a new block -/
theorem box6 (w : World) (x0 x1 x2 x3 x4 x5 : Value) (t : TypeId) : (∀ X, Below (w.alloc (.cells #[x0, x1, x2, x3, x4, x5] t)).heap.size (w.alloc (.cells #[x0, x1, x2, x3, x4, x5] t)) X → X.cell? ⟨w.heap.size, 0, none⟩ = some x0 ∧ X.cell? ⟨w.heap.size, 1, none⟩ = some x1 ∧ X.cell? ⟨w.heap.size, 2, none⟩ = some x2 ∧ X.cell? ⟨w.heap.size, 3, none⟩ = some x3 ∧ X.cell? ⟨w.heap.size, 4, none⟩ = some x4 ∧ X.cell? ⟨w.heap.size, 5, none⟩ = some x5) ∧ Below w.heap.size w (w.alloc (.cells #[x0, x1, x2, x3, x4, x5] t)) := by
  have hlt : w.heap.size < (w.alloc (.cells #[x0, x1, x2, x3, x4, x5] t)).heap.size := by simp
  exact ⟨fun X hX => ⟨(hX.cell hlt).trans (range_new w _ t 0 x0 rfl), (hX.cell hlt).trans (range_new w _ t 1 x1 rfl), (hX.cell hlt).trans (range_new w _ t 2 x2 rfl), (hX.cell hlt).trans (range_new w _ t 3 x3 rfl), (hX.cell hlt).trans (range_new w _ t 4 x4 rfl), (hX.cell hlt).trans (range_new w _ t 5 x5 rfl)⟩, (Below.refl _ _).alloc (Nat.le_refl _) _⟩

set_option maxRecDepth 100000 in
set_option maxHeartbeats 12800000 in
theorem lawSafe (v : Value) (l : List PB) (cn cv : ByteArray) (m : Int) (u p : ByteArray) (w : World) (hl : Lies w v l) (hll : l.length ≤ 1048576) (ht : tot l ≤ 3145728) (hc : cn.size + cv.size ≤ 1048576) (hm : inR m) (hs : u.size + p.size ≤ 1048576) (hp : Pow w.heap.size w) (ea em : Addr)
    (he : Ev 1 w (X ea)) (hem : Ev 0 w (X em)) (htp : pctw.Tab w) (hst : radw.StdTab w) :
    Calls Tryd.prog 5 #[.agg #[v, .string cn, .string cv, .int .i64 m, .string u, .string p]] w fun x w' => x = .returned (.bool true) ∧ Below w.heap.size w w' := by
  obtain ⟨x0, hbl0⟩ := box6 w v (.string cn) (.string cv) (.int .i64 m) (.string u) (.string p) 37
  have HX0 := hide x0
  have HBL := hide hbl0
  have hgt : 13 < w.heap.size := hst.lt (by decide)
  have HVAL : Hid (∀ (T : ByteArray), Fd.value T.data.toList = true → T.size ≤ 4611686018427387904 → ∀ W, Calls Tryd.prog 14 #[.string T] W fun e w' => e = .returned (.bool true) ∧ Below W.heap.size W w') := fun T h1 h2 W => by have := value_any T W h2; rwa [h1] at this
  have HK : Hid (∀ W, Below w.heap.size w W → Calls Tryd.prog 12 #[.agg #[.string ⟨#[107]⟩, .string ⟨#[118]⟩, .int .i64 7]] W fun e w' => e = .returned (.tuple #[.string ⟨#[107, 61, 118, 59, 32, 80, 97, 116, 104, 61, 47, 59, 32, 77, 97, 120, 45, 65, 103, 101, 61, 55, 59, 32, 83, 101, 99, 117, 114, 101, 59, 32, 72, 116, 116, 112, 79, 110, 108, 121, 59, 32, 83, 97, 109, 101, 83, 105, 116, 101, 61, 76, 97, 120]⟩, .nilIface]) ∧ Below W.heap.size W w') := by
    intro W hW
    have h1 := setCookie_any ⟨#[107]⟩ ⟨#[118]⟩ 7 W ⟨by decide, by decide⟩ (by decide) (pow_below hp hW) (X ea) (he.below hW)
    rw [if_pos (by decide +kernel), setB_known] at h1
    exact h1
  have HS : Hid (∀ W, Below w.heap.size w W → Calls Tryd.prog 12 #[.agg #[.string cn, .string cv, .int .i64 m]] W fun e w' => (∃ T V, e = .returned (.tuple #[.string T, V]) ∧ Good w T V (if 0 ≤ m then 5 else 4)) ∧ Below W.heap.size W w') := by
    intro W hW
    refine (setCookie_any cn cv m W hm (by omega) (pow_below hp hW) (X ea) (he.below hW)).mono ?_
    rintro e w' ⟨rfl, hb⟩
    refine ⟨?_, hb⟩
    cases hck : isCk cn cv with
    | false => exact ⟨_, _, rfl, Or.inr ⟨ea, rfl⟩⟩
    | true =>
      obtain ⟨g1, g2⟩ := set_good m hck
      have hsz : (setB cn cv m).size ≤ 4611686018427387904 := by
        unfold setB
        rw [ByteArray.size_append, ckB_size]
        have := attrB_size m hm
        omega
      refine ⟨_, _, rfl, Or.inl ⟨rfl, fun X _ => HVAL.out _ g1 hsz X, fun X => ?_⟩⟩
      have h2 := semicolons_any (setB cn cv m) X hsz
      rw [g2] at h2
      by_cases h0 : 0 ≤ m
      · rw [if_pos h0] at h2 ⊢; exact h2
      · rw [if_neg h0] at h2 ⊢; exact h2
  have HC : Hid (∀ W, Below w.heap.size w W → Calls Tryd.prog 16 #[v] W fun e w' => (∃ T V, e = .returned (.tuple #[.string T, V]) ∧ ((l = [] ∧ V = .nilIface) ∨ Good w T V ((l.length : Int) - 1))) ∧ Below W.heap.size W w') := by
    intro W hW
    refine (cookieText_any v l W (hl.below hW) (by omega) (X em) (X ea) (hem.below hW) (he.below hW)).mono ?_
    rintro e w' ⟨rfl, hb⟩
    refine ⟨?_, hb⟩
    unfold ckTextR
    by_cases hbig : 16 < l.length
    · rw [if_pos hbig]; exact ⟨_, _, rfl, Or.inr (Or.inr ⟨em, rfl⟩)⟩
    · rw [if_neg hbig]
      cases hck : allCk l with
      | false => exact ⟨_, _, rfl, Or.inr (Or.inr ⟨ea, rfl⟩)⟩
      | true =>
        by_cases hne : l = []
        · exact ⟨_, _, rfl, Or.inl ⟨hne, rfl⟩⟩
        · obtain ⟨g1, g2⟩ := join_good l hck hne
          have hsz : (joinB l).size ≤ 4611686018427387904 := by
            unfold joinB
            rw [str_size]
            have := joinL_len l
            omega
          have hpos : 0 < l.length := List.length_pos_iff.2 hne
          refine ⟨_, _, rfl, Or.inr (Or.inl ⟨rfl, fun X _ => HVAL.out _ g1 hsz X, fun X => ?_⟩)⟩
          have h2 := semicolons_any (joinB l) X hsz
          rw [show (joinB l).data.toList = joinL l from rfl, g2] at h2
          rw [show ((l.length - 1 : Nat) : Int) = (l.length : Int) - 1 from by omega] at h2
          exact h2
  have hz3 := basicB_big u p
  have hz2 := stdB_size (pairB u p)
  have hz1 := pairB_size u p
  have HOF : Hid (∀ W, Below w.heap.size w W → Calls Tryd.prog 17 #[.string u, .string p] W fun e w' => e = .returned (.string (basicB u p)) ∧ Below W.heap.size W w') := fun W hW => basicOf_any u p W (by omega) (htp.below hW (Nat.le_refl _)) (hst.below hW hgt)
  have HBV : Hid (∀ W, Calls Tryd.prog 14 #[.string (basicB u p)] W fun e w' => e = .returned (.bool true) ∧ Below W.heap.size W w') := HVAL.out _ (basic_value u p) (by omega)
  have HB6 : Hid ((basicB u p).extract 0 6 = ⟨#[66, 97, 115, 105, 99, 32]⟩) := by
    show _ = _
    apply ba_ext
    rw [Lib.extract_data]
    unfold basicB
    rw [ByteArray.data_append, Array.toList_append]
    rfl
  have HLV := hide hl
  obtain ⟨ov, cvp, rfl, _⟩ := hl
  clear hp he hem htp hst x0 hbl0 HVAL hz1 hz2
  generalize basicB u p = BB at *
  have h6 : (6 : Int) ≤ (BB.size : Int) := by omega
  go_enter Tryd.func5, Tryd.ntmps5
  go_wp2_with fail
  generalize w.alloc (.cells #[.slice ov l.length cvp, .string cn, .string cv, .int .i64 m, .string u, .string p] 37) = W at *
  refine (HK.out W HBL.out).mono ?_
  rintro x w1 ⟨rfl, hb1⟩
  have HB1 := hide (keepD HBL.out hb1)
  have HW1 := hide hb1
  clear hb1
  obtain ⟨y0, y1, y2, y3, y4, y5⟩ := HX0.out _ HW1.out
  go_wp2_with fail
  refine (HS.out w1 HB1.out).mono ?_
  rintro x w2 ⟨⟨T, V, rfl, hg⟩, hb2⟩
  have HB2 := hide (keepD HB1.out hb2)
  have HW2 := hide (keepD HW1.out hb2)
  clear hb2 y0 y1 y2 y3 y4 y5
  obtain ⟨y0, y1, y2, y3, y4, y5⟩ := HX0.out _ HW2.out
  rcases hg with ⟨rfl, hv1, hs1⟩ | ⟨a1, rfl⟩
  · have HV1 := hide hv1
    have HS1 := hide hs1
    clear hv1 hs1
    by_cases h0 : 0 ≤ m
    · rw [if_pos h0] at HS1
      go_wp2_with (first
        | (go_at_call 14; refine (HV1.out _ HB2.out).mono ?_; rintro x w3 ⟨rfl, hb3⟩; have q0 := (HX0.out _ (keepD HW2.out hb3)).1)
        | (go_at_call 15; refine (HS1.out _).mono ?_; rintro x w3b ⟨rfl, rfl⟩))
      refine (HC.out _ (keepD HB2.out hb3)).mono ?_
      rintro x w4 ⟨⟨T2, V2, rfl, hg2⟩, hb4⟩
      have HB4 := hide (keepD (keepD HB2.out hb3) hb4)
      have HW4 := hide (keepD (keepD HW2.out hb3) hb4)
      clear hb4 y0 y1 y2 y3 y4 y5
      have hW4 := HW4.out
      have z0 : ∀ X, Below W.heap.size W X → X.cell? ⟨w.heap.size, 0, none⟩ = some (.slice ov l.length cvp) := fun X hX => (HX0.out X hX).1
      obtain ⟨y0, y1, y2, y3, y4, y5⟩ := HX0.out _ HW4.out
      rcases hg2 with ⟨hl0, rfl⟩ | ⟨rfl, hv2, hs2⟩ | ⟨a2, rfl⟩
      · have hl00 : l.length = 0 := by rw [hl0]; rfl
        have hli : decide ((0 : Int) < (l.length : Int)) = false := by rw [hl00]; rfl
        clear hl0
        go_wp2_with fail
        go_quiet (fail)
        go_wp2_with fail
        refine (HOF.out _ (below_drewN HB4.out _)).mono ?_
        rintro x w7 ⟨rfl, hb7⟩
        have HB7 := hide (keepD (below_drewN HB4.out _) hb7)
        clear hb7
        have hx6 := HB6.out
        go_wp2_with (go_at_call 14; refine (HBV.out _).mono ?_; rintro x w8 ⟨rfl, hb8⟩)
        go_ret
        exact ⟨by simp, keepD HB7.out hb8⟩
      · by_cases hpos : 0 < l.length
        · have hli : (0 : Int) < (l.length : Int) := by omega
          have ww : IntKind.i64.wrap ((l.length : Int) - 1) = (l.length : Int) - 1 := wrap_le _ (by omega) (by omega)
          have HV2 := hide hv2
          have HS2 := hide hs2
          clear hv2 hs2
          go_wp2_with fail
          go_region_held3 (fun X => Below W.heap.size W X)
            (first
              | exact Below.refl _ _
              | assumption
              | exact keepD (by assumption) (by assumption)
              | exact Below.drew (by assumption)
              | exact (Below.refl _ _).drew)
            (first
              | (go_at_call 14; refine (HV2.out _ (keepD HBL.out (by assumption))).mono ?_; rintro x w5 ⟨rfl, hb5⟩)
              | (go_at_call 15; refine (HS2.out _).mono ?_; rintro x w6 ⟨rfl, rfl⟩))
          all_goals
            have HW5 : Hid (Below W.heap.size W w6) := by assumption
            obtain ⟨v0, v1, v2, v3, v4, v5⟩ := HX0.out _ HW5.out
            go_wp2_with fail
            refine (HOF.out _ (keepD HBL.out HW5.out)).mono ?_
            rintro x w7 ⟨rfl, hb7⟩
            have HB7 := hide (keepD (keepD HBL.out HW5.out) hb7)
            clear hb7
            have hx6 := HB6.out
            go_wp2_with (go_at_call 14; refine (HBV.out _).mono ?_; rintro x w8 ⟨rfl, hb8⟩)
            go_ret
            exact ⟨by simp, keepD HB7.out hb8⟩
        · have hl00 : l.length = 0 := by omega
          have hli : decide ((0 : Int) < (l.length : Int)) = false := by rw [hl00]; rfl
          clear hv2 hs2
          go_wp2_with fail
          go_quiet (fail)
          go_wp2_with fail
          refine (HOF.out _ (below_drewN HB4.out _)).mono ?_
          rintro x w7 ⟨rfl, hb7⟩
          have HB7 := hide (keepD (below_drewN HB4.out _) hb7)
          clear hb7
          have hx6 := HB6.out
          go_wp2_with (go_at_call 14; refine (HBV.out _).mono ?_; rintro x w8 ⟨rfl, hb8⟩)
          go_ret
          exact ⟨by simp, keepD HB7.out hb8⟩
      · go_wp2_with fail
        go_quiet (fail)
        go_wp2_with fail
        refine (HOF.out _ (below_drewN HB4.out _)).mono ?_
        rintro x w7 ⟨rfl, hb7⟩
        have HB7 := hide (keepD (below_drewN HB4.out _) hb7)
        clear hb7
        have hx6 := HB6.out
        go_wp2_with (go_at_call 14; refine (HBV.out _).mono ?_; rintro x w8 ⟨rfl, hb8⟩)
        go_ret
        exact ⟨by simp, keepD HB7.out hb8⟩
    · rw [if_neg h0] at HS1
      have h0i : m < 0 := by omega
      go_wp2_with (first
        | (go_at_call 14; refine (HV1.out _ HB2.out).mono ?_; rintro x w3 ⟨rfl, hb3⟩; have q0 := (HX0.out _ (keepD HW2.out hb3)).1)
        | (go_at_call 15; refine (HS1.out _).mono ?_; rintro x w3b ⟨rfl, rfl⟩))
      refine (HC.out _ (keepD HB2.out hb3)).mono ?_
      rintro x w4 ⟨⟨T2, V2, rfl, hg2⟩, hb4⟩
      have HB4 := hide (keepD (keepD HB2.out hb3) hb4)
      have HW4 := hide (keepD (keepD HW2.out hb3) hb4)
      clear hb4 y0 y1 y2 y3 y4 y5
      have hW4 := HW4.out
      have z0 : ∀ X, Below W.heap.size W X → X.cell? ⟨w.heap.size, 0, none⟩ = some (.slice ov l.length cvp) := fun X hX => (HX0.out X hX).1
      obtain ⟨y0, y1, y2, y3, y4, y5⟩ := HX0.out _ HW4.out
      rcases hg2 with ⟨hl0, rfl⟩ | ⟨rfl, hv2, hs2⟩ | ⟨a2, rfl⟩
      · have hl00 : l.length = 0 := by rw [hl0]; rfl
        have hli : decide ((0 : Int) < (l.length : Int)) = false := by rw [hl00]; rfl
        clear hl0
        go_wp2_with fail
        go_quiet (fail)
        go_wp2_with fail
        refine (HOF.out _ (below_drewN HB4.out _)).mono ?_
        rintro x w7 ⟨rfl, hb7⟩
        have HB7 := hide (keepD (below_drewN HB4.out _) hb7)
        clear hb7
        have hx6 := HB6.out
        go_wp2_with (go_at_call 14; refine (HBV.out _).mono ?_; rintro x w8 ⟨rfl, hb8⟩)
        go_ret
        exact ⟨by simp, keepD HB7.out hb8⟩
      · by_cases hpos : 0 < l.length
        · have hli : (0 : Int) < (l.length : Int) := by omega
          have ww : IntKind.i64.wrap ((l.length : Int) - 1) = (l.length : Int) - 1 := wrap_le _ (by omega) (by omega)
          have HV2 := hide hv2
          have HS2 := hide hs2
          clear hv2 hs2
          go_wp2_with fail
          go_region_held3 (fun X => Below W.heap.size W X)
            (first
              | exact Below.refl _ _
              | assumption
              | exact keepD (by assumption) (by assumption)
              | exact Below.drew (by assumption)
              | exact (Below.refl _ _).drew)
            (first
              | (go_at_call 14; refine (HV2.out _ (keepD HBL.out (by assumption))).mono ?_; rintro x w5 ⟨rfl, hb5⟩)
              | (go_at_call 15; refine (HS2.out _).mono ?_; rintro x w6 ⟨rfl, rfl⟩))
          all_goals
            have HW5 : Hid (Below W.heap.size W w6) := by assumption
            obtain ⟨v0, v1, v2, v3, v4, v5⟩ := HX0.out _ HW5.out
            go_wp2_with fail
            refine (HOF.out _ (keepD HBL.out HW5.out)).mono ?_
            rintro x w7 ⟨rfl, hb7⟩
            have HB7 := hide (keepD (keepD HBL.out HW5.out) hb7)
            clear hb7
            have hx6 := HB6.out
            go_wp2_with (go_at_call 14; refine (HBV.out _).mono ?_; rintro x w8 ⟨rfl, hb8⟩)
            go_ret
            exact ⟨by simp, keepD HB7.out hb8⟩
        · have hl00 : l.length = 0 := by omega
          have hli : decide ((0 : Int) < (l.length : Int)) = false := by rw [hl00]; rfl
          clear hv2 hs2
          go_wp2_with fail
          go_quiet (fail)
          go_wp2_with fail
          refine (HOF.out _ (below_drewN HB4.out _)).mono ?_
          rintro x w7 ⟨rfl, hb7⟩
          have HB7 := hide (keepD (below_drewN HB4.out _) hb7)
          clear hb7
          have hx6 := HB6.out
          go_wp2_with (go_at_call 14; refine (HBV.out _).mono ?_; rintro x w8 ⟨rfl, hb8⟩)
          go_ret
          exact ⟨by simp, keepD HB7.out hb8⟩
      · go_wp2_with fail
        go_quiet (fail)
        go_wp2_with fail
        refine (HOF.out _ (below_drewN HB4.out _)).mono ?_
        rintro x w7 ⟨rfl, hb7⟩
        have HB7 := hide (keepD (below_drewN HB4.out _) hb7)
        clear hb7
        have hx6 := HB6.out
        go_wp2_with (go_at_call 14; refine (HBV.out _).mono ?_; rintro x w8 ⟨rfl, hb8⟩)
        go_ret
        exact ⟨by simp, keepD HB7.out hb8⟩
  · by_cases h0 : 0 ≤ m
    ·
      go_wp2_with fail
      refine (HC.out _ (HB2.out)).mono ?_
      rintro x w4 ⟨⟨T2, V2, rfl, hg2⟩, hb4⟩
      have HB4 := hide (keepD (HB2.out) hb4)
      have HW4 := hide (keepD (HW2.out) hb4)
      clear hb4 y0 y1 y2 y3 y4 y5
      have hW4 := HW4.out
      have z0 : ∀ X, Below W.heap.size W X → X.cell? ⟨w.heap.size, 0, none⟩ = some (.slice ov l.length cvp) := fun X hX => (HX0.out X hX).1
      obtain ⟨y0, y1, y2, y3, y4, y5⟩ := HX0.out _ HW4.out
      rcases hg2 with ⟨hl0, rfl⟩ | ⟨rfl, hv2, hs2⟩ | ⟨a2, rfl⟩
      · have hl00 : l.length = 0 := by rw [hl0]; rfl
        have hli : decide ((0 : Int) < (l.length : Int)) = false := by rw [hl00]; rfl
        clear hl0
        go_wp2_with fail
        go_quiet (fail)
        go_wp2_with fail
        refine (HOF.out _ (below_drewN HB4.out _)).mono ?_
        rintro x w7 ⟨rfl, hb7⟩
        have HB7 := hide (keepD (below_drewN HB4.out _) hb7)
        clear hb7
        have hx6 := HB6.out
        go_wp2_with (go_at_call 14; refine (HBV.out _).mono ?_; rintro x w8 ⟨rfl, hb8⟩)
        go_ret
        exact ⟨by simp, keepD HB7.out hb8⟩
      · by_cases hpos : 0 < l.length
        · have hli : (0 : Int) < (l.length : Int) := by omega
          have ww : IntKind.i64.wrap ((l.length : Int) - 1) = (l.length : Int) - 1 := wrap_le _ (by omega) (by omega)
          have HV2 := hide hv2
          have HS2 := hide hs2
          clear hv2 hs2
          go_wp2_with fail
          go_region_held3 (fun X => Below W.heap.size W X)
            (first
              | exact Below.refl _ _
              | assumption
              | exact keepD (by assumption) (by assumption)
              | exact Below.drew (by assumption)
              | exact (Below.refl _ _).drew)
            (first
              | (go_at_call 14; refine (HV2.out _ (keepD HBL.out (by assumption))).mono ?_; rintro x w5 ⟨rfl, hb5⟩)
              | (go_at_call 15; refine (HS2.out _).mono ?_; rintro x w6 ⟨rfl, rfl⟩))
          all_goals
            have HW5 : Hid (Below W.heap.size W w6) := by assumption
            obtain ⟨v0, v1, v2, v3, v4, v5⟩ := HX0.out _ HW5.out
            go_wp2_with fail
            refine (HOF.out _ (keepD HBL.out HW5.out)).mono ?_
            rintro x w7 ⟨rfl, hb7⟩
            have HB7 := hide (keepD (keepD HBL.out HW5.out) hb7)
            clear hb7
            have hx6 := HB6.out
            go_wp2_with (go_at_call 14; refine (HBV.out _).mono ?_; rintro x w8 ⟨rfl, hb8⟩)
            go_ret
            exact ⟨by simp, keepD HB7.out hb8⟩
        · have hl00 : l.length = 0 := by omega
          have hli : decide ((0 : Int) < (l.length : Int)) = false := by rw [hl00]; rfl
          clear hv2 hs2
          go_wp2_with fail
          go_quiet (fail)
          go_wp2_with fail
          refine (HOF.out _ (below_drewN HB4.out _)).mono ?_
          rintro x w7 ⟨rfl, hb7⟩
          have HB7 := hide (keepD (below_drewN HB4.out _) hb7)
          clear hb7
          have hx6 := HB6.out
          go_wp2_with (go_at_call 14; refine (HBV.out _).mono ?_; rintro x w8 ⟨rfl, hb8⟩)
          go_ret
          exact ⟨by simp, keepD HB7.out hb8⟩
      · go_wp2_with fail
        go_quiet (fail)
        go_wp2_with fail
        refine (HOF.out _ (below_drewN HB4.out _)).mono ?_
        rintro x w7 ⟨rfl, hb7⟩
        have HB7 := hide (keepD (below_drewN HB4.out _) hb7)
        clear hb7
        have hx6 := HB6.out
        go_wp2_with (go_at_call 14; refine (HBV.out _).mono ?_; rintro x w8 ⟨rfl, hb8⟩)
        go_ret
        exact ⟨by simp, keepD HB7.out hb8⟩
    · have h0i : m < 0 := by omega
      go_wp2_with fail
      refine (HC.out _ (HB2.out)).mono ?_
      rintro x w4 ⟨⟨T2, V2, rfl, hg2⟩, hb4⟩
      have HB4 := hide (keepD (HB2.out) hb4)
      have HW4 := hide (keepD (HW2.out) hb4)
      clear hb4 y0 y1 y2 y3 y4 y5
      have hW4 := HW4.out
      have z0 : ∀ X, Below W.heap.size W X → X.cell? ⟨w.heap.size, 0, none⟩ = some (.slice ov l.length cvp) := fun X hX => (HX0.out X hX).1
      obtain ⟨y0, y1, y2, y3, y4, y5⟩ := HX0.out _ HW4.out
      rcases hg2 with ⟨hl0, rfl⟩ | ⟨rfl, hv2, hs2⟩ | ⟨a2, rfl⟩
      · have hl00 : l.length = 0 := by rw [hl0]; rfl
        have hli : decide ((0 : Int) < (l.length : Int)) = false := by rw [hl00]; rfl
        clear hl0
        go_wp2_with fail
        go_quiet (fail)
        go_wp2_with fail
        refine (HOF.out _ (below_drewN HB4.out _)).mono ?_
        rintro x w7 ⟨rfl, hb7⟩
        have HB7 := hide (keepD (below_drewN HB4.out _) hb7)
        clear hb7
        have hx6 := HB6.out
        go_wp2_with (go_at_call 14; refine (HBV.out _).mono ?_; rintro x w8 ⟨rfl, hb8⟩)
        go_ret
        exact ⟨by simp, keepD HB7.out hb8⟩
      · by_cases hpos : 0 < l.length
        · have hli : (0 : Int) < (l.length : Int) := by omega
          have ww : IntKind.i64.wrap ((l.length : Int) - 1) = (l.length : Int) - 1 := wrap_le _ (by omega) (by omega)
          have HV2 := hide hv2
          have HS2 := hide hs2
          clear hv2 hs2
          go_wp2_with fail
          go_region_held3 (fun X => Below W.heap.size W X)
            (first
              | exact Below.refl _ _
              | assumption
              | exact keepD (by assumption) (by assumption)
              | exact Below.drew (by assumption)
              | exact (Below.refl _ _).drew)
            (first
              | (go_at_call 14; refine (HV2.out _ (keepD HBL.out (by assumption))).mono ?_; rintro x w5 ⟨rfl, hb5⟩)
              | (go_at_call 15; refine (HS2.out _).mono ?_; rintro x w6 ⟨rfl, rfl⟩))
          all_goals
            have HW5 : Hid (Below W.heap.size W w6) := by assumption
            obtain ⟨v0, v1, v2, v3, v4, v5⟩ := HX0.out _ HW5.out
            go_wp2_with fail
            refine (HOF.out _ (keepD HBL.out HW5.out)).mono ?_
            rintro x w7 ⟨rfl, hb7⟩
            have HB7 := hide (keepD (keepD HBL.out HW5.out) hb7)
            clear hb7
            have hx6 := HB6.out
            go_wp2_with (go_at_call 14; refine (HBV.out _).mono ?_; rintro x w8 ⟨rfl, hb8⟩)
            go_ret
            exact ⟨by simp, keepD HB7.out hb8⟩
        · have hl00 : l.length = 0 := by omega
          have hli : decide ((0 : Int) < (l.length : Int)) = false := by rw [hl00]; rfl
          clear hv2 hs2
          go_wp2_with fail
          go_quiet (fail)
          go_wp2_with fail
          refine (HOF.out _ (below_drewN HB4.out _)).mono ?_
          rintro x w7 ⟨rfl, hb7⟩
          have HB7 := hide (keepD (below_drewN HB4.out _) hb7)
          clear hb7
          have hx6 := HB6.out
          go_wp2_with (go_at_call 14; refine (HBV.out _).mono ?_; rintro x w8 ⟨rfl, hb8⟩)
          go_ret
          exact ⟨by simp, keepD HB7.out hb8⟩
      · go_wp2_with fail
        go_quiet (fail)
        go_wp2_with fail
        refine (HOF.out _ (below_drewN HB4.out _)).mono ?_
        rintro x w7 ⟨rfl, hb7⟩
        have HB7 := hide (keepD (below_drewN HB4.out _) hb7)
        clear hb7
        have hx6 := HB6.out
        go_wp2_with (go_at_call 14; refine (HBV.out _).mono ?_; rintro x w8 ⟨rfl, hb8⟩)
        go_ret
        exact ⟨by simp, keepD HB7.out hb8⟩

end Go.Proofs.YtdkbjefphihplabDoor.fd
