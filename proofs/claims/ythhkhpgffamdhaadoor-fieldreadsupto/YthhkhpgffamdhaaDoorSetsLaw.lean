import Derived.Test.YthhkhpgffamdhaaDoorSetW3
namespace Go.Proofs.YthhkhpgffamdhaaDoor.fd
open Go.ChangeShapes Go.WideShapes Go.ChangeAt Go.RowKit Go.Proofs.YthhkhpgffamdhaaDoor.common Go.Proofs.YthhkhpgffamdhaaDoor.bk
attribute [local go_sem ↓] Go.wp_at_zero Go.wp_at_succ

theorem setB_pos (n v : ByteArray) (N : Nat) : setB n v (N : Int) = ((((n ++ ⟨#[61]⟩) ++ v) ++ pathB) ++ (ageB ++ decB N)) ++ lastB := by
  have e : itoaB (N : Int) = decB N := by unfold itoaB decB; rw [Lib.itoa_nonneg]
  unfold setB ckB attrB
  rw [if_pos (by omega), e]
  apply ba_ext
  simp
theorem setB_neg (n v : ByteArray) (m : Int) (h : ¬ 0 ≤ m) : setB n v m = ((((n ++ ⟨#[61]⟩) ++ v) ++ pathB) ++ ⟨#[]⟩) ++ lastB := by
  unfold setB ckB attrB
  rw [if_neg h]
  apply ba_ext
  simp

theorem load3 : (Tryd.prog.info? 52).map (·.size) = some 3 := by kernel_rfl

set_option maxRecDepth 100000 in
set_option maxHeartbeats 3200000 in
theorem refSet_any (n v : ByteArray) (m : Int) (w : World) (hm : inR m) (hs : n.size + v.size ≤ 4611686018427387000) :
    Calls Tryd.prog 50 #[.agg #[.string n, .string v, .int .i64 m]] w fun e w' => e = .returned (if isCk n v then .tuple #[.string (setB n v m), .int .i64 0] else .tuple #[.string ⟨#[]⟩, .int .i64 2]) ∧ Below w.heap.size w w' := by
  obtain ⟨R, hR⟩ : ∃ R, R = (if isCk n v then Value.tuple #[.string (setB n v m), .int .i64 0] else .tuple #[.string ⟨#[]⟩, .int .i64 2]) := ⟨_, rfl⟩
  rw [← hR]
  have HR := hide hR
  clear hR
  obtain ⟨x0, x1, x2, hbl⟩ := box3 w (.string n) (.string v) (.int .i64 m) 52
  have y0 := x0 _ (Below.refl _ _)
  have y1 := x1 _ (Below.refl _ _)
  have y2 := x2 _ (Below.refl _ _)
  have HBL := hide hbl
  clear hbl
  have h1 : n.size ≤ 4611686018427387904 := by omega
  have h2 : v.size ≤ 4611686018427387904 := by omega
  have H1 : Hid (∀ W, Calls Tryd.prog 44 #[.string n] W fun e w' => e = .returned (.bool (Fd.token n.data.toList)) ∧ w' = W) := fun W => refToken_any n W h1
  have H2 : Hid (∀ W, Calls Tryd.prog 45 #[.string v] W fun e w' => e = .returned (.bool (v.data.toList.all Fd.ck)) ∧ w' = W) := fun W => refCkValue_any v W h2
  unfold isCk at HR
  generalize Fd.token n.data.toList = a at *
  generalize v.data.toList.all Fd.ck = b at *
  have hv1 : n.size + 1 + v.size ≤ 4611686018427387001 := by omega
  cases a
  · have HR2 : Hid (R = .tuple #[.string ⟨#[]⟩, .int .i64 2]) := HR.out
    clear HR
    go_enter Tryd.func50, Tryd.ntmps50
    cases b
    all_goals
      go_wp2_with (first
        | (go_at_call 44; refine (H1.out _).mono ?_; rintro x w4 ⟨rfl, rfl⟩)
        | (go_at_call 45; refine (H2.out _).mono ?_; rintro x w4 ⟨rfl, rfl⟩))
      go_ret2
      exact ⟨by rw [HR2.out]; rfl, HBL.out⟩
  · cases b
    · have HR2 : Hid (R = .tuple #[.string ⟨#[]⟩, .int .i64 2]) := HR.out
      clear HR
      go_enter Tryd.func50, Tryd.ntmps50
      go_wp2_with (first
        | (go_at_call 44; refine (H1.out _).mono ?_; rintro x w4 ⟨rfl, rfl⟩)
        | (go_at_call 45; refine (H2.out _).mono ?_; rintro x w4 ⟨rfl, rfl⟩))
      go_ret2
      exact ⟨by rw [HR2.out]; rfl, HBL.out⟩
    · have HR2 : Hid (R = .tuple #[.string (setB n v m), .int .i64 0]) := HR.out
      clear HR
      by_cases h0 : 0 ≤ m
      · obtain ⟨N, rfl⟩ : ∃ N : Nat, m = (N : Int) := ⟨m.toNat, by omega⟩
        have HE := hide (setB_pos n v N)
        have hz := itoaB_size (N : Int) hm
        have hzz : (decB N).size ≤ 21 := by
          have e : itoaB (N : Int) = decB N := by unfold itoaB decB; rw [Lib.itoa_nonneg]
          rw [← e]; exact hz
        clear hz
        have H3 : Hid (∀ W, Calls Tryd.prog 77 #[.int .i64 (N : Int)] W fun e w' => e = .returned (.string (decB N)) ∧ Below W.heap.size W w') := fun W => decimal_any N W (by have := hm.2; omega)
        generalize decB N = D at *
        go_enter Tryd.func50, Tryd.ntmps50
        go_wp2_with (first
          | (go_at_call 44; refine (H1.out _).mono ?_; rintro x w4 ⟨rfl, rfl⟩)
          | (go_at_call 45; refine (H2.out _).mono ?_; rintro x w4 ⟨rfl, rfl⟩)
          | (go_at_call 77; refine (H3.out _).mono ?_; rintro x w5 ⟨rfl, hb5⟩; have z0 := x0 _ hb5; have z1 := x1 _ hb5))
        go_ret2
        exact ⟨by rw [HR2.out, HE.out]; rfl, HBL.out.trans (hb5.mono HBL.out.size)⟩
      · have h0i : m < 0 := by omega
        have HE := hide (setB_neg n v m h0)
        clear h0
        go_enter Tryd.func50, Tryd.ntmps50
        go_wp2_with (first
          | (go_at_call 44; refine (H1.out _).mono ?_; rintro x w4 ⟨rfl, rfl⟩)
          | (go_at_call 45; refine (H2.out _).mono ?_; rintro x w4 ⟨rfl, rfl⟩))
        go_ret2
        exact ⟨by rw [HR2.out, HE.out]; rfl, HBL.out⟩

end Go.Proofs.YthhkhpgffamdhaaDoor.fd
