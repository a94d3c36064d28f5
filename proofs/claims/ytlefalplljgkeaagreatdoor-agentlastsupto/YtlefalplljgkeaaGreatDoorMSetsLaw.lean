import Derived.Test.YtlefalplljgkeaaGreatDoorMSetW2
namespace Go.Proofs.YtlefalplljgkeaaGreatDoor.fd
open Go.ChangeShapes Go.WideShapes Go.ChangeAt Go.RowKit Go.Proofs.YtlefalplljgkeaaGreatDoor.common Go.Proofs.YtlefalplljgkeaaGreatDoor.bk
attribute [local go_sem ↓] Go.wp_at_zero Go.wp_at_succ

/-- a struct of three cells in a new block -/
theorem box3 (w : World) (x y z : Value) (t : TypeId) : (∀ X, Below (w.alloc (.cells #[x, y, z] t)).heap.size (w.alloc (.cells #[x, y, z] t)) X → X.cell? ⟨w.heap.size, 0, none⟩ = some x) ∧
    (∀ X, Below (w.alloc (.cells #[x, y, z] t)).heap.size (w.alloc (.cells #[x, y, z] t)) X → X.cell? ⟨w.heap.size, 1, none⟩ = some y) ∧
    (∀ X, Below (w.alloc (.cells #[x, y, z] t)).heap.size (w.alloc (.cells #[x, y, z] t)) X → X.cell? ⟨w.heap.size, 2, none⟩ = some z) ∧ Below w.heap.size w (w.alloc (.cells #[x, y, z] t)) := by
  have hlt : w.heap.size < (w.alloc (.cells #[x, y, z] t)).heap.size := by simp
  exact ⟨fun X hX => (hX.cell hlt).trans (range_new w #[x, y, z] t 0 x rfl), fun X hX => (hX.cell hlt).trans (range_new w #[x, y, z] t 1 y rfl), fun X hX => (hX.cell hlt).trans (range_new w #[x, y, z] t 2 z rfl), (Below.refl _ _).alloc (Nat.le_refl _) _⟩

set_option maxRecDepth 100000 in
set_option maxHeartbeats 3200000 in
theorem setCookie_any (n v : ByteArray) (m : Int) (w : World) (hm : inR m) (hs : n.size + v.size ≤ 4611686018427387000) (hp : Pow w.heap.size w) (xe : Value) (hx : Ev 0 w xe) :
    Calls Tryz.prog 8 #[.agg #[.string n, .string v, .int .i64 m]] w fun e w' => e = .returned (if isCk n v then .tuple #[.string (setB n v m), .nilIface] else .tuple #[.string ⟨#[]⟩, xe]) ∧ Below w.heap.size w w' := by
  obtain ⟨R, hR⟩ : ∃ R, R = (if isCk n v then Value.tuple #[.string (setB n v m), .nilIface] else .tuple #[.string ⟨#[]⟩, xe]) := ⟨_, rfl⟩
  rw [← hR]
  have HR := hide hR
  clear hR
  obtain ⟨T, hT⟩ := tabA
  have HT := hide hT
  obtain ⟨x0, x1, x2, hbl⟩ := box3 w (.string n) (.string v) (.int .i64 m) 30
  have HBL := hide hbl
  have HP := hide (pow_below hp hbl)
  have HX := hide (hx.below hbl)
  clear hT hbl hp hx
  have h1 : n.size ≤ 4611686018427387904 := by omega
  have h2 : v.size ≤ 4611686018427387904 := by omega
  have hz1 := ckB_size n v
  have hz2 := attrB_size m hm
  have hsum : (ckB n v).size + (attrB m).size ≤ 9223372036854775807 := by omega
  have hsumi : ¬ (9223372036854775807 : Int) < ((ckB n v).size : Int) + ((attrB m).size : Int) := by omega
  have hadd : ∀ X : World, (Op.stringOp .add (ckB n v) (attrB m)).run Tryz.prog X = .ok (.string (ckB n v ++ attrB m)) X := fun X => run_string_add_sum X _ _ hsum
  go_enter Tryz.func8, Tryz.ntmps8
  go_wp2_with fail
  generalize w.alloc (.cells #[.string n, .string v, .int .i64 m] 30) = W at *
  refine (HT.out.made W).mono ?_
  rintro x w1 ⟨rfl, hb1⟩
  have HB := hide (keepD hb1 (put_below Tryz.zeroCells62 T w1))
  clear hb1
  have y0 := x0 _ HB.out
  have y1 := x1 _ HB.out
  unfold put at y0 y1
  go_wp2_with (refine wpList_store_mid rfl 62 (.tmp 4) (.tmp 5) rfl w1.heap.size 0 T rfl rfl (HT.out.room w1) HT.out.size HT.out.one ?_)
  change Calls _ _ _ (put Tryz.zeroCells62 T w1) _
  have HTAB := hide (HT.out.tab w1)
  clear HT y0 y1
  generalize hW2 : put Tryz.zeroCells62 T w1 = W2 at *
  clear hW2
  refine (isCookie_any w1.heap.size 0 n v W2 HTAB.out h1 h2).mono ?_
  rintro x w3 ⟨rfl, rfl⟩
  have hb := HB.out
  cases hck : isCk n v with
  | false =>
    rw [hck] at HR
    clear hck
    have hxe : w3.cell? ⟨0, 0, none⟩ = some xe := HX.out.below HB.out
    go_wp2_with fail
    go_region
    all_goals (try go_wp2)
    all_goals go_ret2
    all_goals exact ⟨by rw [HR.out]; rfl, HBL.out.trans ((HB.out.drew).mono HBL.out.size)⟩
  | true =>
    rw [hck] at HR
    clear hck
    go_wp2_with fail
    go_region_held3 (fun X => Below W.heap.size W X)
      (first
        | exact Below.refl _ _
        | assumption
        | exact keepD (by assumption) (by assumption)
        | exact Below.drew (by assumption)
        | exact (Below.refl _ _).drew)
      (first
        | (go_at_call 17; refine (cookieText1_any n v _ (by omega)).mono ?_; rintro x w4 ⟨rfl, rfl⟩)
        | (go_at_call 18; refine (attr_any m _ hm (pow_below HP.out (by assumption))).mono ?_; rintro x w5 ⟨rfl, hb5⟩))
    all_goals
      have HB5 : Hid (Below W.heap.size W w5) := by assumption
      go_wp2_with fail
      go_ret2
      exact ⟨by rw [HR.out]; rfl, HBL.out.trans (HB5.out.mono HBL.out.size)⟩

end Go.Proofs.YtlefalplljgkeaaGreatDoor.fd

namespace Go.Proofs.YtlefalplljgkeaaGreatDoor.fd
open Go.ChangeShapes Go.WideShapes Go.ChangeAt Go.RowKit Go.Proofs.YtlefalplljgkeaaGreatDoor.common Go.Proofs.YtlefalplljgkeaaGreatDoor.bk
attribute [local go_sem ↓] Go.wp_at_zero Go.wp_at_succ

theorem setB_pos (n v : ByteArray) (N : Nat) : setB n v (N : Int) = ((((n ++ ⟨#[61]⟩) ++ v) ++ pathB) ++ (ageB ++ decB N)) ++ lastB := by
  have e : itoaB (N : Int) = decB N := by unfold itoaB decB; rw [Lib.itoa_nonneg]
  unfold setB ckB attrB
  rw [if_pos (by omega), e]
  apply ba_ext
  simp
theorem setB_neg (n v : ByteArray) (m : Int) (h : ¬ 0 ≤ m) : setB n v m = ((((n ++ ⟨#[61]⟩) ++ v) ++ pathB) ++ ⟨#[]⟩) ++ lastB := by
  unfold setB ckB attrB
  rw [if_neg h]
  apply ba_ext
  simp

theorem load3 : (Tryz.prog.info? 30).map (·.size) = some 3 := by kernel_rfl

end Go.Proofs.YtlefalplljgkeaaGreatDoor.fd
