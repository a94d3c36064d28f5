import Derived.Test.YtimbhneegphhbaaGreatDoorRcLent
import Derived.Test.YtimbhneegphhbaaGreatDoorRadixBack
import Derived.Test.YtimbhneegphhbaaGreatDoorRefLetters
namespace Go.Proofs.YtimbhneegphhbaaGreatDoor.rc
open Go.ChangeShapes Go.WideShapes Go.ChangeAt Go.RowKit Go.Proofs.YtimbhneegphhbaaGreatDoor.common Go.Proofs.YtimbhneegphhbaaGreatDoor.ss
attribute [local go_sem ↓] Go.wp_at_zero Go.wp_at_succ

set_option maxRecDepth 100000 in
set_option maxHeartbeats 12800000 in
theorem sameRec_any (r : Rec) (va vb : Value) (w : World) (ha : Lies w va r.ss) (hb : Lies w vb r.ss) (hn : r.ss.length ≤ 4611686018427387904) :
    Calls Tryz.prog 15 #[.agg (rcs r va), .agg (rcs r vb)] w fun e w' => e = .returned (.bool true) ∧ Below w.heap.size w w' := by
  obtain ⟨W0, hW0⟩ : ∃ W0, W0 = (w.alloc (.cells (rcs r va) 26)).alloc (.cells (rcs r vb) 26) := ⟨_, rfl⟩
  have hb0 : Below w.heap.size w W0 := by rw [hW0]; exact ((Below.refl _ _).alloc (Nat.le_refl _) _).alloc (by simp) _
  obtain ⟨f, hf, hg⟩ := class_of W0
  have hA : BoxR W0 w.heap.size r va := fun X hX => by
    have h1 := boxR w r va 26
    refine h1 X ?_
    have h2 : Below (w.alloc (.cells (rcs r va) 26)).heap.size (w.alloc (.cells (rcs r va) 26)) W0 := by rw [hW0]; exact (Below.refl _ _).alloc (Nat.le_refl _) _
    exact keepW h2 hX
  have hB : BoxR W0 (w.heap.size + 1) r vb := by
    have h1 := boxR (w.alloc (.cells (rcs r va) 26)) r vb 26
    rw [World.size_alloc] at h1
    rw [hW0]
    exact h1
  have HS : Hid (Calls Tryz.prog 29 #[va, vb] W0 fun e w' => e = .returned (.bool true) ∧ ∃ m, w' = f m) :=
    (same_any va vb r.ss W0 (ha.below hb0) (hb.below hb0) hn).mono (fun e w1 h => ⟨h.1, w1, (hg _ h.2).symm⟩)
  have HD : Hid (W0.drew = f W0.drew) := (hg _ (Below.refl _ _).drew).symm
  have HDN : Hid (∀ n, (f n).drew = f (f n).drew) := fun n => (hg _ (hf n).drew).symm
  have HFB := hide hf
  have a0 : ∀ n, (f n).cell? ⟨w.heap.size, 0, none⟩ = some (.int .i64 r.k) := fun n => (hA _ (hf n)).1
  have a1 : ∀ n, (f n).cell? ⟨w.heap.size, 1, none⟩ = some (.string r.id) := fun n => (hA _ (hf n)).2.1
  have a2 : ∀ n, (f n).cell? ⟨w.heap.size, 2, none⟩ = some (.string r.us) := fun n => (hA _ (hf n)).2.2.1
  have a3 : ∀ n, (f n).cell? ⟨w.heap.size, 3, none⟩ = some (.string r.cl) := fun n => (hA _ (hf n)).2.2.2.1
  have a4 : ∀ n, (f n).cell? ⟨w.heap.size, 4, none⟩ = some (.string r.rd) := fun n => (hA _ (hf n)).2.2.2.2.1
  have a5 : ∀ n, (f n).cell? ⟨w.heap.size, 5, none⟩ = some (.string r.ch) := fun n => (hA _ (hf n)).2.2.2.2.2.1
  have a6 : ∀ n, (f n).cell? ⟨w.heap.size, 6, none⟩ = some (.string r.cd) := fun n => (hA _ (hf n)).2.2.2.2.2.2.1
  have a7 : ∀ n, (f n).cell? ⟨w.heap.size, 7, none⟩ = some va := fun n => (hA _ (hf n)).2.2.2.2.2.2.2.1
  have a8 : ∀ n, (f n).cell? ⟨w.heap.size, 8, none⟩ = some (.int .i64 r.at_) := fun n => (hA _ (hf n)).2.2.2.2.2.2.2.2
  have b0 : ∀ n, (f n).cell? ⟨w.heap.size + 1, 0, none⟩ = some (.int .i64 r.k) := fun n => (hB _ (hf n)).1
  have b1 : ∀ n, (f n).cell? ⟨w.heap.size + 1, 1, none⟩ = some (.string r.id) := fun n => (hB _ (hf n)).2.1
  have b2 : ∀ n, (f n).cell? ⟨w.heap.size + 1, 2, none⟩ = some (.string r.us) := fun n => (hB _ (hf n)).2.2.1
  have b3 : ∀ n, (f n).cell? ⟨w.heap.size + 1, 3, none⟩ = some (.string r.cl) := fun n => (hB _ (hf n)).2.2.2.1
  have b4 : ∀ n, (f n).cell? ⟨w.heap.size + 1, 4, none⟩ = some (.string r.rd) := fun n => (hB _ (hf n)).2.2.2.2.1
  have b5 : ∀ n, (f n).cell? ⟨w.heap.size + 1, 5, none⟩ = some (.string r.ch) := fun n => (hB _ (hf n)).2.2.2.2.2.1
  have b6 : ∀ n, (f n).cell? ⟨w.heap.size + 1, 6, none⟩ = some (.string r.cd) := fun n => (hB _ (hf n)).2.2.2.2.2.2.1
  have b7 : ∀ n, (f n).cell? ⟨w.heap.size + 1, 7, none⟩ = some vb := fun n => (hB _ (hf n)).2.2.2.2.2.2.2.1
  have b8 : ∀ n, (f n).cell? ⟨w.heap.size + 1, 8, none⟩ = some (.int .i64 r.at_) := fun n => (hB _ (hf n)).2.2.2.2.2.2.2.2
  haveI : Nonempty World := ⟨w⟩
  have HB0 := hide hb0
  have HW0 := hide hW0
  clear ha hb hf hg hA hB hb0 hW0
  go_enter Tryz.func15, Tryz.ntmps15
  go_wp2_with fail
  rw [← HW0.out]
  refine HS.out.mono ?_
  rintro x w2 ⟨rfl, m, rfl⟩
  go_wp2_with fail
  go_ret
  exact ⟨rfl, keepW HB0.out (HFB.out m)⟩
end Go.Proofs.YtimbhneegphhbaaGreatDoor.rc

namespace Go.Proofs.YtimbhneegphhbaaGreatDoor.Rad

/-- the bit i of a row of numbers of n bits each -/
def nb (x : Nat → Nat) (n i : Nat) : Nat := x (i / n) / 2 ^ (n - 1 - i % n) % 2
theorem nb_lt (x : Nat → Nat) (n i : Nat) : nb x n i < 2 := by unfold nb; omega
theorem nb_at (x : Nat → Nat) (n q r : Nat) (hr : r < n) : nb x n (n * q + r) = x q / 2 ^ (n - 1 - r) % 2 := by
  unfold nb
  have h1 : (n * q + r) / n = q := by
    rw [Nat.mul_comm, Nat.add_comm, Nat.add_mul_div_right _ _ (by omega), Nat.div_eq_of_lt hr, Nat.zero_add]
  have h2 : (n * q + r) % n = r := by rw [Nat.mul_add_mod, Nat.mod_eq_of_lt hr]
  rw [h1, h2]
theorem grp8 (b : Nat → Nat) (i : Nat) : grp b i 8 = 2 * (2 * (2 * (2 * (2 * (2 * (2 * (2 * 0 + b (i + 0)) + b (i + 1)) + b (i + 2)) + b (i + 3)) + b (i + 4)) + b (i + 5)) + b (i + 6)) + b (i + 7) := rfl

theorem six_bytes (x : Nat → Nat) (hx : ∀ i, x i < 64) (m : Nat) : grp (nb x 6) (8 * m) 8 = byt x m := by
  obtain ⟨i, r, hr, rfl⟩ : ∃ i r, r < 3 ∧ m = 3 * i + r := ⟨m / 3, m % 3, by omega, by omega⟩
  have h0 := hx (4 * i)
  have h1 := hx (4 * i + 1)
  have h2 := hx (4 * i + 2)
  have h3 := hx (4 * i + 3)
  unfold byt
  rw [show (3 * i + r) % 3 = r by omega, show (3 * i + r) / 3 * 4 = 4 * i by omega, grp8]
  match r, hr with
  | 0, _ =>
    rw [show 8 * (3 * i + 0) + 0 = 6 * (4 * i) + 0 by omega, show 8 * (3 * i + 0) + 1 = 6 * (4 * i) + 1 by omega, show 8 * (3 * i + 0) + 2 = 6 * (4 * i) + 2 by omega, show 8 * (3 * i + 0) + 3 = 6 * (4 * i) + 3 by omega, show 8 * (3 * i + 0) + 4 = 6 * (4 * i) + 4 by omega, show 8 * (3 * i + 0) + 5 = 6 * (4 * i) + 5 by omega, show 8 * (3 * i + 0) + 6 = 6 * (4 * i + 1) + 0 by omega, show 8 * (3 * i + 0) + 7 = 6 * (4 * i + 1) + 1 by omega]
    rw [nb_at x 6 (4 * i) 0 (by decide), nb_at x 6 (4 * i) 1 (by decide), nb_at x 6 (4 * i) 2 (by decide), nb_at x 6 (4 * i) 3 (by decide), nb_at x 6 (4 * i) 4 (by decide), nb_at x 6 (4 * i) 5 (by decide), nb_at x 6 (4 * i + 1) 0 (by decide), nb_at x 6 (4 * i + 1) 1 (by decide)]
    simp only [Nat.reduceSub, Nat.reducePow]
    omega
  | 1, _ =>
    rw [show 8 * (3 * i + 1) + 0 = 6 * (4 * i + 1) + 2 by omega, show 8 * (3 * i + 1) + 1 = 6 * (4 * i + 1) + 3 by omega, show 8 * (3 * i + 1) + 2 = 6 * (4 * i + 1) + 4 by omega, show 8 * (3 * i + 1) + 3 = 6 * (4 * i + 1) + 5 by omega, show 8 * (3 * i + 1) + 4 = 6 * (4 * i + 2) + 0 by omega, show 8 * (3 * i + 1) + 5 = 6 * (4 * i + 2) + 1 by omega, show 8 * (3 * i + 1) + 6 = 6 * (4 * i + 2) + 2 by omega, show 8 * (3 * i + 1) + 7 = 6 * (4 * i + 2) + 3 by omega]
    rw [nb_at x 6 (4 * i + 1) 2 (by decide), nb_at x 6 (4 * i + 1) 3 (by decide), nb_at x 6 (4 * i + 1) 4 (by decide), nb_at x 6 (4 * i + 1) 5 (by decide), nb_at x 6 (4 * i + 2) 0 (by decide), nb_at x 6 (4 * i + 2) 1 (by decide), nb_at x 6 (4 * i + 2) 2 (by decide), nb_at x 6 (4 * i + 2) 3 (by decide)]
    simp only [Nat.reduceSub, Nat.reducePow]
    omega
  | 2, _ =>
    rw [show 8 * (3 * i + 2) + 0 = 6 * (4 * i + 2) + 4 by omega, show 8 * (3 * i + 2) + 1 = 6 * (4 * i + 2) + 5 by omega, show 8 * (3 * i + 2) + 2 = 6 * (4 * i + 3) + 0 by omega, show 8 * (3 * i + 2) + 3 = 6 * (4 * i + 3) + 1 by omega, show 8 * (3 * i + 2) + 4 = 6 * (4 * i + 3) + 2 by omega, show 8 * (3 * i + 2) + 5 = 6 * (4 * i + 3) + 3 by omega, show 8 * (3 * i + 2) + 6 = 6 * (4 * i + 3) + 4 by omega, show 8 * (3 * i + 2) + 7 = 6 * (4 * i + 3) + 5 by omega]
    rw [nb_at x 6 (4 * i + 2) 4 (by decide), nb_at x 6 (4 * i + 2) 5 (by decide), nb_at x 6 (4 * i + 3) 0 (by decide), nb_at x 6 (4 * i + 3) 1 (by decide), nb_at x 6 (4 * i + 3) 2 (by decide), nb_at x 6 (4 * i + 3) 3 (by decide), nb_at x 6 (4 * i + 3) 4 (by decide), nb_at x 6 (4 * i + 3) 5 (by decide)]
    simp only [Nat.reduceSub, Nat.reducePow]
    omega

theorem un64_bits (T s : List UInt8) : (List.range (6 * s.length / 8)).map (fun m => UInt8.ofNat (grp (nb (num T 64 s) 6) (8 * m) 8)) = un64 T s := by
  unfold un64 n8
  congr 1
  funext m
  rw [six_bytes _ (num_lt (by decide) s)]
end Go.Proofs.YtimbhneegphhbaaGreatDoor.Rad

namespace Go.Proofs.YtimbhneegphhbaaGreatDoor.radw
open Go.ChangeShapes Go.WideShapes Go.ChangeAt Go.RowKit Go.Proofs.YtimbhneegphhbaaGreatDoor.common

set_option maxHeartbeats 400000 in
theorem place_any (c : UInt8) (A : ByteArray) (T : List UInt8) (n : Nat) (hT : Rad.Good T n) (hA : A.data.toList = T) (hn : n ≤ 64) (w : World) :
    Calls Tryz.prog 111 #[.int .u8 (c.toNat : Int), .string A] w fun e w' => e = .returned (.int .i64 ((Rad.rd T n c : Nat) - 1 : Int)) ∧ w' = w := by
  have hAs : A.size = n := by rw [← len_list, hA, hT.len]
  have HA := hide hA
  have HT := hide hT
  clear hA hT
  go_enter Tryz.func111, Tryz.ntmps111
  go_wp2
  go_loop [5] (fun i => ∃ k : Nat, k ≤ n ∧ i = .int .i64 k ∧ ∀ j, j < k → T.getD j 0 ≠ c) (fun i => n - (intOf i).toNat)
  case atStart => exact ⟨0, Nat.zero_le _, rfl, fun j hj => by omega⟩
  case round =>
    obtain ⟨k, hk, rfl, hall⟩ := hrel
    have HL := hide hall
    clear hall
    by_cases hlt : k < n
    · have hki : (k : Int) < (n : Int) := by omega
      have hk2 : k < A.size := by omega
      have hat := list_at HA.out k hk2
      have HAT := hide hat
      clear hat
      by_cases heq : A[k] = c
      · have hr : Hid ((k : Int) = ((Rad.rd T n c : Nat) : Int) - 1) := by
          show _ = _
          have := HT.out.back k hlt
          rw [← HAT.out, heq] at this
          omega
        go_wp2
        go_ret
        exact ⟨by rw [← hr.out]; rfl, rfl⟩
      · have hne : ¬ (A[k].toNat : Int) = (c.toNat : Int) := fun h => heq (UInt8.toNat_inj.1 (by omega))
        have HNE := hide heq
        clear heq
        go_wp2
        go_round
        case rel =>
          refine ⟨k + 1, by omega, by go_num, fun j hj => ?_⟩
          by_cases hjk : j = k
          · subst hjk; rw [← HAT.out]; exact HNE.out
          · exact HL.out j (by omega)
        case measure => simp [intOf]; omega
    · obtain rfl : k = n := by omega
      have hr : Hid (Rad.rd T k c = 0) := Rad.rd_none T k c HL.out
      go_wp2
      go_ret
      exact ⟨by rw [hr.out]; rfl, rfl⟩

theorem div_bit2 (c K : Nat) (hc : c < 256) : (wrap64 ((c : Int) / (K : Int))).tmod 2 = ((c / K % 2 : Nat) : Int) := by
  have h1 : c / K ≤ c := Nat.div_le_self c K
  rw [← Int.natCast_ediv]
  generalize c / K = q at *
  have e2 : wrap64 (q : Int) = (q : Int) := by unfold wrap64; omega
  rw [e2, Int.tmod_eq_emod_of_nonneg (by omega)]
  omega

/-- the bytes of a row of bits -/
def bys (f : Nat → Nat) (m : Nat) : List UInt8 := (List.range m).map fun j => UInt8.ofNat (Rad.grp f (8 * j) 8)
theorem bys_succ (f : Nat → Nat) (m : Nat) : bys f (m + 1) = bys f m ++ [UInt8.ofNat (Rad.grp f (8 * m) 8)] := by unfold bys; rw [List.range_succ, List.map_append]; rfl
theorem bys_len (f : Nat → Nat) (m : Nat) : (bys f m).length = m := by simp [bys]

end Go.Proofs.YtimbhneegphhbaaGreatDoor.radw
