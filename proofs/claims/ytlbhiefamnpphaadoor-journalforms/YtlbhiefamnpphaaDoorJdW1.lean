import Derived.Test.YtlbhiefamnpphaaDoorJdMath
import Derived.Test.YtlbhiefamnpphaaDoorJcNl
import Derived.Test.YtlbhiefamnpphaaDoorJdLays
import Derived.Lib.ItoaLen
import Derived.Shelf.Strconv.Itoa3
import Derived.Lib.AppendIntMem
namespace Go.Proofs.YtlbhiefamnpphaaDoor.jc
open Go.ChangeShapes Go.WideShapes Go.ChangeAt Go.RowKit Go.Proofs.YtlbhiefamnpphaaDoor.common Go.Proofs.YtlbhiefamnpphaaDoor.Jc Go.Shelf
attribute [local go_sem ↓] Go.wp_at_zero Go.wp_at_succ

abbrev Pow (b : Nat) (w : World) : Prop := Lib.TabBelow Tryd.prog b w "internal/strconv.uint64pow10" .u64 Lib.pow10Tab
theorem Pow.up {b : Nat} {w w' : World} (h : Pow b w) (hb : Below b w w') (hl : b ≤ w'.heap.size) : Pow w'.heap.size w' := fun w'' h'' => h w'' (hb.trans (h''.mono hl))
/-- bytes as a text -/
def tx (l : List UInt8) : ByteArray := ⟨l.toArray⟩
theorem tx_size (l : List UInt8) : (tx l).size = l.length := by simp [tx, ByteArray.size]
theorem tx_app (l m : List UInt8) : tx l ++ tx m = tx (l ++ m) := by
  apply ByteArray.ext
  simp [tx]
theorem itoa_any (n : Nat) (w : World) (hn : n ≤ 9223372036854775807) (hp : Pow w.heap.size w) :
    Calls Tryd.prog 33 #[.int .i64 (n : Int)] w fun e w' => e = .returned (.string (tx (Lib.decDigits n))) ∧ Below w.heap.size w w' := by
  refine (Any.strconv_Itoa jl.lays171 (n : Int) (by omega) (by omega) w (hp w (Below.refl _ _))).mono ?_
  rintro e w' ⟨rfl, k, os, rfl⟩
  exact ⟨by rw [itoa_nat]; rfl, Lib.below_grow _ w (Nat.le_refl _) k os⟩
set_option maxRecDepth 100000 in
theorem rep_zero (w : World) : Calls Tryd.prog 34 #[.string ⟨#[48]⟩, .int .i64 0] w fun e w' => e = .returned (.string ⟨#[]⟩) ∧ w' = w := by
  go_enter Tryd.func34, Tryd.ntmps34
  go_wp2
  go_ret
  exact ⟨rfl, rfl⟩
set_option maxRecDepth 100000 in
theorem rep_one (w : World) : Calls Tryd.prog 34 #[.string ⟨#[48]⟩, .int .i64 1] w fun e w' => e = .returned (.string ⟨#[48]⟩) ∧ w' = w := by
  go_enter Tryd.func34, Tryd.ntmps34
  go_wp2
  go_ret
  exact ⟨rfl, rfl⟩
theorem rep_z (I : Int) (h : I = 0) (w : World) : Calls Tryd.prog 34 #[.string ⟨#[48]⟩, .int .i64 I] w fun e w' => e = .returned (.string ⟨#[]⟩) ∧ w' = w := by subst h; exact rep_zero w
theorem rep_o (I : Int) (h : I = 1) (w : World) : Calls Tryd.prog 34 #[.string ⟨#[48]⟩, .int .i64 I] w fun e w' => e = .returned (.string ⟨#[48]⟩) ∧ w' = w := by subst h; exact rep_one w
/-- a sum of two texts -/
theorem sum_tx (a b c : ByteArray) (h : a ++ b = c) (hs : a.size + b.size ≤ 9223372036854775807) : ∀ X : World, (Op.stringOp .add a b).run Tryd.prog X = .ok (.string c) X := fun X => h ▸ run_string_add_sum X _ _ hs
/-- how many noughts are wanted -/
theorem pad_many (k n : Nat) (h : (k = 2 ∧ n < 100) ∨ (k = 4 ∧ 1000 ≤ n ∧ n < 10000)) : ∃ j, j ≤ 1 ∧ (Lib.decDigits n).length + j = k ∧ List.replicate j 48 ++ Lib.decDigits n = dg k n := by
  have hk : 1 ≤ k ∧ n < 10 ^ k := by
    rcases h with ⟨rfl, h⟩ | ⟨rfl, h1, h2⟩
    · exact ⟨by omega, h⟩
    · exact ⟨by omega, h2⟩
  obtain ⟨e, l⟩ := dg_pad k n hk.1 hk.2
  refine ⟨k - (Lib.decDigits n).length, ?_, by omega, e.symm⟩
  rw [Lib.decDigits_length]
  rcases h with ⟨rfl, h⟩ | ⟨rfl, h1, h2⟩
  · have := Lib.nDigits_pos n; omega
  · rw [Lib.nDigits_unique 3 n (by omega) (by omega)]; omega

set_option maxRecDepth 100000 in
set_option maxHeartbeats 1600000 in
theorem digitsOf_any (k n : Nat) (w : World) (hp : Pow w.heap.size w) (h : (k = 2 ∧ n < 100) ∨ (k = 4 ∧ 1000 ≤ n ∧ n < 10000)) :
    Calls Tryd.prog 22 #[.int .i64 (n : Int), .int .i64 (k : Int)] w fun e w' => e = .returned (.string (tx (dg k n))) ∧ Below w.heap.size w w' := by
  obtain ⟨j, j1, jk, je⟩ := pad_many k n h
  have HI := hide (itoa_any n w (by omega) hp)
  obtain ⟨T, hT⟩ : ∃ T, T = tx (Lib.decDigits n) := ⟨_, rfl⟩
  have hs : T.size + j = k := by rw [hT, tx_size]; exact jk
  have hk4 : k ≤ 4 := by omega
  obtain ⟨R, hR⟩ : ∃ R, R = tx (dg k n) := ⟨_, rfl⟩
  have HE : Hid (tx (List.replicate j 48) ++ T = R) := by show _ = _; rw [hT, hR, tx_app, je]
  rw [← hT] at HI
  rw [← hR]
  clear hT hR je jk h hp
  match j, j1 with
  | 0, _ =>
    have e0 : (⟨#[]⟩ : ByteArray) ++ T = R := HE.out
    have HS := sum_tx ⟨#[]⟩ T R e0 (by show 0 + T.size ≤ _; omega)
    have HP := hide (fun W => rep_z ((k : Int) - (T.size : Int)) (by omega) W)
    have t0 : T.size ≤ k := by omega
    clear HE j1 e0 hs
    go_enter Tryd.func22, Tryd.ntmps22
    go_wp2_with fail
    refine HI.out.mono ?_
    rintro e w1 ⟨rfl, b1⟩
    go_wp2_with fail
    refine (HP.out _).mono ?_
    rintro e w2 ⟨rfl, rfl⟩
    go_wp2_with fail
    go_ret
    exact ⟨rfl, b1⟩
  | 1, _ =>
    have e0 : (⟨#[48]⟩ : ByteArray) ++ T = R := HE.out
    have HS := sum_tx ⟨#[48]⟩ T R e0 (by show 1 + T.size ≤ _; omega)
    have HP := hide (fun W => rep_o ((k : Int) - (T.size : Int)) (by omega) W)
    have t0 : T.size ≤ k := by omega
    clear HE j1 e0 hs
    go_enter Tryd.func22, Tryd.ntmps22
    go_wp2_with fail
    refine HI.out.mono ?_
    rintro e w1 ⟨rfl, b1⟩
    go_wp2_with fail
    refine (HP.out _).mono ?_
    rintro e w2 ⟨rfl, rfl⟩
    go_wp2_with fail
    go_ret
    exact ⟨rfl, b1⟩

/-- three texts with colons -/
theorem tim_sum (A B C : List UInt8) : ∃ Z1 Z2 Z3 : ByteArray, tx A ++ ⟨#[58]⟩ = Z1 ∧ Z1 ++ tx B = Z2 ∧ Z2 ++ ⟨#[58]⟩ = Z3 ∧ Z3 ++ tx C = tx (A ++ [58] ++ B ++ [58] ++ C) ∧ Z1.size = A.length + 1 ∧ Z2.size = A.length + 1 + B.length ∧ Z3.size = A.length + 1 + B.length + 1 := by
  refine ⟨tx (A ++ [58]), tx (A ++ [58] ++ B), tx (A ++ [58] ++ B ++ [58]), ?_, ?_, ?_, ?_, ?_, ?_, ?_⟩
  · exact tx_app _ _
  · exact tx_app _ _
  · exact tx_app _ _
  · exact tx_app _ _
  · rw [tx_size]; simp
  · rw [tx_size]; simp; omega
  · rw [tx_size]; simp; omega

set_option maxRecDepth 100000 in
set_option maxHeartbeats 3200000 in
theorem timeOf_any (x : Dt) (w : World) (hp : Pow w.heap.size w) (h1 : x.h < 100) (i1 : x.i < 100) (s1 : x.s < 100) :
    Calls Tryd.prog 23 #[dv x] w fun e w' => e = .returned (.string (tx (tmL x))) ∧ Below w.heap.size w w' := by
  obtain ⟨V, hW⟩ : ∃ V, V = w.alloc (ob x) := ⟨_, rfl⟩
  have BA : Below w.heap.size w V := by rw [hW]; exact (Below.refl _ _).alloc (Nat.le_refl _) _
  have hsz : w.heap.size < V.heap.size := by rw [hW, World.size_alloc]; omega
  have o1 : V.heap[w.heap.size]? = some (ob x) := by rw [hW]; exact heap_new w _
  obtain ⟨fc, hf, hg⟩ := rc.class_of V
  have r3 := fun n => (obc (ob_fr o1 (hf n))).2.2.2.1
  have r4 := fun n => (obc (ob_fr o1 (hf n))).2.2.2.2.1
  have r5 := fun n => (obc (ob_fr o1 (hf n))).2.2.2.2.2.1
  have HB0 := hide (fun n => keepW BA (hf n) (Nat.le_of_lt hsz))
  have HW0 := hide hW
  have HD : Hid (V.drew = fc V.drew) := (hg _ (Below.refl _ _).drew).symm
  haveI : Nonempty World := ⟨w⟩
  have HDG : Hid (∀ k : Nat, k < 100 → ∀ n, Calls Tryd.prog 22 #[.int .i64 (k : Int), .int .i64 2] (fc n) fun e w' => e = .returned (.string (tx (dg 2 k))) ∧ ∃ m, w' = fc m) := fun k hk n => (digitsOf_any 2 k (fc n) (hp.up (HB0.out n) (HB0.out n).size) (Or.inl ⟨rfl, hk⟩)).mono (fun _ w1 hh => ⟨hh.1, w1, (hg _ (keepW (hf n) hh.2 (hf n).size)).symm⟩)
  have H3 := hide (HDG.out x.h h1)
  have H4 := hide (HDG.out x.i i1)
  have H5 := hide (HDG.out x.s s1)
  obtain ⟨Z1, Z2, Z3, e1, e2, e3, e4, z1, z2, z3⟩ := tim_sum (dg 2 x.h) (dg 2 x.i) (dg 2 x.s)
  have t3 : (tx (dg 2 x.h)).size = 2 := by rw [tx_size, dg_len]
  have t4 : (tx (dg 2 x.i)).size = 2 := by rw [tx_size, dg_len]
  have t5 : (tx (dg 2 x.s)).size = 2 := by rw [tx_size, dg_len]
  rw [dg_len] at z1
  rw [dg_len, dg_len] at z2 z3
  have u1 := sum_tx _ _ _ e1 (by rw [t3]; show 2 + 1 ≤ _; omega)
  have u2 := sum_tx _ _ _ e2 (by omega)
  have u3 := sum_tx _ _ _ e3 (by rw [z2]; show 2 + 1 + 2 + 1 ≤ _; omega)
  have u4 := sum_tx _ _ _ e4 (by omega)
  have HR : Hid (tx (tmL x) = tx (dg 2 x.h ++ [58] ++ dg 2 x.i ++ [58] ++ dg 2 x.s)) := rfl
  generalize tx (dg 2 x.h ++ [58] ++ dg 2 x.i ++ [58] ++ dg 2 x.s) = R at *
  generalize tx (dg 2 x.h) = A at *
  generalize tx (dg 2 x.i) = B at *
  generalize tx (dg 2 x.s) = C at *
  clear hW BA hf hg hsz o1 HDG e1 e2 e3 e4 z1 z2 z3 t3 t4 t5 h1 i1 s1 hp
  unfold dv
  go_enter Tryd.func23, Tryd.ntmps23
  go_wp2_with fail
  rw [← HW0.out]
  try simp only [List.append_eq, List.cons_append, List.nil_append]
  refine rc.wp_region_cls fc (by kernel_rfl) (by kernel_rfl) _ HD.out ?_
  repeat (go_big_quiet_step (first | with_reducible exact H3.out _ | with_reducible exact H4.out _ | with_reducible exact H5.out _))
  refine wpQuiet_nil ?_
  rintro _ ⟨nq, rfl⟩
  go_wp2_with fail
  go_ret
  exact ⟨by rw [HR.out]; rfl, HB0.out nq⟩
end Go.Proofs.YtlbhiefamnpphaaDoor.jc
