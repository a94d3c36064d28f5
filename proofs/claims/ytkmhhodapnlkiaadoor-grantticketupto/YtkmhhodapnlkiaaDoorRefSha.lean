import Derived.Test.YtkmhhodapnlkiaaDoorShaWords
import Derived.Test.YtkmhhodapnlkiaaDoorRanges
namespace Go.Proofs.YtkmhhodapnlkiaaDoor.refw
open Go.ChangeShapes Go.WideShapes Go.ChangeAt Go.RowKit Go.Proofs.YtkmhhodapnlkiaaDoor.common Go.Proofs.YtkmhhodapnlkiaaDoor.shaw

theorem rot_7 (x : BitVec 32) (w : World) : Calls Tryd.prog 36 #[V x, .int .u64 7] w fun e w' => e = .returned (V (Sha.rr x 7)) ∧ w' = w := by
  have ho : bits .or .u32 ((x.toNat : Int) / 128) ((x.toNat : Int) * 33554432 % 4294967296) = ((Sha.rr x 7).toNat : Int) := by
    have h1 := b_shl x 25
    have h2 := b_shr x 7
    have e1 : (2 : Int) ^ 25 = 33554432 := by decide
    have e2 : (2 : Int) ^ 7 = 128 := by decide
    rw [e1] at h1
    rw [e2] at h2
    rw [h1, h2, b_or]
    rfl
  go_enter Tryd.func36, Tryd.ntmps36
  go_wp2
  go_ret
  exact ⟨rfl, rfl⟩

theorem rot_18 (x : BitVec 32) (w : World) : Calls Tryd.prog 36 #[V x, .int .u64 18] w fun e w' => e = .returned (V (Sha.rr x 18)) ∧ w' = w := by
  have ho : bits .or .u32 ((x.toNat : Int) / 262144) ((x.toNat : Int) * 16384 % 4294967296) = ((Sha.rr x 18).toNat : Int) := by
    have h1 := b_shl x 14
    have h2 := b_shr x 18
    have e1 : (2 : Int) ^ 14 = 16384 := by decide
    have e2 : (2 : Int) ^ 18 = 262144 := by decide
    rw [e1] at h1
    rw [e2] at h2
    rw [h1, h2, b_or]
    rfl
  go_enter Tryd.func36, Tryd.ntmps36
  go_wp2
  go_ret
  exact ⟨rfl, rfl⟩

theorem rot_17 (x : BitVec 32) (w : World) : Calls Tryd.prog 36 #[V x, .int .u64 17] w fun e w' => e = .returned (V (Sha.rr x 17)) ∧ w' = w := by
  have ho : bits .or .u32 ((x.toNat : Int) / 131072) ((x.toNat : Int) * 32768 % 4294967296) = ((Sha.rr x 17).toNat : Int) := by
    have h1 := b_shl x 15
    have h2 := b_shr x 17
    have e1 : (2 : Int) ^ 15 = 32768 := by decide
    have e2 : (2 : Int) ^ 17 = 131072 := by decide
    rw [e1] at h1
    rw [e2] at h2
    rw [h1, h2, b_or]
    rfl
  go_enter Tryd.func36, Tryd.ntmps36
  go_wp2
  go_ret
  exact ⟨rfl, rfl⟩

theorem rot_19 (x : BitVec 32) (w : World) : Calls Tryd.prog 36 #[V x, .int .u64 19] w fun e w' => e = .returned (V (Sha.rr x 19)) ∧ w' = w := by
  have ho : bits .or .u32 ((x.toNat : Int) / 524288) ((x.toNat : Int) * 8192 % 4294967296) = ((Sha.rr x 19).toNat : Int) := by
    have h1 := b_shl x 13
    have h2 := b_shr x 19
    have e1 : (2 : Int) ^ 13 = 8192 := by decide
    have e2 : (2 : Int) ^ 19 = 524288 := by decide
    rw [e1] at h1
    rw [e2] at h2
    rw [h1, h2, b_or]
    rfl
  go_enter Tryd.func36, Tryd.ntmps36
  go_wp2
  go_ret
  exact ⟨rfl, rfl⟩

theorem rot_2 (x : BitVec 32) (w : World) : Calls Tryd.prog 36 #[V x, .int .u64 2] w fun e w' => e = .returned (V (Sha.rr x 2)) ∧ w' = w := by
  have ho : bits .or .u32 ((x.toNat : Int) / 4) ((x.toNat : Int) * 1073741824 % 4294967296) = ((Sha.rr x 2).toNat : Int) := by
    have h1 := b_shl x 30
    have h2 := b_shr x 2
    have e1 : (2 : Int) ^ 30 = 1073741824 := by decide
    have e2 : (2 : Int) ^ 2 = 4 := by decide
    rw [e1] at h1
    rw [e2] at h2
    rw [h1, h2, b_or]
    rfl
  go_enter Tryd.func36, Tryd.ntmps36
  go_wp2
  go_ret
  exact ⟨rfl, rfl⟩

theorem rot_13 (x : BitVec 32) (w : World) : Calls Tryd.prog 36 #[V x, .int .u64 13] w fun e w' => e = .returned (V (Sha.rr x 13)) ∧ w' = w := by
  have ho : bits .or .u32 ((x.toNat : Int) / 8192) ((x.toNat : Int) * 524288 % 4294967296) = ((Sha.rr x 13).toNat : Int) := by
    have h1 := b_shl x 19
    have h2 := b_shr x 13
    have e1 : (2 : Int) ^ 19 = 524288 := by decide
    have e2 : (2 : Int) ^ 13 = 8192 := by decide
    rw [e1] at h1
    rw [e2] at h2
    rw [h1, h2, b_or]
    rfl
  go_enter Tryd.func36, Tryd.ntmps36
  go_wp2
  go_ret
  exact ⟨rfl, rfl⟩

theorem rot_22 (x : BitVec 32) (w : World) : Calls Tryd.prog 36 #[V x, .int .u64 22] w fun e w' => e = .returned (V (Sha.rr x 22)) ∧ w' = w := by
  have ho : bits .or .u32 ((x.toNat : Int) / 4194304) ((x.toNat : Int) * 1024 % 4294967296) = ((Sha.rr x 22).toNat : Int) := by
    have h1 := b_shl x 10
    have h2 := b_shr x 22
    have e1 : (2 : Int) ^ 10 = 1024 := by decide
    have e2 : (2 : Int) ^ 22 = 4194304 := by decide
    rw [e1] at h1
    rw [e2] at h2
    rw [h1, h2, b_or]
    rfl
  go_enter Tryd.func36, Tryd.ntmps36
  go_wp2
  go_ret
  exact ⟨rfl, rfl⟩

theorem rot_6 (x : BitVec 32) (w : World) : Calls Tryd.prog 36 #[V x, .int .u64 6] w fun e w' => e = .returned (V (Sha.rr x 6)) ∧ w' = w := by
  have ho : bits .or .u32 ((x.toNat : Int) / 64) ((x.toNat : Int) * 67108864 % 4294967296) = ((Sha.rr x 6).toNat : Int) := by
    have h1 := b_shl x 26
    have h2 := b_shr x 6
    have e1 : (2 : Int) ^ 26 = 67108864 := by decide
    have e2 : (2 : Int) ^ 6 = 64 := by decide
    rw [e1] at h1
    rw [e2] at h2
    rw [h1, h2, b_or]
    rfl
  go_enter Tryd.func36, Tryd.ntmps36
  go_wp2
  go_ret
  exact ⟨rfl, rfl⟩

theorem rot_11 (x : BitVec 32) (w : World) : Calls Tryd.prog 36 #[V x, .int .u64 11] w fun e w' => e = .returned (V (Sha.rr x 11)) ∧ w' = w := by
  have ho : bits .or .u32 ((x.toNat : Int) / 2048) ((x.toNat : Int) * 2097152 % 4294967296) = ((Sha.rr x 11).toNat : Int) := by
    have h1 := b_shl x 21
    have h2 := b_shr x 11
    have e1 : (2 : Int) ^ 21 = 2097152 := by decide
    have e2 : (2 : Int) ^ 11 = 2048 := by decide
    rw [e1] at h1
    rw [e2] at h2
    rw [h1, h2, b_or]
    rfl
  go_enter Tryd.func36, Tryd.ntmps36
  go_wp2
  go_ret
  exact ⟨rfl, rfl⟩

theorem rot_25 (x : BitVec 32) (w : World) : Calls Tryd.prog 36 #[V x, .int .u64 25] w fun e w' => e = .returned (V (Sha.rr x 25)) ∧ w' = w := by
  have ho : bits .or .u32 ((x.toNat : Int) / 33554432) ((x.toNat : Int) * 128 % 4294967296) = ((Sha.rr x 25).toNat : Int) := by
    have h1 := b_shl x 7
    have h2 := b_shr x 25
    have e1 : (2 : Int) ^ 7 = 128 := by decide
    have e2 : (2 : Int) ^ 25 = 33554432 := by decide
    rw [e1] at h1
    rw [e2] at h2
    rw [h1, h2, b_or]
    rfl
  go_enter Tryd.func36, Tryd.ntmps36
  go_wp2
  go_ret
  exact ⟨rfl, rfl⟩

theorem max_xor (a : BitVec 32) : bits .xor .u32 (a.toNat : Int) 4294967295 = ((~~~a).toNat : Int) := by
  have h := b_xor a 4294967295#32
  have e : ((4294967295#32).toNat : Int) = 4294967295 := by decide
  rw [e] at h
  rw [h]
  have : a ^^^ 4294967295#32 = ~~~a := by
    apply BitVec.eq_of_getLsbD_eq; intro i hi
    have f : (4294967295#32).getLsbD i = true := by
      have : ∀ k : Fin 32, (4294967295#32).getLsbD k.val = true := by decide
      exact this ⟨i, hi⟩
    simp only [BitVec.getLsbD_xor, f, BitVec.getLsbD_not, hi]; simp
  rw [this]

set_option maxRecDepth 100000 in
set_option maxHeartbeats 1600000 in
theorem step_core (va vb vc vd ve vf vg vh k x r1 r2 r3 hi1 e1 e2 e3 ch s1 s2 s3 t1 q1 q2 q3 lo m1 m2 m3 m4 maj t2 na ne : Nat) (w : World)
    (c1 : ∀ w, Calls Tryd.prog 36 #[.int .u32 (ve : Int), .int .u64 6] w fun e w' => e = .returned (.int .u32 (r1 : Int)) ∧ w' = w)
    (c2 : ∀ w, Calls Tryd.prog 36 #[.int .u32 (ve : Int), .int .u64 11] w fun e w' => e = .returned (.int .u32 (r2 : Int)) ∧ w' = w)
    (c3 : ∀ w, Calls Tryd.prog 36 #[.int .u32 (ve : Int), .int .u64 25] w fun e w' => e = .returned (.int .u32 (r3 : Int)) ∧ w' = w)
    (c4 : ∀ w, Calls Tryd.prog 36 #[.int .u32 (va : Int), .int .u64 2] w fun e w' => e = .returned (.int .u32 (q1 : Int)) ∧ w' = w)
    (c5 : ∀ w, Calls Tryd.prog 36 #[.int .u32 (va : Int), .int .u64 13] w fun e w' => e = .returned (.int .u32 (q2 : Int)) ∧ w' = w)
    (c6 : ∀ w, Calls Tryd.prog 36 #[.int .u32 (va : Int), .int .u64 22] w fun e w' => e = .returned (.int .u32 (q3 : Int)) ∧ w' = w)
    (x1 : bits .xor .u32 (r1 : Int) (r2 : Int) = (hi1 : Int)) (x2 : bits .xor .u32 (hi1 : Int) (r3 : Int) = (e1 : Int))
    (x3 : bits .and .u32 (ve : Int) (vf : Int) = (e2 : Int)) (x4 : bits .xor .u32 (ve : Int) 4294967295 = (e3 : Int)) (x5 : bits .and .u32 (e3 : Int) (vg : Int) = (ch : Int)) (x6 : bits .xor .u32 (e2 : Int) (ch : Int) = (s1 : Int))
    (x7 : ((vh : Int) + (e1 : Int)) % 4294967296 = (s2 : Int)) (x8 : ((s2 : Int) + (s1 : Int)) % 4294967296 = (s3 : Int)) (x9 : ((s3 : Int) + (k : Int)) % 4294967296 = (m4 : Int)) (x10 : ((m4 : Int) + (x : Int)) % 4294967296 = (t1 : Int))
    (y1 : bits .xor .u32 (q1 : Int) (q2 : Int) = (lo : Int)) (y2 : bits .xor .u32 (lo : Int) (q3 : Int) = (m1 : Int))
    (y3 : bits .and .u32 (va : Int) (vb : Int) = (m2 : Int)) (y4 : bits .and .u32 (va : Int) (vc : Int) = (m3 : Int)) (y5 : bits .xor .u32 (m2 : Int) (m3 : Int) = (maj : Int)) (y6 : bits .and .u32 (vb : Int) (vc : Int) = (na : Int)) (y7 : bits .xor .u32 (maj : Int) (na : Int) = (ne : Int))
    (y8 : ((m1 : Int) + (ne : Int)) % 4294967296 = (t2 : Int)) (oa oe : Nat) (z1 : ((t1 : Int) + (t2 : Int)) % 4294967296 = (oa : Int)) (z2 : ((vd : Int) + (t1 : Int)) % 4294967296 = (oe : Int)) :
    Calls Tryd.prog 32 #[.agg #[.int .u32 (va : Int), .int .u32 (vb : Int), .int .u32 (vc : Int), .int .u32 (vd : Int), .int .u32 (ve : Int), .int .u32 (vf : Int), .int .u32 (vg : Int), .int .u32 (vh : Int)], .int .u32 (k : Int), .int .u32 (x : Int)] w fun e w' =>
      e = .returned (.agg #[.int .u32 (oa : Int), .int .u32 (va : Int), .int .u32 (vb : Int), .int .u32 (vc : Int), .int .u32 (oe : Int), .int .u32 (ve : Int), .int .u32 (vf : Int), .int .u32 (vg : Int)]) ∧ Below w.heap.size w w' := by
  have C1 := hide c1
  have C2 := hide c2
  have C3 := hide c3
  have C4 := hide c4
  have C5 := hide c5
  have C6 := hide c6
  clear c1 c2 c3 c4 c5 c6
  go_enter Tryd.func32, Tryd.ntmps32
  go_wp2_with fail
  refine (C1.out _).mono ?_
  rintro e w' ⟨rfl, rfl⟩
  go_wp2_with fail
  refine (C2.out _).mono ?_
  rintro e w' ⟨rfl, rfl⟩
  go_wp2_with fail
  refine (C3.out _).mono ?_
  rintro e w' ⟨rfl, rfl⟩
  go_wp2_with fail
  refine (C4.out _).mono ?_
  rintro e w' ⟨rfl, rfl⟩
  go_wp2_with fail
  refine (C5.out _).mono ?_
  rintro e w' ⟨rfl, rfl⟩
  go_wp2_with fail
  refine (C6.out _).mono ?_
  rintro e w' ⟨rfl, rfl⟩
  go_wp2_with fail
  exact bodyPost_ret (v := .agg #[.int .u32 (oa : Int), .int .u32 (va : Int), .int .u32 (vb : Int), .int .u32 (vc : Int), .int .u32 (oe : Int), .int .u32 (ve : Int), .int .u32 (vf : Int), .int .u32 (vg : Int)]) (by simp [results, Tryd.results32, go_sem]) rfl
    ⟨rfl, (((Below.refl _ _).alloc (Nat.le_refl _) _).alloc (by simp) _).alloc (by simp; omega) _⟩

theorem step_any (v : Sha.St) (k x : BitVec 32) (w : World) :
    Calls Tryd.prog 32 #[.agg #[V v.a, V v.b, V v.c, V v.d, V v.e, V v.f, V v.g, V v.h], V k, V x] w fun e w' => e = .returned (.agg #[V (Sha.round v k x).a, V (Sha.round v k x).b, V (Sha.round v k x).c, V (Sha.round v k x).d, V (Sha.round v k x).e, V (Sha.round v k x).f, V (Sha.round v k x).g, V (Sha.round v k x).h]) ∧ Below w.heap.size w w' :=
  step_core v.a.toNat v.b.toNat v.c.toNat v.d.toNat v.e.toNat v.f.toNat v.g.toNat v.h.toNat k.toNat x.toNat (Sha.rr v.e 6).toNat (Sha.rr v.e 11).toNat (Sha.rr v.e 25).toNat (Sha.rr v.e 6 ^^^ Sha.rr v.e 11).toNat (Sha.S1 v.e).toNat
    (v.e &&& v.f).toNat (~~~v.e).toNat (~~~v.e &&& v.g).toNat (Sha.ch v.e v.f v.g).toNat (v.h + Sha.S1 v.e).toNat (v.h + Sha.S1 v.e + Sha.ch v.e v.f v.g).toNat (Sha.t1 v k x).toNat
    (Sha.rr v.a 2).toNat (Sha.rr v.a 13).toNat (Sha.rr v.a 22).toNat (Sha.rr v.a 2 ^^^ Sha.rr v.a 13).toNat (Sha.S0 v.a).toNat (v.a &&& v.b).toNat (v.a &&& v.c).toNat (v.h + Sha.S1 v.e + Sha.ch v.e v.f v.g + k).toNat ((v.a &&& v.b) ^^^ (v.a &&& v.c)).toNat (Sha.t2 v).toNat (v.b &&& v.c).toNat (Sha.maj v.a v.b v.c).toNat w
    (rot_6 v.e) (rot_11 v.e) (rot_25 v.e) (rot_2 v.a) (rot_13 v.a) (rot_22 v.a) (b_xor _ _) (b_xor _ _) (b_and _ _) (max_xor _) (b_and _ _) (b_xor _ _) (b_add _ _) (b_add _ _) (b_add _ _) (b_add _ _)
    (b_xor _ _) (b_xor _ _) (b_and _ _) (b_and _ _) (b_xor _ _) (b_and _ _) (b_xor _ _) (b_add _ _) (Sha.t1 v k x + Sha.t2 v).toNat (v.d + Sha.t1 v k x).toNat (b_add _ _) (b_add _ _)

end Go.Proofs.YtkmhhodapnlkiaaDoor.refw
