import Derived.Test.YtocpikgcbibcoaaGreatDoorMRcKept
import Derived.Test.YtocpikgcbibcoaaGreatDoorMRcWk
import Derived.Test.YtocpikgcbibcoaaGreatDoorRows
import Derived.Test.YtocpikgcbibcoaaGreatDoorMRdKit
import Derived.WalkKit
import Derived.WalkSpells
import Derived.WalkLawsBesides
import Derived.Outline
import Derived.Laws.BitsAllLaws
namespace Go.Proofs.YtocpikgcbibcoaaGreatDoor.rc
open Go.ChangeShapes Go.WideShapes Go.ChangeAt Go.RowKit Go.Proofs.YtocpikgcbibcoaaGreatDoor.common Go.Proofs.YtocpikgcbibcoaaGreatDoor.dk

/-- the name that tidy makes of a text -/
def nmT (s : ByteArray) : ByteArray := ⟨(110 :: kpL s.data.toList 33 126 0 0 63).toArray⟩
theorem nm_add (s : ByteArray) : (⟨#[110]⟩ : ByteArray) ++ (⟨(kpL s.data.toList 33 126 0 0 63).toArray⟩ : ByteArray) = nmT s := by
  unfold nmT
  apply ByteArray.ext
  apply Array.ext'
  simp
set_option maxRecDepth 100000 in
theorem nameOf_any (s : ByteArray) (w : World) (hs : s.size ≤ 4611686018427387904) :
    Calls Tryz.prog 33 #[.string s] w fun e w' => e = .returned (.string (nmT s)) ∧ Below w.heap.size w w' := by
  have H1 := hide (kept_any s 33 126 0 0 63 w hs (by decide))
  have HA := hide (nm_add s)
  have HL : Hid ((⟨(kpL s.data.toList 33 126 0 0 63).toArray⟩ : ByteArray).size ≤ 63) := by
    have := kp_len s.data.toList 33 126 0 0 63
    show Array.size _ ≤ 63
    simpa using this
  generalize (⟨(kpL s.data.toList 33 126 0 0 63).toArray⟩ : ByteArray) = D at *
  go_enter Tryz.func33, Tryz.ntmps33
  go_wp2_with fail
  refine H1.out.mono ?_
  rintro x w1 ⟨rfl, h1⟩
  have B1 := hide h1
  clear h1
  have hl := HL.out
  go_wp2
  go_ret
  exact ⟨by rw [← HA.out]; rfl, B1.out⟩
end Go.Proofs.YtocpikgcbibcoaaGreatDoor.rc

namespace Go.Proofs.YtocpikgcbibcoaaGreatDoor.pk
open Go.ChangeShapes Go.WideShapes Go.ChangeAt Go.RowKit Go.Proofs.YtocpikgcbibcoaaGreatDoor.common

end Go.Proofs.YtocpikgcbibcoaaGreatDoor.pk

namespace Go.Proofs.YtocpikgcbibcoaaGreatDoor.pk
open Go.ChangeShapes Go.WideShapes Go.ChangeAt Go.RowKit Go.Proofs.YtocpikgcbibcoaaGreatDoor.common

end Go.Proofs.YtocpikgcbibcoaaGreatDoor.pk

namespace Go.Proofs.YtocpikgcbibcoaaGreatDoor.Sha

def rr (x : BitVec 32) (n : Nat) : BitVec 32 := (x >>> n) ||| (x <<< (32 - n))
def s0 (x : BitVec 32) : BitVec 32 := rr x 7 ^^^ rr x 18 ^^^ (x >>> 3)
def s1 (x : BitVec 32) : BitVec 32 := rr x 17 ^^^ rr x 19 ^^^ (x >>> 10)
def S0 (x : BitVec 32) : BitVec 32 := rr x 2 ^^^ rr x 13 ^^^ rr x 22
def S1 (x : BitVec 32) : BitVec 32 := rr x 6 ^^^ rr x 11 ^^^ rr x 25
def ch (e f g : BitVec 32) : BitVec 32 := (e &&& f) ^^^ (~~~e &&& g)
def maj (a b c : BitVec 32) : BitVec 32 := (a &&& b) ^^^ (a &&& c) ^^^ (b &&& c)

/-- eight words -/
structure St where
  a : BitVec 32
  b : BitVec 32
  c : BitVec 32
  d : BitVec 32
  e : BitVec 32
  f : BitVec 32
  g : BitVec 32
  h : BitVec 32

def t1 (v : St) (k w : BitVec 32) : BitVec 32 := v.h + S1 v.e + ch v.e v.f v.g + k + w
def t2 (v : St) : BitVec 32 := S0 v.a + maj v.a v.b v.c
def round (v : St) (k w : BitVec 32) : St := ⟨t1 v k w + t2 v, v.a, v.b, v.c, v.d + t1 v k w, v.e, v.f, v.g⟩
def add (v u : St) : St := ⟨v.a + u.a, v.b + u.b, v.c + u.c, v.d + u.d, v.e + u.e, v.f + u.f, v.g + u.g, v.h + u.h⟩
def words (v : St) : List (BitVec 32) := [v.a, v.b, v.c, v.d, v.e, v.f, v.g, v.h]

def first : St := ⟨0x6a09e667#32, 0xbb67ae85#32, 0x3c6ef372#32, 0xa54ff53a#32, 0x510e527f#32, 0x9b05688c#32, 0x1f83d9ab#32, 0x5be0cd19#32⟩
def K : List (BitVec 32) := [
  0x428a2f98#32, 0x71374491#32, 0xb5c0fbcf#32, 0xe9b5dba5#32, 0x3956c25b#32, 0x59f111f1#32, 0x923f82a4#32, 0xab1c5ed5#32,
  0xd807aa98#32, 0x12835b01#32, 0x243185be#32, 0x550c7dc3#32, 0x72be5d74#32, 0x80deb1fe#32, 0x9bdc06a7#32, 0xc19bf174#32,
  0xe49b69c1#32, 0xefbe4786#32, 0x0fc19dc6#32, 0x240ca1cc#32, 0x2de92c6f#32, 0x4a7484aa#32, 0x5cb0a9dc#32, 0x76f988da#32,
  0x983e5152#32, 0xa831c66d#32, 0xb00327c8#32, 0xbf597fc7#32, 0xc6e00bf3#32, 0xd5a79147#32, 0x06ca6351#32, 0x14292967#32,
  0x27b70a85#32, 0x2e1b2138#32, 0x4d2c6dfc#32, 0x53380d13#32, 0x650a7354#32, 0x766a0abb#32, 0x81c2c92e#32, 0x92722c85#32,
  0xa2bfe8a1#32, 0xa81a664b#32, 0xc24b8b70#32, 0xc76c51a3#32, 0xd192e819#32, 0xd6990624#32, 0xf40e3585#32, 0x106aa070#32,
  0x19a4c116#32, 0x1e376c08#32, 0x2748774c#32, 0x34b0bcb5#32, 0x391c0cb3#32, 0x4ed8aa4a#32, 0x5b9cca4f#32, 0x682e6ff3#32,
  0x748f82ee#32, 0x78a5636f#32, 0x84c87814#32, 0x8cc70208#32, 0x90befffa#32, 0xa4506ceb#32, 0xbef9a3f7#32, 0xc67178f2#32]

/-- a byte as a word -/
def bw (c : UInt8) : BitVec 32 := BitVec.ofNat 32 c.toNat
/-- the t-th word of a piece -/
def word (p : List UInt8) (t : Nat) : BitVec 32 := (bw (p.getD (4 * t) 0) <<< 24) ||| (bw (p.getD (4 * t + 1) 0) <<< 16) ||| (bw (p.getD (4 * t + 2) 0) <<< 8) ||| bw (p.getD (4 * t + 3) 0)
def next (l : List (BitVec 32)) (t : Nat) : BitVec 32 := l.getD (t - 16) 0#32 + s0 (l.getD (t - 15) 0#32) + l.getD (t - 7) 0#32 + s1 (l.getD (t - 2) 0#32)
/-- the first t words that the rounds take in -/
def sched (p : List UInt8) : Nat → List (BitVec 32)
  | 0 => []
  | t + 1 => sched p t ++ [if t < 16 then word p t else next (sched p t) t]
def rounds (v : St) (w : List (BitVec 32)) : Nat → St
  | 0 => v
  | t + 1 => round (rounds v w t) (K.getD t 0#32) (w.getD t 0#32)
/-- the state behind a piece of 64 bytes -/
def comp (v : St) (p : List UInt8) : St := add v (rounds v (sched p 64) 64)
/-- the state behind n pieces of a text -/
def after (l : List UInt8) : Nat → St
  | 0 => first
  | n + 1 => comp (after l n) ((l.drop (64 * n)).take 64)

def wbytes (x : BitVec 32) : List UInt8 := [UInt8.ofNat (x.toNat / 16777216), UInt8.ofNat (x.toNat / 65536), UInt8.ofNat (x.toNat / 256), UInt8.ofNat x.toNat]
def bytes (v : St) : List UInt8 := (words v).flatMap wbytes
/-- what stands behind a text of n bytes in the padded text -/
def padSize (n : Nat) : Nat := 72 - (n + 8) % 64
def padByte (n i : Nat) : UInt8 := if i = 0 then 0x80 else if i + 8 < padSize n then 0 else UInt8.ofNat (8 * n / 2 ^ (8 * (padSize n - 1 - i)))
def padTo (n : Nat) : Nat → List UInt8
  | 0 => []
  | i + 1 => padTo n i ++ [padByte n i]
def pad (n : Nat) : List UInt8 := padTo n (padSize n)
def digest (l : List UInt8) : List UInt8 := bytes (after (l ++ pad l.length) ((l.length + padSize l.length) / 64))

theorem sched_length (p : List UInt8) (t : Nat) : (sched p t).length = t := by
  induction t with
  | zero => rfl
  | succ t ih => simp [sched, ih]

end Go.Proofs.YtocpikgcbibcoaaGreatDoor.Sha

namespace Go.Proofs.YtocpikgcbibcoaaGreatDoor.shaw
open Go.ChangeShapes Go.WideShapes Go.ChangeAt Go.RowKit Go.Proofs.YtocpikgcbibcoaaGreatDoor.common

/-- a word as a value -/
abbrev V (x : BitVec 32) : Value := .int .u32 (x.toNat : Int)

theorem b_xor (a b : BitVec 32) : bits .xor .u32 (a.toNat : Int) (b.toNat : Int) = ((a ^^^ b).toNat : Int) := by
  rw [u32_xor_nat a.toNat b.toNat (by have := a.isLt; omega) (by have := b.isLt; omega), BitVec.toNat_xor]
theorem b_and (a b : BitVec 32) : bits .and .u32 (a.toNat : Int) (b.toNat : Int) = ((a &&& b).toNat : Int) := by
  rw [u32_and_nat a.toNat b.toNat (by have := a.isLt; omega) (by have := b.isLt; omega), BitVec.toNat_and]
theorem b_or (a b : BitVec 32) : bits .or .u32 (a.toNat : Int) (b.toNat : Int) = ((a ||| b).toNat : Int) := by
  rw [u32_or_nat a.toNat b.toNat (by have := a.isLt; omega) (by have := b.isLt; omega), BitVec.toNat_or]
theorem b_add (a b : BitVec 32) : ((a.toNat : Int) + (b.toNat : Int)) % 4294967296 = ((a + b).toNat : Int) := by
  rw [BitVec.toNat_add]; omega
theorem b_shr (x : BitVec 32) (n : Nat) : (x.toNat : Int) / (2 : Int) ^ n = ((x >>> n).toNat : Int) := by
  rw [BitVec.toNat_ushiftRight, Nat.shiftRight_eq_div_pow]; simp
theorem b_shl (x : BitVec 32) (n : Nat) : (x.toNat : Int) * (2 : Int) ^ n % 4294967296 = ((x <<< n).toNat : Int) := by
  rw [BitVec.toNat_shiftLeft, Nat.shiftLeft_eq]
  have : ((x.toNat * 2 ^ n : Nat) : Int) = (x.toNat : Int) * (2 : Int) ^ n := by rw [Int.natCast_mul, Int.natCast_pow]; rfl
  rw [← this]; omega

theorem turn_7 (x : BitVec 32) (w : World) : Calls Tryz.prog 116 #[V x, .int .i64 7] w fun e w' => e = .returned (V (Sha.rr x 7)) ∧ w' = w := by
  have hk : bits .and .u64 (IntKind.u64.wrap (-7)) 31 = 25 := by decide
  have ho : bits .or .u32 ((x.toNat : Int) * 33554432 % 4294967296) ((x.toNat : Int) / 128) = ((Sha.rr x 7).toNat : Int) := by
    have h1 := b_shl x 25
    have h2 := b_shr x 7
    have e1 : (2 : Int) ^ 25 = 33554432 := by decide
    have e2 : (2 : Int) ^ 7 = 128 := by decide
    rw [e1] at h1
    rw [e2] at h2
    rw [h1, h2, b_or, BitVec.or_comm]
    rfl
  go_enter Tryz.func116, Tryz.ntmps116
  go_wp2
  go_ret
  exact ⟨rfl, rfl⟩

theorem turn_18 (x : BitVec 32) (w : World) : Calls Tryz.prog 116 #[V x, .int .i64 18] w fun e w' => e = .returned (V (Sha.rr x 18)) ∧ w' = w := by
  have hk : bits .and .u64 (IntKind.u64.wrap (-18)) 31 = 14 := by decide
  have ho : bits .or .u32 ((x.toNat : Int) * 16384 % 4294967296) ((x.toNat : Int) / 262144) = ((Sha.rr x 18).toNat : Int) := by
    have h1 := b_shl x 14
    have h2 := b_shr x 18
    have e1 : (2 : Int) ^ 14 = 16384 := by decide
    have e2 : (2 : Int) ^ 18 = 262144 := by decide
    rw [e1] at h1
    rw [e2] at h2
    rw [h1, h2, b_or, BitVec.or_comm]
    rfl
  go_enter Tryz.func116, Tryz.ntmps116
  go_wp2
  go_ret
  exact ⟨rfl, rfl⟩

theorem turn_17 (x : BitVec 32) (w : World) : Calls Tryz.prog 116 #[V x, .int .i64 17] w fun e w' => e = .returned (V (Sha.rr x 17)) ∧ w' = w := by
  have hk : bits .and .u64 (IntKind.u64.wrap (-17)) 31 = 15 := by decide
  have ho : bits .or .u32 ((x.toNat : Int) * 32768 % 4294967296) ((x.toNat : Int) / 131072) = ((Sha.rr x 17).toNat : Int) := by
    have h1 := b_shl x 15
    have h2 := b_shr x 17
    have e1 : (2 : Int) ^ 15 = 32768 := by decide
    have e2 : (2 : Int) ^ 17 = 131072 := by decide
    rw [e1] at h1
    rw [e2] at h2
    rw [h1, h2, b_or, BitVec.or_comm]
    rfl
  go_enter Tryz.func116, Tryz.ntmps116
  go_wp2
  go_ret
  exact ⟨rfl, rfl⟩

theorem turn_19 (x : BitVec 32) (w : World) : Calls Tryz.prog 116 #[V x, .int .i64 19] w fun e w' => e = .returned (V (Sha.rr x 19)) ∧ w' = w := by
  have hk : bits .and .u64 (IntKind.u64.wrap (-19)) 31 = 13 := by decide
  have ho : bits .or .u32 ((x.toNat : Int) * 8192 % 4294967296) ((x.toNat : Int) / 524288) = ((Sha.rr x 19).toNat : Int) := by
    have h1 := b_shl x 13
    have h2 := b_shr x 19
    have e1 : (2 : Int) ^ 13 = 8192 := by decide
    have e2 : (2 : Int) ^ 19 = 524288 := by decide
    rw [e1] at h1
    rw [e2] at h2
    rw [h1, h2, b_or, BitVec.or_comm]
    rfl
  go_enter Tryz.func116, Tryz.ntmps116
  go_wp2
  go_ret
  exact ⟨rfl, rfl⟩

theorem turn_2 (x : BitVec 32) (w : World) : Calls Tryz.prog 116 #[V x, .int .i64 2] w fun e w' => e = .returned (V (Sha.rr x 2)) ∧ w' = w := by
  have hk : bits .and .u64 (IntKind.u64.wrap (-2)) 31 = 30 := by decide
  have ho : bits .or .u32 ((x.toNat : Int) * 1073741824 % 4294967296) ((x.toNat : Int) / 4) = ((Sha.rr x 2).toNat : Int) := by
    have h1 := b_shl x 30
    have h2 := b_shr x 2
    have e1 : (2 : Int) ^ 30 = 1073741824 := by decide
    have e2 : (2 : Int) ^ 2 = 4 := by decide
    rw [e1] at h1
    rw [e2] at h2
    rw [h1, h2, b_or, BitVec.or_comm]
    rfl
  go_enter Tryz.func116, Tryz.ntmps116
  go_wp2
  go_ret
  exact ⟨rfl, rfl⟩

theorem turn_13 (x : BitVec 32) (w : World) : Calls Tryz.prog 116 #[V x, .int .i64 13] w fun e w' => e = .returned (V (Sha.rr x 13)) ∧ w' = w := by
  have hk : bits .and .u64 (IntKind.u64.wrap (-13)) 31 = 19 := by decide
  have ho : bits .or .u32 ((x.toNat : Int) * 524288 % 4294967296) ((x.toNat : Int) / 8192) = ((Sha.rr x 13).toNat : Int) := by
    have h1 := b_shl x 19
    have h2 := b_shr x 13
    have e1 : (2 : Int) ^ 19 = 524288 := by decide
    have e2 : (2 : Int) ^ 13 = 8192 := by decide
    rw [e1] at h1
    rw [e2] at h2
    rw [h1, h2, b_or, BitVec.or_comm]
    rfl
  go_enter Tryz.func116, Tryz.ntmps116
  go_wp2
  go_ret
  exact ⟨rfl, rfl⟩

theorem turn_22 (x : BitVec 32) (w : World) : Calls Tryz.prog 116 #[V x, .int .i64 22] w fun e w' => e = .returned (V (Sha.rr x 22)) ∧ w' = w := by
  have hk : bits .and .u64 (IntKind.u64.wrap (-22)) 31 = 10 := by decide
  have ho : bits .or .u32 ((x.toNat : Int) * 1024 % 4294967296) ((x.toNat : Int) / 4194304) = ((Sha.rr x 22).toNat : Int) := by
    have h1 := b_shl x 10
    have h2 := b_shr x 22
    have e1 : (2 : Int) ^ 10 = 1024 := by decide
    have e2 : (2 : Int) ^ 22 = 4194304 := by decide
    rw [e1] at h1
    rw [e2] at h2
    rw [h1, h2, b_or, BitVec.or_comm]
    rfl
  go_enter Tryz.func116, Tryz.ntmps116
  go_wp2
  go_ret
  exact ⟨rfl, rfl⟩

theorem turn_6 (x : BitVec 32) (w : World) : Calls Tryz.prog 116 #[V x, .int .i64 6] w fun e w' => e = .returned (V (Sha.rr x 6)) ∧ w' = w := by
  have hk : bits .and .u64 (IntKind.u64.wrap (-6)) 31 = 26 := by decide
  have ho : bits .or .u32 ((x.toNat : Int) * 67108864 % 4294967296) ((x.toNat : Int) / 64) = ((Sha.rr x 6).toNat : Int) := by
    have h1 := b_shl x 26
    have h2 := b_shr x 6
    have e1 : (2 : Int) ^ 26 = 67108864 := by decide
    have e2 : (2 : Int) ^ 6 = 64 := by decide
    rw [e1] at h1
    rw [e2] at h2
    rw [h1, h2, b_or, BitVec.or_comm]
    rfl
  go_enter Tryz.func116, Tryz.ntmps116
  go_wp2
  go_ret
  exact ⟨rfl, rfl⟩

theorem turn_11 (x : BitVec 32) (w : World) : Calls Tryz.prog 116 #[V x, .int .i64 11] w fun e w' => e = .returned (V (Sha.rr x 11)) ∧ w' = w := by
  have hk : bits .and .u64 (IntKind.u64.wrap (-11)) 31 = 21 := by decide
  have ho : bits .or .u32 ((x.toNat : Int) * 2097152 % 4294967296) ((x.toNat : Int) / 2048) = ((Sha.rr x 11).toNat : Int) := by
    have h1 := b_shl x 21
    have h2 := b_shr x 11
    have e1 : (2 : Int) ^ 21 = 2097152 := by decide
    have e2 : (2 : Int) ^ 11 = 2048 := by decide
    rw [e1] at h1
    rw [e2] at h2
    rw [h1, h2, b_or, BitVec.or_comm]
    rfl
  go_enter Tryz.func116, Tryz.ntmps116
  go_wp2
  go_ret
  exact ⟨rfl, rfl⟩

theorem turn_25 (x : BitVec 32) (w : World) : Calls Tryz.prog 116 #[V x, .int .i64 25] w fun e w' => e = .returned (V (Sha.rr x 25)) ∧ w' = w := by
  have hk : bits .and .u64 (IntKind.u64.wrap (-25)) 31 = 7 := by decide
  have ho : bits .or .u32 ((x.toNat : Int) * 128 % 4294967296) ((x.toNat : Int) / 33554432) = ((Sha.rr x 25).toNat : Int) := by
    have h1 := b_shl x 7
    have h2 := b_shr x 25
    have e1 : (2 : Int) ^ 7 = 128 := by decide
    have e2 : (2 : Int) ^ 25 = 33554432 := by decide
    rw [e1] at h1
    rw [e2] at h2
    rw [h1, h2, b_or, BitVec.or_comm]
    rfl
  go_enter Tryz.func116, Tryz.ntmps116
  go_wp2
  go_ret
  exact ⟨rfl, rfl⟩

theorem smallSigma0_any (x : BitVec 32) (w : World) : Calls Tryz.prog 114 #[V x] w fun e w' => e = .returned (V (Sha.s0 x)) ∧ w' = w := by
  have h1 := b_xor (Sha.rr x 7) (Sha.rr x 18)
  have h2 : bits .xor .u32 ((Sha.rr x 7 ^^^ Sha.rr x 18).toNat : Int) ((x.toNat : Int) / 8) = ((Sha.s0 x).toNat : Int) := by
    have e := b_shr x 3
    have e2 : (2 : Int) ^ 3 = 8 := by decide
    rw [e2] at e
    rw [e, b_xor]; rfl
  generalize Sha.rr x 7 ^^^ Sha.rr x 18 = y at h1 h2
  go_enter Tryz.func114, Tryz.ntmps114
  go_wp2_with fail
  refine (turn_7 x _).mono ?_
  rintro e w' ⟨rfl, rfl⟩
  go_wp2_with fail
  refine (turn_18 x _).mono ?_
  rintro e w' ⟨rfl, rfl⟩
  go_wp2_with fail
  go_ret
  exact ⟨rfl, rfl⟩

theorem smallSigma1_any (x : BitVec 32) (w : World) : Calls Tryz.prog 115 #[V x] w fun e w' => e = .returned (V (Sha.s1 x)) ∧ w' = w := by
  have h1 := b_xor (Sha.rr x 17) (Sha.rr x 19)
  have h2 : bits .xor .u32 ((Sha.rr x 17 ^^^ Sha.rr x 19).toNat : Int) ((x.toNat : Int) / 1024) = ((Sha.s1 x).toNat : Int) := by
    have e := b_shr x 10
    have e2 : (2 : Int) ^ 10 = 1024 := by decide
    rw [e2] at e
    rw [e, b_xor]; rfl
  generalize Sha.rr x 17 ^^^ Sha.rr x 19 = y at h1 h2
  go_enter Tryz.func115, Tryz.ntmps115
  go_wp2_with fail
  refine (turn_17 x _).mono ?_
  rintro e w' ⟨rfl, rfl⟩
  go_wp2_with fail
  refine (turn_19 x _).mono ?_
  rintro e w' ⟨rfl, rfl⟩
  go_wp2_with fail
  go_ret
  exact ⟨rfl, rfl⟩

theorem bigSigma0_any (x : BitVec 32) (w : World) : Calls Tryz.prog 96 #[V x] w fun e w' => e = .returned (V (Sha.S0 x)) ∧ w' = w := by
  have h1 := b_xor (Sha.rr x 2) (Sha.rr x 13)
  have h2 : bits .xor .u32 ((Sha.rr x 2 ^^^ Sha.rr x 13).toNat : Int) ((Sha.rr x 22).toNat : Int) = ((Sha.S0 x).toNat : Int) := by
    rw [b_xor]; rfl
  generalize Sha.rr x 2 ^^^ Sha.rr x 13 = y at h1 h2
  go_enter Tryz.func96, Tryz.ntmps96
  go_wp2_with fail
  refine (turn_2 x _).mono ?_
  rintro e w' ⟨rfl, rfl⟩
  go_wp2_with fail
  refine (turn_13 x _).mono ?_
  rintro e w' ⟨rfl, rfl⟩
  go_wp2_with fail
  refine (turn_22 x _).mono ?_
  rintro e w' ⟨rfl, rfl⟩
  go_wp2_with fail
  go_ret
  exact ⟨rfl, rfl⟩

theorem bigSigma1_any (x : BitVec 32) (w : World) : Calls Tryz.prog 95 #[V x] w fun e w' => e = .returned (V (Sha.S1 x)) ∧ w' = w := by
  have h1 := b_xor (Sha.rr x 6) (Sha.rr x 11)
  have h2 : bits .xor .u32 ((Sha.rr x 6 ^^^ Sha.rr x 11).toNat : Int) ((Sha.rr x 25).toNat : Int) = ((Sha.S1 x).toNat : Int) := by
    rw [b_xor]; rfl
  generalize Sha.rr x 6 ^^^ Sha.rr x 11 = y at h1 h2
  go_enter Tryz.func95, Tryz.ntmps95
  go_wp2_with fail
  refine (turn_6 x _).mono ?_
  rintro e w' ⟨rfl, rfl⟩
  go_wp2_with fail
  refine (turn_11 x _).mono ?_
  rintro e w' ⟨rfl, rfl⟩
  go_wp2_with fail
  refine (turn_25 x _).mono ?_
  rintro e w' ⟨rfl, rfl⟩
  go_wp2_with fail
  go_ret
  exact ⟨rfl, rfl⟩

end Go.Proofs.YtocpikgcbibcoaaGreatDoor.shaw
