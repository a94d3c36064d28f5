namespace Go.Proofs.YtkmhhodapnlkiaaDoor.Sha

def rr (x : BitVec 32) (n : Nat) : BitVec 32 := (x >>> n) ||| (x <<< (32 - n))
def s0 (x : BitVec 32) : BitVec 32 := rr x 7 ^^^ rr x 18 ^^^ (x >>> 3)
def s1 (x : BitVec 32) : BitVec 32 := rr x 17 ^^^ rr x 19 ^^^ (x >>> 10)
def S0 (x : BitVec 32) : BitVec 32 := rr x 2 ^^^ rr x 13 ^^^ rr x 22
def S1 (x : BitVec 32) : BitVec 32 := rr x 6 ^^^ rr x 11 ^^^ rr x 25
def ch (e f g : BitVec 32) : BitVec 32 := (e &&& f) ^^^ (~~~e &&& g)
def maj (a b c : BitVec 32) : BitVec 32 := (a &&& b) ^^^ (a &&& c) ^^^ (b &&& c)

/-- eight words -/
structure St where
  a : BitVec 32
  b : BitVec 32
  c : BitVec 32
  d : BitVec 32
  e : BitVec 32
  f : BitVec 32
  g : BitVec 32
  h : BitVec 32

def t1 (v : St) (k w : BitVec 32) : BitVec 32 := v.h + S1 v.e + ch v.e v.f v.g + k + w
def t2 (v : St) : BitVec 32 := S0 v.a + maj v.a v.b v.c
def round (v : St) (k w : BitVec 32) : St := ⟨t1 v k w + t2 v, v.a, v.b, v.c, v.d + t1 v k w, v.e, v.f, v.g⟩
def add (v u : St) : St := ⟨v.a + u.a, v.b + u.b, v.c + u.c, v.d + u.d, v.e + u.e, v.f + u.f, v.g + u.g, v.h + u.h⟩
def words (v : St) : List (BitVec 32) := [v.a, v.b, v.c, v.d, v.e, v.f, v.g, v.h]

def first : St := ⟨0x6a09e667#32, 0xbb67ae85#32, 0x3c6ef372#32, 0xa54ff53a#32, 0x510e527f#32, 0x9b05688c#32, 0x1f83d9ab#32, 0x5be0cd19#32⟩
def K : List (BitVec 32) := [
  0x428a2f98#32, 0x71374491#32, 0xb5c0fbcf#32, 0xe9b5dba5#32, 0x3956c25b#32, 0x59f111f1#32, 0x923f82a4#32, 0xab1c5ed5#32,
  0xd807aa98#32, 0x12835b01#32, 0x243185be#32, 0x550c7dc3#32, 0x72be5d74#32, 0x80deb1fe#32, 0x9bdc06a7#32, 0xc19bf174#32,
  0xe49b69c1#32, 0xefbe4786#32, 0x0fc19dc6#32, 0x240ca1cc#32, 0x2de92c6f#32, 0x4a7484aa#32, 0x5cb0a9dc#32, 0x76f988da#32,
  0x983e5152#32, 0xa831c66d#32, 0xb00327c8#32, 0xbf597fc7#32, 0xc6e00bf3#32, 0xd5a79147#32, 0x06ca6351#32, 0x14292967#32,
  0x27b70a85#32, 0x2e1b2138#32, 0x4d2c6dfc#32, 0x53380d13#32, 0x650a7354#32, 0x766a0abb#32, 0x81c2c92e#32, 0x92722c85#32,
  0xa2bfe8a1#32, 0xa81a664b#32, 0xc24b8b70#32, 0xc76c51a3#32, 0xd192e819#32, 0xd6990624#32, 0xf40e3585#32, 0x106aa070#32,
  0x19a4c116#32, 0x1e376c08#32, 0x2748774c#32, 0x34b0bcb5#32, 0x391c0cb3#32, 0x4ed8aa4a#32, 0x5b9cca4f#32, 0x682e6ff3#32,
  0x748f82ee#32, 0x78a5636f#32, 0x84c87814#32, 0x8cc70208#32, 0x90befffa#32, 0xa4506ceb#32, 0xbef9a3f7#32, 0xc67178f2#32]

/-- a byte as a word -/
def bw (c : UInt8) : BitVec 32 := BitVec.ofNat 32 c.toNat
/-- the t-th word of a piece -/
def word (p : List UInt8) (t : Nat) : BitVec 32 := (bw (p.getD (4 * t) 0) <<< 24) ||| (bw (p.getD (4 * t + 1) 0) <<< 16) ||| (bw (p.getD (4 * t + 2) 0) <<< 8) ||| bw (p.getD (4 * t + 3) 0)
def next (l : List (BitVec 32)) (t : Nat) : BitVec 32 := l.getD (t - 16) 0#32 + s0 (l.getD (t - 15) 0#32) + l.getD (t - 7) 0#32 + s1 (l.getD (t - 2) 0#32)
/-- the first t words that the rounds take in -/
def sched (p : List UInt8) : Nat → List (BitVec 32)
  | 0 => []
  | t + 1 => sched p t ++ [if t < 16 then word p t else next (sched p t) t]
def rounds (v : St) (w : List (BitVec 32)) : Nat → St
  | 0 => v
  | t + 1 => round (rounds v w t) (K.getD t 0#32) (w.getD t 0#32)
/-- the state behind a piece of 64 bytes -/
def comp (v : St) (p : List UInt8) : St := add v (rounds v (sched p 64) 64)
/-- the state behind n pieces of a text -/
def after (l : List UInt8) : Nat → St
  | 0 => first
  | n + 1 => comp (after l n) ((l.drop (64 * n)).take 64)

def wbytes (x : BitVec 32) : List UInt8 := [UInt8.ofNat (x.toNat / 16777216), UInt8.ofNat (x.toNat / 65536), UInt8.ofNat (x.toNat / 256), UInt8.ofNat x.toNat]
def bytes (v : St) : List UInt8 := (words v).flatMap wbytes
/-- what stands behind a text of n bytes in the padded text -/
def padSize (n : Nat) : Nat := 72 - (n + 8) % 64
def padByte (n i : Nat) : UInt8 := if i = 0 then 0x80 else if i + 8 < padSize n then 0 else UInt8.ofNat (8 * n / 2 ^ (8 * (padSize n - 1 - i)))
def padTo (n : Nat) : Nat → List UInt8
  | 0 => []
  | i + 1 => padTo n i ++ [padByte n i]
def pad (n : Nat) : List UInt8 := padTo n (padSize n)
def digest (l : List UInt8) : List UInt8 := bytes (after (l ++ pad l.length) ((l.length + padSize l.length) / 64))

theorem sched_length (p : List UInt8) (t : Nat) : (sched p t).length = t := by
  induction t with
  | zero => rfl
  | succ t ih => simp [sched, ih]

theorem sched_get (p : List UInt8) (t i : Nat) (h : i < t) : (sched p t).getD i 0#32 = if i < 16 then word p i else next (sched p i) i := by
  induction t with
  | zero => omega
  | succ t ih =>
    simp only [sched]
    by_cases e : i = t
    · subst e
      rw [List.getD_eq_getElem?_getD, List.getElem?_append_right (by rw [sched_length]; exact Nat.le_refl _), sched_length]
      simp
    · rw [List.getD_eq_getElem?_getD, List.getElem?_append_left (by rw [sched_length]; omega), ← List.getD_eq_getElem?_getD]
      exact ih (by omega)

end Go.Proofs.YtkmhhodapnlkiaaDoor.Sha
