namespace Go.Proofs.YticncaoecoehkaaDoor.Crc

def poly : BitVec 32 := 0xEDB88320#32

/-- the register behind a zero bit -/
def z (r : BitVec 32) : BitVec 32 := (r >>> 1) ^^^ (if r.getLsbD 0 = true then poly else 0#32)

def zn : Nat → BitVec 32 → BitVec 32
  | 0, r => r
  | n + 1, r => zn n (z r)

theorem z_zero : z 0#32 = 0#32 := by decide

theorem z_xor (a b : BitVec 32) : z (a ^^^ b) = z a ^^^ z b := by
  unfold z
  have e : (a ^^^ b) >>> 1 = (a >>> 1) ^^^ (b >>> 1) := by
    apply BitVec.eq_of_getLsbD_eq; intro i _; simp
  rw [e]
  simp only [BitVec.getLsbD_xor]
  cases ha : a.getLsbD 0 <;> cases hb : b.getLsbD 0 <;> simp
  · rw [BitVec.xor_assoc]
  · rw [BitVec.xor_assoc, BitVec.xor_assoc, BitVec.xor_comm poly]
  · have h : a >>> 1 ^^^ poly ^^^ (b >>> 1 ^^^ poly) = a >>> 1 ^^^ b >>> 1 ^^^ (poly ^^^ poly) := by
      simp only [BitVec.xor_assoc]; congr 1; rw [BitVec.xor_comm poly, BitVec.xor_assoc]
    rw [h]; simp

theorem zn_xor (n : Nat) (a b : BitVec 32) : zn n (a ^^^ b) = zn n a ^^^ zn n b := by
  induction n generalizing a b with
  | zero => rfl
  | succ n ih => simp only [zn]; rw [z_xor, ih]

theorem zn_zero (n : Nat) : zn n 0#32 = 0#32 := by
  induction n with
  | zero => rfl
  | succ n ih => simp only [zn]; rw [z_zero, ih]

theorem zn_add (m n : Nat) (a : BitVec 32) : zn (m + n) a = zn n (zn m a) := by
  induction m generalizing a with
  | zero => simp [zn]
  | succ m ih => rw [Nat.succ_add]; simp only [zn]; rw [ih]

theorem z_even (a : BitVec 32) (h : a.getLsbD 0 = false) : z a = a >>> 1 := by
  unfold z; rw [h]; simp

def table : List (BitVec 32) := [
  0x00000000#32, 0x1db71064#32, 0x3b6e20c8#32, 0x26d930ac#32,
  0x76dc4190#32, 0x6b6b51f4#32, 0x4db26158#32, 0x5005713c#32,
  0xedb88320#32, 0xf00f9344#32, 0xd6d6a3e8#32, 0xcb61b38c#32,
  0x9b64c2b0#32, 0x86d3d2d4#32, 0xa00ae278#32, 0xbdbdf21c#32]

theorem table_is : ∀ n : Fin 16, zn 4 (BitVec.ofNat 32 n.val) = table.getD n.val 0#32 := by decide +kernel

theorem split4 (r : BitVec 32) : r = (r >>> 4 <<< 4) ^^^ (r &&& 15#32) := by
  have h15 : ∀ j, (15#32).getLsbD j = decide (j < 4) := by
    intro j
    by_cases hj : j < 32
    · have : ∀ k : Fin 32, (15#32).getLsbD k.val = decide (k.val < 4) := by decide
      exact this ⟨j, hj⟩
    · rw [BitVec.getLsbD_of_ge _ _ (by omega)]; symm; simp; omega
  apply BitVec.eq_of_getLsbD_eq; intro i hi
  simp [h15]
  by_cases h : i < 4
  · simp [h]
  · have e : 4 + (i - 4) = i := by omega
    simp [h, e, hi]

theorem zn4_high (r : BitVec 32) : zn 4 (r >>> 4 <<< 4) = r >>> 4 := by
  simp only [zn]
  have e1 : z (r >>> 4 <<< 4) = (r >>> 4 <<< 4) >>> 1 := z_even _ (by simp)
  have e2 : z ((r >>> 4 <<< 4) >>> 1) = (r >>> 4 <<< 4) >>> 1 >>> 1 := z_even _ (by simp)
  have e3 : z ((r >>> 4 <<< 4) >>> 1 >>> 1) = (r >>> 4 <<< 4) >>> 1 >>> 1 >>> 1 := z_even _ (by simp)
  have e4 : z ((r >>> 4 <<< 4) >>> 1 >>> 1 >>> 1) = (r >>> 4 <<< 4) >>> 1 >>> 1 >>> 1 >>> 1 := z_even _ (by simp)
  rw [e1, e2, e3, e4]
  apply BitVec.eq_of_getLsbD_eq; intro i hi
  simp only [BitVec.getLsbD_ushiftRight, BitVec.getLsbD_shiftLeft]
  by_cases h : i + 4 < 32
  · have h1 : 1 + (1 + (1 + (1 + i))) < 32 := by omega
    have h2 : ¬ 1 + (1 + (1 + (1 + i))) < 4 := by omega
    have h3 : 4 + (1 + (1 + (1 + (1 + i))) - 4) = 4 + i := by omega
    simp [h1, h2, h3]
  · have : r.getLsbD (4 + i) = false := BitVec.getLsbD_of_ge _ _ (by omega)
    have h1 : ¬ 1 + (1 + (1 + (1 + i))) < 32 := by omega
    simp [this, h1]

theorem and15_lt (r : BitVec 32) : (r &&& 15#32).toNat < 16 := by
  rw [BitVec.toNat_and]
  exact Nat.lt_of_le_of_lt Nat.and_le_right (by decide)

/-- four zero bits at once, by the table -/
theorem zn4 (r : BitVec 32) : zn 4 r = (r >>> 4) ^^^ table.getD (r &&& 15#32).toNat 0#32 := by
  have h := split4 r
  have e : zn 4 r = zn 4 ((r >>> 4 <<< 4) ^^^ (r &&& 15#32)) := congrArg (zn 4) h
  rw [e, zn_xor, zn4_high]
  have t := table_is ⟨(r &&& 15#32).toNat, and15_lt r⟩
  simp only [BitVec.ofNat_toNat, BitVec.setWidth_eq] at t
  rw [t]

/-- the register behind the bits of a byte that lie below k -/
def upto (r : BitVec 32) (c : BitVec 32) : Nat → BitVec 32
  | 0 => r
  | k + 1 => z (upto r c k ^^^ (if c.getLsbD k = true then 1#32 else 0#32))

theorem upto_lin (r c : BitVec 32) (k : Nat) : upto r c k = zn k r ^^^ upto 0#32 c k := by
  have hs : ∀ n a, zn (n + 1) a = z (zn n a) := by
    intro n a; rw [zn_add]; rfl
  induction k with
  | zero => simp [upto, zn]
  | succ k ih =>
    simp only [upto]
    rw [ih, z_xor, z_xor, z_xor, hs, BitVec.xor_assoc]

theorem upto_zero8 : ∀ c : Fin 256, upto 0#32 (BitVec.ofNat 32 c.val) 8 = zn 8 (BitVec.ofNat 32 c.val) := by decide +kernel

/-- a byte taken in -/
def byte (r : BitVec 32) (c : UInt8) : BitVec 32 := zn 8 (r ^^^ BitVec.ofNat 32 c.toNat)

theorem byte_bits (r : BitVec 32) (c : UInt8) : upto r (BitVec.ofNat 32 c.toNat) 8 = byte r c := by
  rw [upto_lin]
  have h := upto_zero8 ⟨c.toNat, c.toNat_lt⟩
  simp only at h
  rw [h]; unfold byte; rw [zn_xor]

theorem byte_table (r : BitVec 32) (c : UInt8) : byte r c = (((r ^^^ BitVec.ofNat 32 c.toNat) >>> 4) ^^^ table.getD ((r ^^^ BitVec.ofNat 32 c.toNat) &&& 15#32).toNat 0#32) >>> 4 ^^^ table.getD (((r ^^^ BitVec.ofNat 32 c.toNat) >>> 4 ^^^ table.getD ((r ^^^ BitVec.ofNat 32 c.toNat) &&& 15#32).toNat 0#32) &&& 15#32).toNat 0#32 := by
  unfold byte
  rw [show (8 : Nat) = 4 + 4 from rfl, zn_add]
  generalize r ^^^ BitVec.ofNat 32 c.toNat = x
  rw [zn4 (zn 4 x), zn4 x]

def all (r : BitVec 32) (l : List UInt8) : BitVec 32 := l.foldl byte r

def inv (r : BitVec 32) : BitVec 32 := ~~~r

def more (r : BitVec 32) (l : List UInt8) : BitVec 32 := inv (all (inv r) l)

theorem all_snoc (r : BitVec 32) (l : List UInt8) (c : UInt8) : all r (l ++ [c]) = byte (all r l) c := by
  simp [all]

theorem more_append (r : BitVec 32) (a b : List UInt8) : more r (a ++ b) = more (more r a) b := by
  simp [more, all, inv]

theorem ofNat_xor (a b : UInt8) : BitVec.ofNat 32 (a ^^^ b).toNat = BitVec.ofNat 32 a.toNat ^^^ BitVec.ofNat 32 b.toNat := by
  apply BitVec.eq_of_toNat_eq
  have ha := a.toNat_lt
  have hb := b.toNat_lt
  have hx : a.toNat ^^^ b.toNat < 2 ^ 8 := Nat.xor_lt_two_pow ha hb
  rw [BitVec.toNat_xor, UInt8.toNat_xor, BitVec.toNat_ofNat, BitVec.toNat_ofNat, BitVec.toNat_ofNat]
  rw [Nat.mod_eq_of_lt (by omega), Nat.mod_eq_of_lt (by omega), Nat.mod_eq_of_lt (by omega)]

theorem xor4 (a b c d : BitVec 32) : (a ^^^ b) ^^^ (c ^^^ d) = (a ^^^ c) ^^^ (b ^^^ d) := by
  apply BitVec.eq_of_getLsbD_eq; intro i hi
  simp [hi]
  cases a[i] <;> cases b[i] <;> cases c[i] <;> cases d[i] <;> rfl

theorem byte_xor (r q : BitVec 32) (a b : UInt8) : byte (r ^^^ q) (a ^^^ b) = byte r a ^^^ byte q b := by
  unfold byte
  rw [ofNat_xor, ← zn_xor]
  congr 1
  generalize BitVec.ofNat 32 a.toNat = x
  generalize BitVec.ofNat 32 b.toNat = y
  rw [xor4]

theorem all_xor (a b : List UInt8) (h : a.length = b.length) (r q : BitVec 32) : all (r ^^^ q) (List.zipWith (· ^^^ ·) a b) = all r a ^^^ all q b := by
  induction a generalizing b r q with
  | nil => cases b with
    | nil => rfl
    | cons y b => simp at h
  | cons x a ih => cases b with
    | nil => simp at h
    | cons y b =>
      simp only [List.length_cons, Nat.add_right_cancel_iff] at h
      simp only [all, List.zipWith_cons_cons, List.foldl_cons] at ih ⊢
      rw [byte_xor]
      exact ih b h _ _

theorem not_three (a b c : BitVec 32) : ~~~a ^^^ ~~~b ^^^ ~~~c = ~~~(a ^^^ b ^^^ c) := by
  apply BitVec.eq_of_getLsbD_eq; intro i hi
  simp [hi]

/-- three texts of one length -/
theorem more_three (a b c : List UInt8) (hb : a.length = b.length) (hc : a.length = c.length) : more 0#32 a ^^^ more 0#32 b ^^^ more 0#32 c = more 0#32 (List.zipWith (· ^^^ ·) (List.zipWith (· ^^^ ·) a b) c) := by
  unfold more inv
  rw [not_three]
  have e : ~~~(0#32) = (~~~(0#32) ^^^ ~~~(0#32)) ^^^ ~~~(0#32) := by decide
  have h2 : all (~~~(0#32)) (List.zipWith (· ^^^ ·) (List.zipWith (· ^^^ ·) a b) c) = all ((~~~(0#32) ^^^ ~~~(0#32)) ^^^ ~~~(0#32)) (List.zipWith (· ^^^ ·) (List.zipWith (· ^^^ ·) a b) c) := by rw [← e]
  rw [h2, all_xor _ _ (by simp; omega), all_xor _ _ hb]

/-- the bit at a place -/
def bitAt (l : List UInt8) (p : Nat) : Bool := (BitVec.ofNat 32 (l.getD (p / 8) 0).toNat).getLsbD (p % 8)

def b2 (b : Bool) : BitVec 32 := if b = true then 1#32 else 0#32

def feed (r : BitVec 32) (f : Nat → Bool) : Nat → BitVec 32
  | 0 => r
  | n + 1 => z (feed r f n ^^^ b2 (f n))

theorem feed_congr (r : BitVec 32) (f g : Nat → Bool) (n : Nat) (h : ∀ p, p < n → f p = g p) : feed r f n = feed r g n := by
  induction n with
  | zero => rfl
  | succ n ih => simp only [feed]; rw [ih (fun p hp => h p (by omega)), h n (by omega)]

theorem b2_xor (a b : Bool) : b2 (a ^^ b) = b2 a ^^^ b2 b := by cases a <;> cases b <;> decide

theorem feed_xor (r q : BitVec 32) (f g : Nat → Bool) (n : Nat) : feed (r ^^^ q) (fun p => f p ^^ g p) n = feed r f n ^^^ feed q g n := by
  induction n with
  | zero => rfl
  | succ n ih => simp only [feed]; rw [ih, b2_xor, ← z_xor, xor4]

theorem feed_upto (r : BitVec 32) (l : List UInt8) (i k : Nat) (hk : k ≤ 8) : feed r (bitAt l) (8 * i + k) = upto (feed r (bitAt l) (8 * i)) (BitVec.ofNat 32 (l.getD i 0).toNat) k := by
  induction k with
  | zero => rfl
  | succ k ih =>
    rw [← Nat.add_assoc]
    simp only [feed, upto]
    rw [ih (by omega)]
    have e1 : (8 * i + k) / 8 = i := by omega
    have e2 : (8 * i + k) % 8 = k := by omega
    simp only [bitAt, e1, e2, b2]

theorem all_feed_take (r : BitVec 32) (l : List UInt8) (i : Nat) (hi : i ≤ l.length) : feed r (bitAt l) (8 * i) = all r (l.take i) := by
  induction i with
  | zero => rfl
  | succ i ih =>
    have e : 8 * (i + 1) = 8 * i + 8 := by omega
    rw [e, feed_upto _ _ _ _ (Nat.le_refl _), byte_bits, ih (by omega)]
    rw [List.take_succ_eq_append_getElem (by omega), all_snoc]
    congr 1
    simp [List.getElem?_eq_getElem (show i < l.length by omega)]

theorem all_feed (r : BitVec 32) (l : List UInt8) : all r l = feed r (bitAt l) (8 * l.length) := by
  rw [all_feed_take _ _ _ (Nat.le_refl _), List.take_length]

theorem z_inj0 (x : BitVec 32) (h : z x = 0#32) : x = 0#32 := by
  have h31 : (z x).getLsbD 31 = false := by rw [h]; decide
  have p31 : poly.getLsbD 31 = true := by decide
  have x0 : x.getLsbD 0 = false := by
    unfold z at h31
    rw [BitVec.getLsbD_xor, BitVec.getLsbD_ushiftRight, BitVec.getLsbD_of_ge x (1 + 31) (by omega)] at h31
    cases hx : x.getLsbD 0
    · rfl
    · rw [hx] at h31; rw [if_pos rfl, p31] at h31; simp at h31
  rw [z_even _ x0] at h
  apply BitVec.eq_of_getLsbD_eq; intro i hi
  cases i with
  | zero => rw [x0]; decide
  | succ i =>
    have : (x >>> 1).getLsbD i = (0#32).getLsbD i := by rw [h]
    rw [BitVec.getLsbD_ushiftRight, Nat.add_comm] at this
    rw [this]; simp

theorem zn_inj0 (n : Nat) (x : BitVec 32) (h : zn n x = 0#32) : x = 0#32 := by
  induction n generalizing x with
  | zero => exact h
  | succ n ih => exact z_inj0 _ (ih _ h)

theorem zn_one : ∀ j : Fin 32, zn j.val (1#32 <<< j.val) = 1#32 := by decide +kernel

theorem zn_succ (n : Nat) (a : BitVec 32) : zn (n + 1) a = z (zn n a) := by rw [zn_add]; rfl

/-- the bits of a mask below j -/
def low (m : BitVec 32) : Nat → BitVec 32
  | 0 => 0#32
  | j + 1 => low m j ^^^ (b2 (m.getLsbD j) <<< j)

theorem low_bit (m : BitVec 32) (j i : Nat) (hi : i < 32) : (low m j).getLsbD i = (decide (i < j) && m.getLsbD i) := by
  induction j with
  | zero => simp [low]
  | succ j ih =>
    simp only [low]
    rw [BitVec.getLsbD_xor, ih, BitVec.getLsbD_shiftLeft]
    by_cases h1 : i < j
    · have : ¬ j ≤ i := by omega
      have h2 : i < j + 1 := by omega
      simp [h1, h2]
    · by_cases h3 : i = j
      · subst h3; unfold b2; cases hm : m.getLsbD i <;> simp [hi]
      · have h2 : ¬ i < j + 1 := by omega
        have h4 : (b2 (m.getLsbD j)).getLsbD (i - j) = false := by
          have hne : i - j ≠ 0 := by omega
          unfold b2; cases m.getLsbD j
          · simp
          · simp; omega
        simp [h1, h2, h4]

def burst (at0 : Nat) (m : BitVec 32) (p : Nat) : Bool := decide (at0 ≤ p) && decide (p < at0 + 32) && m.getLsbD (p - at0)

theorem feed_ahead (at0 : Nat) (m : BitVec 32) (n : Nat) (h : n ≤ at0) : feed 0#32 (burst at0 m) n = 0#32 := by
  induction n with
  | zero => rfl
  | succ n ih =>
    simp only [feed]; rw [ih (by omega)]
    have : burst at0 m n = false := by
      unfold burst; rw [decide_eq_false (by omega)]; simp
    rw [this]; decide

theorem feed_in (at0 : Nat) (m : BitVec 32) (j : Nat) (h : j ≤ 32) : feed 0#32 (burst at0 m) (at0 + j) = zn j (low m j) := by
  induction j with
  | zero => exact feed_ahead _ _ _ (by omega)
  | succ j ih =>
    rw [← Nat.add_assoc]; simp only [feed, low]
    rw [ih (by omega), zn_succ, zn_xor]
    have e : burst at0 m (at0 + j) = m.getLsbD j := by
      unfold burst
      rw [decide_eq_true (by omega), decide_eq_true (by omega), Nat.add_sub_cancel_left]; simp
    rw [e]
    have o : zn j (b2 (m.getLsbD j) <<< j) = b2 (m.getLsbD j) := by
      cases m.getLsbD j
      · have : b2 false <<< j = 0#32 := by unfold b2; simp
        rw [this, zn_zero]; rfl
      · exact zn_one ⟨j, by omega⟩
    rw [o]

theorem feed_behind (at0 : Nat) (m : BitVec 32) (i : Nat) : feed 0#32 (burst at0 m) (at0 + 32 + i) = zn i (feed 0#32 (burst at0 m) (at0 + 32)) := by
  induction i with
  | zero => rfl
  | succ i ih =>
    have f1 : feed 0#32 (burst at0 m) (at0 + 32 + (i + 1)) = z (feed 0#32 (burst at0 m) (at0 + 32 + i) ^^^ b2 (burst at0 m (at0 + 32 + i))) := rfl
    rw [f1, ih, zn_succ]
    have : burst at0 m (at0 + 32 + i) = false := by
      unfold burst; rw [decide_eq_false (show ¬ at0 + 32 + i < at0 + 32 by omega)]; simp
    rw [this]
    generalize zn i _ = y
    simp [b2]

theorem feed_burst (at0 : Nat) (m : BitVec 32) (n k : Nat) (hk : k < 32) (hn : at0 + k < n) (hm : m.getLsbD k = true) : feed 0#32 (burst at0 m) n ≠ 0#32 := by
  intro h
  have key : ∀ j, j ≤ 32 → k < j → zn j (low m j) ≠ 0#32 := by
    intro j hj hkj h0
    have := zn_inj0 _ _ h0
    have hb := low_bit m j k hk
    rw [this, hm, decide_eq_true hkj] at hb
    simp at hb
  by_cases hc : n ≤ at0 + 32
  · have e : n = at0 + (n - at0) := by omega
    rw [e, feed_in _ _ _ (by omega)] at h
    exact key _ (by omega) (by omega) h
  · have e : n = at0 + 32 + (n - (at0 + 32)) := by omega
    rw [e, feed_behind] at h
    have := zn_inj0 _ _ h
    rw [feed_in _ _ _ (by omega)] at this
    exact key 32 (by omega) hk this

/-- two texts whose bits differ by a burst have unlike sums -/
theorem more_burst (s t : List UInt8) (hl : t.length = s.length) (at0 : Nat) (m : BitVec 32) (hb : ∀ p, p < 8 * s.length → (bitAt s p ^^ bitAt t p) = burst at0 m p) (k : Nat) (hk : k < 32) (hn : at0 + k < 8 * s.length) (hm : m.getLsbD k = true) : more 0#32 s ≠ more 0#32 t := by
  intro h
  have h2 : all (~~~(0#32)) s = all (~~~(0#32)) t := by
    unfold more inv at h
    have := congrArg (fun x => ~~~x) h
    simpa using this
  have h3 : all (~~~(0#32)) s ^^^ all (~~~(0#32)) t = 0#32 := by rw [h2]; simp
  rw [all_feed, all_feed, hl, ← feed_xor, feed_congr _ _ _ _ hb] at h3
  have e : (~~~(0#32) ^^^ ~~~(0#32)) = 0#32 := by decide
  rw [e] at h3
  exact feed_burst at0 m _ k hk hn hm h3

end Go.Proofs.YticncaoecoehkaaDoor.Crc
