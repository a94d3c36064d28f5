import Derived.Test.YthobocfpfolhiaaDoorKitWalks
import Derived.Test.YthobocfpfolhiaaDoorCrcTab
import Derived.Laws.IdiomStrings
import Derived.Laws.BytesArg
namespace Go.Proofs.YthobocfpfolhiaaDoor.flipw
open Go.ChangeShapes Go.WideShapes Go.ChangeAt Go.RowKit Go.Proofs.YthobocfpfolhiaaDoor.common Go.Proofs.YthobocfpfolhiaaDoor.kitw
open Go.Proofs.YthobocfpfolhiaaDoor.crcw (V Tab)

/-- the bytes l lie at the head of the block g, which may be written -/
def Row (w : World) (g : Nat) (l : List UInt8) : Prop := (∃ cur t, w.heap[g]? = some (.cells cur t (0, 0))) ∧ ∀ j (h : j < l.length), w.cell? ⟨g, j, none⟩ = some (B l[j])

theorem Row.lt {w : World} {g : Nat} {l : List UInt8} (h : Row w g l) : g < w.heap.size := by
  obtain ⟨⟨cur, t, hg⟩, _⟩ := h
  exact (Array.getElem?_eq_some_iff.1 hg).1

theorem Row.frozen {w : World} {g : Nat} {l : List UInt8} (h : Row w g l) (j : Nat) : w.frozen? ⟨g, j, none⟩ = false := by
  obtain ⟨⟨cur, t, hg⟩, _⟩ := h
  simp [World.frozen?, hg]

theorem Row.set {w : World} {g : Nat} {l : List UInt8} (h : Row w g l) (j : Nat) (hj : j < l.length) (c : UInt8) : Row (w.setCell ⟨g, j, none⟩ (B c)) g (l.set j c) := by
  refine ⟨?_, ?_⟩
  · obtain ⟨⟨cur, t, hg⟩, _⟩ := h
    exact ⟨_, t, heap_setCell_same w g j cur t (B c) hg⟩
  · intro i hi
    have hi' : i < l.length := by simpa using hi
    by_cases e : i = j
    · subst e
      rw [World.cell?_setCell_same _ _ _ (h.2 i hi')]; simp
    · have hne : (⟨g, j, none⟩ : Addr) ≠ ⟨g, i, none⟩ := fun he => e (Addr.mk.inj he).2.1.symm
      rw [World.cell?_setCell_other _ _ _ _ hne, h.2 i hi', List.getElem_set_ne (by omega)]

theorem row_of_own {w : World} {base : Nat} {e : TypeId} {v : Value} {l : List UInt8} (h : w.ownsRow base e 1 v l.length (l.map B)) (hl : 0 < l.length) : ∃ g cap, v = .slice (some ⟨g, 0, none⟩) l.length cap ∧ base ≤ g ∧ Row w g l ∧ l.length ≤ cap := by
  rcases h.2 with ⟨_, h0⟩ | ⟨g, cap, cur, rfl, hg, hh, hn, _, hsz, htk⟩
  · omega
  · refine ⟨g, cap, rfl, hg, ⟨⟨cur, e, hh⟩, ?_⟩, hn⟩
    intro j hj
    have : (cur.toList.take (l.length * 1))[j]? = (l.map B)[j]? := by rw [htk]
    rw [List.getElem?_take_of_lt (by omega)] at this
    simp only [World.cell?, hh]
    simp [hj] at this
    simpa using this

def hit (n a : Nat) (m : BitVec 32) (k : Nat) : Bool := decide (a + k < 8 * n) && m.getLsbD k
def turned (l : List UInt8) (p : Nat) : List UInt8 := l.set (p / 8) (l.getD (p / 8) 0 ^^^ UInt8.ofNat (2 ^ (p % 8)))
def flipTo (l : List UInt8) (a : Nat) (m : BitVec 32) : Nat → List UInt8
  | 0 => l
  | k + 1 => if hit l.length a m k = true then turned (flipTo l a m k) (a + k) else flipTo l a m k
def anyTo (n a : Nat) (m : BitVec 32) : Nat → Bool
  | 0 => false
  | k + 1 => if hit n a m k = true then true else anyTo n a m k

theorem mask_bit (m : BitVec 32) (k : Nat) : bits .and .u32 ((m.toNat : Int) / 2 ^ k) 1 = if m.getLsbD k = true then 1 else 0 := by
  have e : (m.toNat : Int) / 2 ^ k = ((m >>> k).toNat : Int) := by
    rw [BitVec.toNat_ushiftRight, Nat.shiftRight_eq_div_pow]; simp
  rw [e, crcw.low_bit]; simp only [BitVec.getLsbD_ushiftRight, Nat.add_zero]

theorem xor_nat (x : UInt8) (q : Nat) (hq : q < 256) : bits .xor .u8 (x.toNat : Int) ((q : Int) % 256) = ((x ^^^ UInt8.ofNat q).toNat : Int) := by
  have e : (q : Int) % 256 = (q : Int) := by omega
  rw [e, u8_xor_nat _ _ x.toNat_lt hq, UInt8.toNat_xor]
  have : (UInt8.ofNat q).toNat = q := by
    rw [UInt8.toNat_ofNat']; exact Nat.mod_eq_of_lt (by simpa using hq)
  rw [this]

theorem xor_bit (x : UInt8) (p : Nat) : bits .xor .u8 (x.toNat : Int) (2 ^ (p % 8) % 256) = ((x ^^^ UInt8.ofNat (2 ^ (p % 8))).toNat : Int) := by
  have hp : 2 ^ (p % 8) < 256 := Nat.pow_lt_pow_of_lt (a := 2) (m := 8) (by decide) (Nat.mod_lt _ (by decide))
  have e : ((2 : Int) ^ (p % 8)) = ((2 ^ (p % 8) : Nat) : Int) := (Int.natCast_pow 2 (p % 8)).symm
  rw [e]
  exact xor_nat x _ hp

theorem add_at (g j : Nat) : (⟨g, 0, none⟩ : Addr).add j = ⟨g, j, none⟩ := by unfold Addr.add; split <;> simp_all

theorem flipTo_yes {n : Nat} {l : List UInt8} (hn : l.length = n) {a : Nat} {m : BitVec 32} {k : Nat} (h : hit n a m k = true) : flipTo l a m (k + 1) = turned (flipTo l a m k) (a + k) := by
  subst hn; simp only [flipTo, h, if_pos]
theorem flipTo_no {n : Nat} {l : List UInt8} (hn : l.length = n) {a : Nat} {m : BitVec 32} {k : Nat} (h : hit n a m k = false) : flipTo l a m (k + 1) = flipTo l a m k := by
  subst hn; simp [flipTo, h]
theorem anyTo_yes {n a : Nat} {m : BitVec 32} {k : Nat} (h : hit n a m k = true) : anyTo n a m (k + 1) = true := by simp [anyTo, h]
theorem anyTo_no {n a : Nat} {m : BitVec 32} {k : Nat} (h : hit n a m k = false) : anyTo n a m (k + 1) = anyTo n a m k := by simp [anyTo, h]

theorem flipTo_length (l : List UInt8) (a : Nat) (m : BitVec 32) (k : Nat) : (flipTo l a m k).length = l.length := by
  induction k with
  | zero => rfl
  | succ k ih => simp only [flipTo]; split <;> simp [turned, ih]

set_option maxHeartbeats 400000 in
theorem flipped_some (s : ByteArray) (a : Nat) (m : BitVec 32) (w : World) (hs : s.size ≤ reachBytes) (h0 : 0 < s.size) (ha : a < 8 * s.size) :
    Calls Tryd.prog 14 #[.string s, .int .i64 (a : Int), V m] w fun e w' => e = .returned (.tuple #[.string ⟨(flipTo s.data.toList a m 32).toArray⟩, .bool (anyTo s.size a m 32)]) ∧ Below w.heap.size w w' := by
  have HZ := hide hs
  unfold reachBytes at hs
  go_enter Tryd.func14, Tryd.ntmps14
  go_wp2_with fail
  refine (bytes_any s w HZ.out).mono ?_
  rintro e w1 ⟨v, rfl, hown, hnil, hb⟩
  have hlen : s.data.toList.length = s.size := by simp
  have hown2 : w1.ownsRow w.heap.size 5 1 v s.data.toList.length (s.data.toList.map B) := by rw [hlen]; exact hown
  obtain ⟨g, cap, hv, hg, hrow, hcap⟩ := row_of_own hown2 (by rw [hlen]; exact h0)
  rw [hv, hlen]
  rw [hlen] at hcap
  clear hown hown2 hnil hv hlen v
  have HR := hide hrow
  have HB := hide hb
  clear hrow hb
  go_wp2_with fail
  go_loopw [9, 10] (fun y i wr => ∃ k : Nat, k ≤ 32 ∧ i = .int .i64 k ∧ y = .bool (anyTo s.size a m k) ∧ Row wr g (flipTo s.data.toList a m k) ∧ Below w.heap.size w wr) (fun _ i _ => 32 - (intOf i).toNat)
  case atStart => exact ⟨0, Nat.zero_le _, rfl, rfl, HR.out, HB.out⟩
  case round =>
    obtain ⟨k, hk, rfl, rfl, hrow, hbl⟩ := hrel
    have hfl := flipTo_length s.data.toList a m k
    have hfl2 : (flipTo s.data.toList a m k).length = s.size := by rw [hfl]; simp
    clear hfl
    have hbit := mask_bit m k
    have H2 := hide hbl
    have H1 := hide hrow
    have HL := hide hfl2
    have HN : Hid (s.data.toList.length = s.size) := by show s.data.toList.length = s.size; simp
    clear hbl hrow hfl2
    by_cases hlt : k < 32
    · by_cases hin : a + k < 8 * s.size
      · have hf := H1.out.frozen ((a + k) / 8)
        obtain ⟨x, hx, hc⟩ : ∃ x : UInt8, (flipTo s.data.toList a m k).getD ((a + k) / 8) 0 = x ∧ wr.cell? ⟨g, (a + k) / 8, none⟩ = some (B x) := by
          have hj : (a + k) / 8 < (flipTo s.data.toList a m k).length := by rw [HL.out]; omega
          exact ⟨_, rfl, by rw [H1.out.2 _ hj]; simp [List.getD, hj]⟩
        have HX := hide hx
        clear hx
        cases hm : m.getLsbD k
        · have HM := hide hm
          rw [hm, if_neg (by decide)] at hbit
          clear hm hc hf
          have hh : hit s.size a m k = false := by simp [hit, HM.out]
          have HH := hide hh
          clear hh
          go_wp2
          go_roundw
          case rel => exact ⟨k + 1, by omega, by go_num, by rw [anyTo_no HH.out], by rw [flipTo_no HN.out HH.out]; exact H1.out, H2.out⟩
          case measure => simp [intOf]; omega
        · have HM := hide hm
          rw [hm, if_pos rfl] at hbit
          clear hm
          have hh : hit s.size a m k = true := by simp [hit, HM.out, hin]
          have HH := hide hh
          clear hh
          go_wp2
          go_roundw
          case rel =>
            refine ⟨k + 1, by omega, by go_num, by rw [anyTo_yes HH.out], ?_, H2.out.setCell hg _⟩
            rw [xor_bit, flipTo_yes HN.out HH.out]
            have hj : (a + k) / 8 < (flipTo s.data.toList a m k).length := by rw [HL.out]; omega
            have := H1.out.set ((a + k) / 8) hj (x ^^^ UInt8.ofNat (2 ^ ((a + k) % 8)))
            unfold turned
            rw [HX.out]
            exact this
          case measure => simp [intOf]; omega
      · have hh : hit s.size a m k = false := by simp [hit, hin]
        have HH := hide hh
        clear hh hbit
        go_wp2
        go_roundw
        case rel => exact ⟨k + 1, by omega, by go_num, by rw [anyTo_no HH.out], by rw [flipTo_no HN.out HH.out]; exact H1.out, H2.out⟩
        case measure => simp [intOf]; omega
    · obtain rfl : k = 32 := by omega
      clear hbit
      have hconv : (convert 24 9 (.slice (some ⟨g, 0, none⟩) s.size cap)).run Tryd.prog wr = .ok (.string ⟨(flipTo s.data.toList a m 32).toArray⟩) wr := by
        have := run_convert_bytes_back (P := Tryd.prog) wr 24 9 5 ⟨g, 0, none⟩ cap (flipTo s.data.toList a m 32) Tryd.underlying24 Tryd.underlying5 Tryd.underlying9 (by
          intro j hj
          rw [add_at]
          exact H1.out.2 j hj)
        rw [HL.out] at this
        exact this
      go_wp2
      go_ret2
      exact ⟨rfl, H2.out⟩

set_option maxHeartbeats 400000 in
theorem flipped_none (s : ByteArray) (m : BitVec 32) (w : World) (h0 : s.size = 0) :
    Calls Tryd.prog 14 #[.string s, .int .i64 0, V m] w fun e w' => e = .returned (.tuple #[.string ByteArray.empty, .bool false]) ∧ Below w.heap.size w w' := by
  have HZ : Hid (s.size ≤ reachBytes) := by show s.size ≤ reachBytes; rw [h0]; exact Nat.zero_le _
  have H0 := hide h0
  clear h0
  go_enter Tryd.func14, Tryd.ntmps14
  go_wp2_with fail
  refine (bytes_any s w HZ.out).mono ?_
  rintro e w1 ⟨v, rfl, _, hv, hb⟩
  rw [hv H0.out]
  have HB := hide hb
  clear hb hv
  go_wp2_with fail
  go_loop [9, 10] (fun y i => ∃ k : Nat, k ≤ 32 ∧ i = .int .i64 k ∧ y = .bool false) (fun _ i => 32 - (intOf i).toNat)
  case atStart => exact ⟨0, Nat.zero_le _, rfl, rfl⟩
  case round =>
    obtain ⟨k, hk, rfl, rfl⟩ := hrel
    by_cases hlt : k < 32
    · go_wp2
      go_round
      case rel => exact ⟨k + 1, by omega, by go_num, rfl⟩
      case measure => simp [intOf]; omega
    · have hconv := fun (wx : World) => run_convert_bytes_nil (P := Tryd.prog) wx 24 5 Tryd.underlying24 Tryd.underlying5 0 0 9 Tryd.underlying9
      go_wp2
      go_ret2
      exact ⟨rfl, HB.out⟩

end Go.Proofs.YthobocfpfolhiaaDoor.flipw
