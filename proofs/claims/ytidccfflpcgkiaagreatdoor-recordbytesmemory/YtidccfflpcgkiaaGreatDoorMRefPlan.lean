import Derived.Test.YtidccfflpcgkiaaGreatDoorRows
import Derived.Test.YtidccfflpcgkiaaGreatDoorMSumWalks2
import Derived.Test.YtidccfflpcgkiaaGreatDoorMShaWords
import Derived.Test.YtidccfflpcgkiaaGreatDoorMRdKit
import Derived.Test.YtidccfflpcgkiaaGreatDoorMPadWalks
namespace Go.Proofs.YtidccfflpcgkiaaGreatDoor.shaw
open Go.ChangeShapes Go.WideShapes Go.ChangeAt Go.RowKit Go.Proofs.YtidccfflpcgkiaaGreatDoor.common

theorem gFirst : Tryz.prog.globalNamed "usher/sums.firstWords" = some 15 := by kernel_rfl
theorem gFirstType : (Tryz.prog.globals[15]?).map (·.type) = some 108 := by kernel_rfl
theorem gRound : Tryz.prog.globalNamed "usher/sums.roundWords" = some 16 := by kernel_rfl
theorem gRoundType : (Tryz.prog.globals[16]?).map (·.type) = some 125 := by kernel_rfl
theorem cells8 : Tryz.prog.cellsOf 108 = 8 := by kernel_rfl
theorem cells64 : Tryz.prog.cellsOf 125 = 64 := by kernel_rfl
theorem cells1 : Tryz.prog.cellsOf 107 = 1 := by kernel_rfl

theorem kGet : ∀ k : Fin 64, ([1116352408, 1899447441, 3049323471, 3921009573, 961987163, 1508970993, 2453635748, 2870763221, 3624381080, 310598401, 607225278, 1426881987, 1925078388, 2162078206, 2614888103, 3248222580, 3835390401, 4022224774, 264347078, 604807628, 770255983, 1249150122, 1555081692, 1996064986, 2554220882, 2821834349, 2952996808, 3210313671, 3336571891, 3584528711, 113926993, 338241895, 666307205, 773529912, 1294757372, 1396182291, 1695183700, 1986661051, 2177026350, 2456956037, 2730485921, 2820302411, 3259730800, 3345764771, 3516065817, 3600352804, 4094571909, 275423344, 430227734, 506948616, 659060556, 883997877, 958139571, 1322822218, 1537002063, 1747873779, 1955562222, 2024104815, 2227730452, 2361852424, 2428436474, 2756734187, 3204031479, 3329325298] : List Int).getD k.val 0 = ((Sha.K.getD k.val 0#32).toNat : Int) := by decide
theorem fGet : ∀ k : Fin 8, [.int .u32 1779033703, .int .u32 3144134277, .int .u32 1013904242, .int .u32 2773480762, .int .u32 1359893119, .int .u32 2600822924, .int .u32 528734635, .int .u32 1541459225][k.val]? = some (Value.int .u32 (([1779033703, 3144134277, 1013904242, 2773480762, 1359893119, 2600822924, 528734635, 1541459225] : List Int).getD k.val 0)) := by
  intro k
  match k with
  | 0 | 1 | 2 | 3 | 4 | 5 | 6 | 7 => rfl

theorem fwTab {W : World} {rest : List (String × DataW Unit)} (h : laidMet Tryz.prog (("usher/sums.firstWords", Rows.laid_usher_sums_firstWords) :: rest) W) : FW W := by
  have t : Lib.TabIs Tryz.prog W "usher/sums.firstWords" .u32 [1779033703, 3144134277, 1013904242, 2773480762, 1359893119, 2600822924, 528734635, 1541459225] :=
    Lib.tabIs_of_head (rest := rest) gFirst gFirstType Tryz.underlying108 Tryz.underlying107 cells1 cells8 h
  intro j v hv
  have hj : j < 8 := (List.getElem?_eq_some_iff.1 hv).1
  have h1 := t.cell gFirst j (by simpa using hj)
  rw [Nat.zero_add, h1]
  rw [fGet ⟨j, hj⟩] at hv
  exact hv

theorem rwTab {W : World} {rest : List (String × DataW Unit)} (h : laidMet Tryz.prog (("usher/sums.roundWords", Rows.laid_usher_sums_roundWords) :: rest) W) : RW W := by
  have t : Lib.TabIs Tryz.prog W "usher/sums.roundWords" .u32 [1116352408, 1899447441, 3049323471, 3921009573, 961987163, 1508970993, 2453635748, 2870763221, 3624381080, 310598401, 607225278, 1426881987, 1925078388, 2162078206, 2614888103, 3248222580, 3835390401, 4022224774, 264347078, 604807628, 770255983, 1249150122, 1555081692, 1996064986, 2554220882, 2821834349, 2952996808, 3210313671, 3336571891, 3584528711, 113926993, 338241895, 666307205, 773529912, 1294757372, 1396182291, 1695183700, 1986661051, 2177026350, 2456956037, 2730485921, 2820302411, 3259730800, 3345764771, 3516065817, 3600352804, 4094571909, 275423344, 430227734, 506948616, 659060556, 883997877, 958139571, 1322822218, 1537002063, 1747873779, 1955562222, 2024104815, 2227730452, 2361852424, 2428436474, 2756734187, 3204031479, 3329325298] :=
    Lib.tabIs_of_head (rest := rest) gRound gRoundType Tryz.underlying125 Tryz.underlying107 cells1 cells64 h
  intro i hi
  have h1 := t.cell gRound i (by simpa using hi)
  rw [h1, kGet ⟨i, hi⟩]

theorem sha_any (s : ByteArray) (w : World) (hs : s.size ≤ 562949953421312) (hk : RW w) (hf : FW w) :
    Calls Tryz.prog 41 #[.string s] w fun e w' => e = .returned (.string ⟨(Sha.digest s.data.toList).toArray⟩) ∧ Below w.heap.size w w' := by
  have HK := hide hk
  have HF := hide hf
  have HS := hide hs
  clear hk hf hs
  obtain ⟨D, hD⟩ : ∃ D, (Sha.digest s.data.toList).toArray = D := ⟨_, rfl⟩
  rw [hD]
  have HD := hide hD
  clear hD
  have HNE : Hid (w.heap.size ≠ 16) := fun h => by have := HK.out.lt; omega
  go_enter Tryz.func41, Tryz.ntmps41
  go_wp2_with fail
  refine (newHash_any _ HF.out).mono ?_
  rintro e w1 ⟨rfl, h1, b1, _⟩
  have H1 := hide h1
  have B1 := hide b1
  have HK1 := hide (HK.out.below b1 HK.out.lt)
  clear h1 b1
  go_wp2_with fail
  refine (add_any w.heap.size 0 [] s w1 (by have := HS.out; simp; omega) H1.out HK1.out HNE.out).mono ?_
  rintro e w2 ⟨rfl, h2, k2⟩
  have B2 : Hid (Below w.heap.size w w2) := B1.out.trans (k2.Below (Nat.le_refl _) B1.out.size)
  have H2 := hide h2
  have HK2 := hide (HK1.out.kept k2 HNE.out)
  clear h2 k2
  go_wp2_with fail
  refine (sum_any w.heap.size 0 s.data.toList w2 (by have := HS.out; simpa using this) H2.out HK2.out).mono ?_
  rintro e w3 ⟨rfl, b3⟩
  rw [HD.out]
  have B3 : Hid (Below w.heap.size w w3) := B2.out.trans (b3.mono B2.out.size)
  clear b3
  go_wp2_with fail
  go_ret
  exact ⟨rfl, B3.out⟩

end Go.Proofs.YtidccfflpcgkiaaGreatDoor.shaw

namespace Go.Proofs.YtidccfflpcgkiaaGreatDoor.refw
open Go.ChangeShapes Go.WideShapes Go.ChangeAt Go.RowKit Go.Proofs.YtidccfflpcgkiaaGreatDoor.common Go.Proofs.YtidccfflpcgkiaaGreatDoor.shaw

theorem max_xor (a : BitVec 32) : bits .xor .u32 (a.toNat : Int) 4294967295 = ((~~~a).toNat : Int) := by
  have h := b_xor a 4294967295#32
  have e : ((4294967295#32).toNat : Int) = 4294967295 := by decide
  rw [e] at h
  rw [h]
  have : a ^^^ 4294967295#32 = ~~~a := by
    apply BitVec.eq_of_getLsbD_eq; intro i hi
    have f : (4294967295#32).getLsbD i = true := by
      have : ∀ k : Fin 32, (4294967295#32).getLsbD k.val = true := by decide
      exact this ⟨i, hi⟩
    simp only [BitVec.getLsbD_xor, f, BitVec.getLsbD_not, hi]; simp
  rw [this]

end Go.Proofs.YtidccfflpcgkiaaGreatDoor.refw

namespace Go.Proofs.YtidccfflpcgkiaaGreatDoor.refw
open Go.ChangeShapes Go.WideShapes Go.ChangeAt Go.RowKit Go.Proofs.YtidccfflpcgkiaaGreatDoor.common Go.Proofs.YtidccfflpcgkiaaGreatDoor.shaw

/-- the padded text -/
def full (l : List UInt8) : List UInt8 := l ++ Sha.pad l.length

theorem full_length (l : List UInt8) : (full l).length = l.length + Sha.padSize l.length := by
  unfold full Sha.pad
  rw [List.length_append, Sha.padTo_length]

theorem full_left (l : List UInt8) (i : Nat) (h : i < l.length) : (full l).getD i 0 = l.getD i 0 := by
  unfold full
  rw [List.getD_eq_getElem?_getD, List.getElem?_append_left h, ← List.getD_eq_getElem?_getD]

theorem full_right (l : List UInt8) (i : Nat) (h : l.length ≤ i) (h2 : i < l.length + Sha.padSize l.length) : (full l).getD i 0 = Sha.padByte l.length (i - l.length) := by
  unfold full
  rw [List.getD_eq_getElem?_getD, List.getElem?_append_right h, ← List.getD_eq_getElem?_getD]
  exact Sha.padTo_get _ _ _ (by omega)

theorem and255 (x : Nat) (h : x < 18446744073709551616) : bits .and .u64 (x : Int) 255 % 4294967296 = ((UInt8.ofNat x).toNat : Int) := by
  have h1 := bits_and_u64_nat x 255 h (by decide)
  rw [show ((255 : Nat) : Int) = 255 from rfl] at h1
  rw [h1, show x &&& 255 = x % 256 from Nat.and_two_pow_sub_one_eq_mod x 8, UInt8.toNat_ofNat']
  omega

theorem amt (M at_ k : Nat) (hM : M < 1125899906842624) (ha : at_ < M) (hk : M - 1 - at_ = k) (hk8 : k < 8) : min (IntKind.u64.wrap (wrap64 (8 * wrap64 (wrap64 ((M : Int) - 1) - (at_ : Int))))).toNat 64 = 8 * k := by
  rw [IntKind.wrap_u64]
  unfold wrap64
  omega

theorem last_byte (n M at_ k : Nat) (hn : n ≤ 562949953421312) (hM : M < 1125899906842624) (ha : at_ < M) (hk : M - 1 - at_ = k) (hk8 : k < 8) :
    bits .and .u64 ((n : Int) * 8 / 2 ^ min (IntKind.u64.wrap (wrap64 (8 * wrap64 (wrap64 ((M : Int) - 1) - (at_ : Int))))).toNat 64) 255 % 4294967296 = ((UInt8.ofNat (8 * n / 2 ^ (8 * k))).toNat : Int) := by
  rw [amt M at_ k hM ha hk hk8]
  have e : ((n : Int) * 8 / 2 ^ (8 * k)) = ((8 * n / 2 ^ (8 * k) : Nat) : Int) := by
    rw [Nat.mul_comm 8 n]; push_cast; rfl
  rw [e]
  exact and255 _ (Nat.lt_of_le_of_lt (Nat.div_le_self _ _) (by omega))

end Go.Proofs.YtidccfflpcgkiaaGreatDoor.refw

namespace Go.Proofs.YtidccfflpcgkiaaGreatDoor.refw
open Go.ChangeShapes Go.WideShapes Go.ChangeAt Go.RowKit Go.Proofs.YtidccfflpcgkiaaGreatDoor.common Go.Proofs.YtidccfflpcgkiaaGreatDoor.shaw
attribute [local go_sem ↓] Go.wp_at_zero Go.wp_at_succ

/-- the q-th piece of the padded text -/
def piece (l : List UInt8) (q : Nat) : List UInt8 := ((full l).drop (64 * q)).take 64

theorem piece_get (l : List UInt8) (q i : Nat) (hi : i < 64) : (piece l q).getD i 0 = (full l).getD (64 * q + i) 0 := by
  unfold piece
  rw [List.getD_eq_getElem?_getD, List.getElem?_take, if_pos hi, List.getElem?_drop, ← List.getD_eq_getElem?_getD]

theorem be_w (x0 x1 x2 x3 : BitVec 32) : bits .or .u32 (bits .or .u32 (bits .or .u32 ((x0.toNat : Int) * 16777216 % 4294967296) ((x1.toNat : Int) * 65536 % 4294967296)) ((x2.toNat : Int) * 256 % 4294967296)) (x3.toNat : Int)
    = (((x0 <<< 24) ||| (x1 <<< 16) ||| (x2 <<< 8) ||| x3).toNat : Int) := by
  have h1 := b_shl x0 24
  have h2 := b_shl x1 16
  have h3 := b_shl x2 8
  have e1 : (2 : Int) ^ 24 = 16777216 := by decide
  have e2 : (2 : Int) ^ 16 = 65536 := by decide
  have e3 : (2 : Int) ^ 8 = 256 := by decide
  rw [e1] at h1; rw [e2] at h2; rw [e3] at h3
  rw [h1, h2, h3, b_or, b_or, b_or]

theorem keep2 {wr : World} {a a0 a1 : Addr} {y0 y1 v : Value} (q0 : wr.cell? a0 = some y0) (q1 : wr.cell? a1 = some y1) (h0 : a ≠ a0) (h1 : a ≠ a1) :
    (wr.setCell a v).drew.cell? a0 = some y0 ∧ (wr.setCell a v).drew.cell? a1 = some y1 :=
  ⟨(World.cell?_setCell_other _ _ _ _ h0).trans q0, (World.cell?_setCell_other _ _ _ _ h1).trans q1⟩

end Go.Proofs.YtidccfflpcgkiaaGreatDoor.refw
