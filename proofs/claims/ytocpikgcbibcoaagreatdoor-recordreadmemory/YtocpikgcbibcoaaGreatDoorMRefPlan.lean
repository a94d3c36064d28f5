import Derived.Test.YtocpikgcbibcoaaGreatDoorRows
import Derived.Test.YtocpikgcbibcoaaGreatDoorMSumWalks2
import Derived.Test.YtocpikgcbibcoaaGreatDoorMShaWords
import Derived.Test.YtocpikgcbibcoaaGreatDoorMRdKit
import Derived.Test.YtocpikgcbibcoaaGreatDoorMPadWalks
namespace Go.Proofs.YtocpikgcbibcoaaGreatDoor.shaw
open Go.ChangeShapes Go.WideShapes Go.ChangeAt Go.RowKit Go.Proofs.YtocpikgcbibcoaaGreatDoor.common

theorem gFirst : Tryz.prog.globalNamed "usher/sums.firstWords" = some 15 := by kernel_rfl
theorem gFirstType : (Tryz.prog.globals[15]?).map (·.type) = some 115 := by kernel_rfl
theorem gRound : Tryz.prog.globalNamed "usher/sums.roundWords" = some 18 := by kernel_rfl
theorem gRoundType : (Tryz.prog.globals[18]?).map (·.type) = some 132 := by kernel_rfl
theorem cells8 : Tryz.prog.cellsOf 115 = 8 := by kernel_rfl
theorem cells64 : Tryz.prog.cellsOf 132 = 64 := by kernel_rfl
theorem cells1 : Tryz.prog.cellsOf 114 = 1 := by kernel_rfl

theorem kGet : ∀ k : Fin 64, ([1116352408, 1899447441, 3049323471, 3921009573, 961987163, 1508970993, 2453635748, 2870763221, 3624381080, 310598401, 607225278, 1426881987, 1925078388, 2162078206, 2614888103, 3248222580, 3835390401, 4022224774, 264347078, 604807628, 770255983, 1249150122, 1555081692, 1996064986, 2554220882, 2821834349, 2952996808, 3210313671, 3336571891, 3584528711, 113926993, 338241895, 666307205, 773529912, 1294757372, 1396182291, 1695183700, 1986661051, 2177026350, 2456956037, 2730485921, 2820302411, 3259730800, 3345764771, 3516065817, 3600352804, 4094571909, 275423344, 430227734, 506948616, 659060556, 883997877, 958139571, 1322822218, 1537002063, 1747873779, 1955562222, 2024104815, 2227730452, 2361852424, 2428436474, 2756734187, 3204031479, 3329325298] : List Int).getD k.val 0 = ((Sha.K.getD k.val 0#32).toNat : Int) := by decide
theorem fGet : ∀ k : Fin 8, [.int .u32 1779033703, .int .u32 3144134277, .int .u32 1013904242, .int .u32 2773480762, .int .u32 1359893119, .int .u32 2600822924, .int .u32 528734635, .int .u32 1541459225][k.val]? = some (Value.int .u32 (([1779033703, 3144134277, 1013904242, 2773480762, 1359893119, 2600822924, 528734635, 1541459225] : List Int).getD k.val 0)) := by
  intro k
  match k with
  | 0 | 1 | 2 | 3 | 4 | 5 | 6 | 7 => rfl

theorem fwTab {W : World} {rest : List (String × DataW Unit)} (h : laidMet Tryz.prog (("usher/sums.firstWords", Rows.laid_usher_sums_firstWords) :: rest) W) : FW W := by
  have t : Lib.TabIs Tryz.prog W "usher/sums.firstWords" .u32 [1779033703, 3144134277, 1013904242, 2773480762, 1359893119, 2600822924, 528734635, 1541459225] :=
    Lib.tabIs_of_head (rest := rest) gFirst gFirstType Tryz.underlying115 Tryz.underlying114 cells1 cells8 h
  intro j v hv
  have hj : j < 8 := (List.getElem?_eq_some_iff.1 hv).1
  have h1 := t.cell gFirst j (by simpa using hj)
  rw [Nat.zero_add, h1]
  rw [fGet ⟨j, hj⟩] at hv
  exact hv

theorem rwTab {W : World} {rest : List (String × DataW Unit)} (h : laidMet Tryz.prog (("usher/sums.roundWords", Rows.laid_usher_sums_roundWords) :: rest) W) : RW W := by
  have t : Lib.TabIs Tryz.prog W "usher/sums.roundWords" .u32 [1116352408, 1899447441, 3049323471, 3921009573, 961987163, 1508970993, 2453635748, 2870763221, 3624381080, 310598401, 607225278, 1426881987, 1925078388, 2162078206, 2614888103, 3248222580, 3835390401, 4022224774, 264347078, 604807628, 770255983, 1249150122, 1555081692, 1996064986, 2554220882, 2821834349, 2952996808, 3210313671, 3336571891, 3584528711, 113926993, 338241895, 666307205, 773529912, 1294757372, 1396182291, 1695183700, 1986661051, 2177026350, 2456956037, 2730485921, 2820302411, 3259730800, 3345764771, 3516065817, 3600352804, 4094571909, 275423344, 430227734, 506948616, 659060556, 883997877, 958139571, 1322822218, 1537002063, 1747873779, 1955562222, 2024104815, 2227730452, 2361852424, 2428436474, 2756734187, 3204031479, 3329325298] :=
    Lib.tabIs_of_head (rest := rest) gRound gRoundType Tryz.underlying132 Tryz.underlying114 cells1 cells64 h
  intro i hi
  have h1 := t.cell gRound i (by simpa using hi)
  rw [h1, kGet ⟨i, hi⟩]

theorem sha_any (s : ByteArray) (w : World) (hs : s.size ≤ 562949953421312) (hk : RW w) (hf : FW w) :
    Calls Tryz.prog 51 #[.string s] w fun e w' => e = .returned (.string ⟨(Sha.digest s.data.toList).toArray⟩) ∧ Below w.heap.size w w' := by
  have HK := hide hk
  have HF := hide hf
  have HS := hide hs
  clear hk hf hs
  obtain ⟨D, hD⟩ : ∃ D, (Sha.digest s.data.toList).toArray = D := ⟨_, rfl⟩
  rw [hD]
  have HD := hide hD
  clear hD
  have HNE : Hid (w.heap.size ≠ 18) := fun h => by have := HK.out.lt; omega
  go_enter Tryz.func51, Tryz.ntmps51
  go_wp2_with fail
  refine (newHash_any _ HF.out).mono ?_
  rintro e w1 ⟨rfl, h1, b1, _⟩
  have H1 := hide h1
  have B1 := hide b1
  have HK1 := hide (HK.out.below b1 HK.out.lt)
  clear h1 b1
  go_wp2_with fail
  refine (add_any w.heap.size 0 [] s w1 (by have := HS.out; simp; omega) H1.out HK1.out HNE.out).mono ?_
  rintro e w2 ⟨rfl, h2, k2⟩
  have B2 : Hid (Below w.heap.size w w2) := B1.out.trans (k2.Below (Nat.le_refl _) B1.out.size)
  have H2 := hide h2
  have HK2 := hide (HK1.out.kept k2 HNE.out)
  clear h2 k2
  go_wp2_with fail
  refine (sum_any w.heap.size 0 s.data.toList w2 (by have := HS.out; simpa using this) H2.out HK2.out).mono ?_
  rintro e w3 ⟨rfl, b3⟩
  rw [HD.out]
  have B3 : Hid (Below w.heap.size w w3) := B2.out.trans (b3.mono B2.out.size)
  clear b3
  go_wp2_with fail
  go_ret
  exact ⟨rfl, B3.out⟩

end Go.Proofs.YtocpikgcbibcoaaGreatDoor.shaw

namespace Go.Proofs.YtocpikgcbibcoaaGreatDoor.refw
open Go.ChangeShapes Go.WideShapes Go.ChangeAt Go.RowKit Go.Proofs.YtocpikgcbibcoaaGreatDoor.common Go.Proofs.YtocpikgcbibcoaaGreatDoor.shaw

end Go.Proofs.YtocpikgcbibcoaaGreatDoor.refw

namespace Go.Proofs.YtocpikgcbibcoaaGreatDoor.refw
open Go.ChangeShapes Go.WideShapes Go.ChangeAt Go.RowKit Go.Proofs.YtocpikgcbibcoaaGreatDoor.common Go.Proofs.YtocpikgcbibcoaaGreatDoor.shaw

/-- the padded text -/
def full (l : List UInt8) : List UInt8 := l ++ Sha.pad l.length

end Go.Proofs.YtocpikgcbibcoaaGreatDoor.refw

namespace Go.Proofs.YtocpikgcbibcoaaGreatDoor.refw
open Go.ChangeShapes Go.WideShapes Go.ChangeAt Go.RowKit Go.Proofs.YtocpikgcbibcoaaGreatDoor.common Go.Proofs.YtocpikgcbibcoaaGreatDoor.shaw
attribute [local go_sem ↓] Go.wp_at_zero Go.wp_at_succ

/-- the q-th piece of the padded text -/
def piece (l : List UInt8) (q : Nat) : List UInt8 := ((full l).drop (64 * q)).take 64

end Go.Proofs.YtocpikgcbibcoaaGreatDoor.refw
