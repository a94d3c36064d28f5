import Derived.Test.YtkkkgpcdnjijbabDoorTmScope
import Derived.Test.YtkkkgpcdnjijbabDoorStrBase
import Derived.Test.YtkkkgpcdnjijbabDoorTermLays
import Derived.Shelf.Slices.Clone
import Derived.Shelf.Slices.CompactS
import Derived.Shelf.Slices.In.SortAlone
import Derived.Sort.EveryDepth
import Derived.Sort.OwnSorted
import Derived.Lib.OwnBridge
import Derived.Lib.RowBridge
import Derived.Shelf.Strings.SplitShaped
namespace Go.Proofs.YtkkkgpcdnjijbabDoor.tm
open Go.ChangeShapes Go.WideShapes Go.ChangeAt Go.RowKit Go.Sort Go.Proofs.YtkkkgpcdnjijbabDoor.common Go.Proofs.YtkkkgpcdnjijbabDoor.bk
attribute [local go_sem ↓] Go.wp_at_zero Go.wp_at_succ

/-- in order, each once -/
def rise (ss : List (List UInt8)) : List (List UInt8) := Lib.compact (ss.mergeSort fun x y => decide (x ≤ y))
def raw (zs : List ByteArray) : List (List UInt8) := zs.map (·.data.toList)
def riseB (zs : List ByteArray) : List ByteArray := (rise (raw zs)).map fun l => ⟨l.toArray⟩
theorem riseB_sc (zs : List ByteArray) : ss.sc (riseB zs) = (rise (raw zs)).map encStr := by simp [ss.sc, riseB]
theorem raw_enc (zs : List ByteArray) : (raw zs).map encStr = ss.sc zs := by simp [raw, ss.sc]

theorem left_of {w w1 : World} {g cap n nn q : Nat} {os : Array Obj} {ss : List (List UInt8)} (hown : w1.ownsRow w.heap.size 9 1 (.slice (some ⟨g, 0, none⟩) n cap) n (ss.map encStr)) (hbel : Go.RowKit.Below w.heap.size w w1) (hbg : w.heap.size ≤ g) (hlen : ss.length = n) :
    (putRow encStr (Sort.ahead (grow (putRow encStr (Sort.ahead w1 nn) g 0 (ss.mergeSort fun x y => decide (x ≤ y)).toArray) os) q) g 0 (rise ss ++ List.replicate (n - (rise ss).length) []).toArray).ownsRow w.heap.size 9 1 (.slice (some ⟨g, 0, none⟩) (rise ss).length cap) (rise ss).length ((rise ss).map encStr) ∧
    Go.RowKit.Below w.heap.size w (putRow encStr (Sort.ahead (grow (putRow encStr (Sort.ahead w1 nn) g 0 (ss.mergeSort fun x y => decide (x ≤ y)).toArray) os) q) g 0 (rise ss ++ List.replicate (n - (rise ss).length) []).toArray) := by
  have hl2 : (ss.mergeSort fun x y => decide (x ≤ y)).length = ss.length := List.length_mergeSort ss
  have hle := Lib.compact_length_le (ss.mergeSort fun x y => decide (x ≤ y))
  subst hlen
  rcases hown.2 with ⟨h0, _⟩ | ⟨g', cap', cur, hv, hbase, hb, h1, h2, h3, h4⟩
  · cases h0
  cases hv
  have hs := ownsRow_sorted (n := nn) (os := os) (ts := ss.mergeSort fun x y => decide (x ≤ y)) hl2 hbase hb h1 h2 h3
  have hc := Lib.ownsRow_putRow (q := q) (k := (rise ss).length) (ys := rise ss ++ List.replicate (ss.length - (rise ss).length) []) hs (by unfold rise; simp; omega) (by unfold rise; omega)
  rw [List.take_left] at hc
  exact ⟨hc, Lib.below_putRow (hbel.grown (grownBy_sorted _) hbel.size (fun j hj => by cases hj; exact hbase)) hbg⟩

theorem clone_c (b n c : Nat) (zs : List ByteArray) (w : World) (hz : n ≤ zs.length) (hbig : n * 16 ≤ 140737488355328) (hc : ∀ j, j < zs.length → w.cell? ⟨b, 0 + j, none⟩ = some (.string (zs.getD j ByteArray.empty))) :
    Calls Tryd.prog 48 #[.slice (some ⟨b, 0, none⟩) n c] w fun e w' => ∃ v', e = .returned v' ∧ w'.ownsRow w.heap.size 9 1 v' n ((zs.take n).map (Value.string)) ∧ v' ≠ .slice none 0 0 ∧ Go.RowKit.Below w.heap.size w w' :=
  Any.slices_Clone_string jl.lays216 b 0 n c zs w hz hbig hc
theorem sort_c (blk cap : Nat) (zs : List (List UInt8)) (w : World) (hH : Holds encStr w blk 0 zs.toArray) (hblk : blk < w.heap.size) (hsz : zs.length < 4611686018427387904) :
    Calls Tryd.prog 49 #[.slice (some ⟨blk, 0, none⟩) zs.length cap] w fun e w' =>
      e = .returned (.tuple #[]) ∧ ∃ n os, w' = grow (putRow encStr (Sort.ahead w n) blk 0 (zs.mergeSort fun x y => decide (x ≤ y)).toArray) os :=
  calls_of_every_depth fun D => AnyS.slices_Sort_string_alone jl.lays190 D blk 0 cap zs w hH hblk hsz
theorem compact_c (blk cap : Nat) (zs : List (List UInt8)) (w : World) (hH : Holds encStr w blk 0 zs.toArray) (hsz : zs.length ≤ 9223372036854775807) (hcap : zs.length ≤ cap) :
    Calls Tryd.prog 50 #[.slice (some ⟨blk, 0, none⟩) zs.length cap] w fun e w' => e = .returned (.slice (some ⟨blk, 0, none⟩) (Lib.compact zs).length cap) ∧ ∃ q, w' = putRow encStr (Sort.ahead w q) blk 0 (Lib.compact zs ++ List.replicate (zs.length - (Lib.compact zs).length) []).toArray :=
  Any.slices_Compact_string jl.lays194 blk 0 cap zs w hH hsz hcap

set_option maxRecDepth 100000 in
set_option maxHeartbeats 3200000 in
theorem risingOnce_any (b c : Nat) (zs : List ByteArray) (w : World) (hbig : zs.length * 16 ≤ 140737488355328) (hc : ∀ j, j < zs.length → w.cell? ⟨b, 0 + j, none⟩ = some (.string (zs.getD j ByteArray.empty))) :
    Calls Tryd.prog 28 #[.slice (some ⟨b, 0, none⟩) zs.length c] w fun e w' => ∃ v', e = .returned v' ∧ w'.ownsRow w.heap.size 9 1 v' (riseB zs).length (ss.sc (riseB zs)) ∧ Go.RowKit.Below w.heap.size w w' := by
  have HC := hide (clone_c b zs.length c zs w (Nat.le_refl _) hbig hc)
  clear hc
  obtain ⟨n, hn⟩ : ∃ n, n = zs.length := ⟨_, rfl⟩
  have hRL : (riseB zs).length = (rise (raw zs)).length := by simp [riseB]
  have HR := hide hRL
  have HS := hide (riseB_sc zs)
  have HE := hide (raw_enc zs)
  have HN := hide hn
  clear hRL
  go_enter Tryd.func28, Tryd.ntmps28
  go_wp2_with fail
  refine HC.out.mono ?_
  rintro e w1 ⟨v1, rfl, hown, hnn, hbel⟩
  rw [List.take_length, ← HN.out] at hown
  have hown' : w1.ownsRow w.heap.size 9 1 v1 n ((raw zs).map encStr) := by rw [HE.out]; exact hown
  obtain ⟨g, cap, rfl, hbg, hgl, hncap, hcm, hlen, hH⟩ := Lib.holds_of_ownsRow hown' hnn
  have HSo := hide (sort_c g cap (raw zs) w1 hH hgl (by omega))
  rw [hlen] at HSo
  have HO := hide hown'
  have HBel := hide hbel
  have HBg := hide hbg
  have HGl := hide hgl
  have HLen := hide hlen
  have HHo := hide hH
  have HCap := hide hncap
  clear hown hown' hnn hbel hbg hgl hH hlen hncap hn
  go_wp2_with fail
  refine HSo.out.mono ?_
  rintro e w2 ⟨rfl, nn, os, hw2⟩
  have hl2 : ((raw zs).mergeSort fun x y => decide (x ≤ y)).length = n := by rw [List.length_mergeSort]; exact HLen.out
  have hH2 : Holds encStr w2 g 0 ((raw zs).mergeSort fun x y => decide (x ≤ y)).toArray := by
    rw [hw2]
    exact holds_grow encStr _ os g 0 _ (by simpa [putRow, mapBlock, Sort.ahead] using HGl.out) (holds_putRow encStr _ g 0 _ _ (holds_ahead encStr w1 nn g 0 _ HHo.out) (by simp))
  have HCo := hide (compact_c g cap ((raw zs).mergeSort fun x y => decide (x ≤ y)) w2 hH2 (by rw [hl2, HN.out]; omega) (by rw [hl2]; exact HCap.out))
  rw [hl2] at HCo
  have HW2 := hide hw2
  clear hw2 hH2 hl2
  go_wp2_with fail
  refine HCo.out.mono ?_
  rintro e w3 ⟨rfl, q, hw3⟩
  have HL := hide (left_of (q := q) (nn := nn) (os := os) HO.out HBel.out HBg.out HLen.out)
  have HW3 : Hid (w3 = putRow encStr (Sort.ahead (grow (putRow encStr (Sort.ahead w1 nn) g 0 ((raw zs).mergeSort fun x y => decide (x ≤ y)).toArray) os) q) g 0 (rise (raw zs) ++ List.replicate (n - (rise (raw zs)).length) []).toArray) := by
    show _ = _
    rw [hw3, HW2.out]; rfl
  rw [← HW3.out] at HL
  clear hw3
  go_wp2_with fail
  go_ret
  refine ⟨_, rfl, ?_, HL.out.2⟩
  rw [HS.out, HR.out]
  exact HL.out.1

end Go.Proofs.YtkkkgpcdnjijbabDoor.tm
