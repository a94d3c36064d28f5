import Derived.Test.YtilhfmhjgfmejaaGreatDoorMTermLays
import Derived.Test.YtilhfmhjgfmejaaGreatDoorMRgBase
import Derived.Shelf.Slices.Clone
import Derived.Shelf.Slices.CompactS
import Derived.Shelf.Slices.In.SortAlone
import Derived.Sort.EveryDepth
import Derived.Sort.OwnSorted
import Derived.Lib.OwnBridge
import Derived.Lib.RowBridge
import Derived.Shelf.Strings.SplitShaped
import Derived.Lib.SplitLaws
import Derived.Lib.CountLaws
import Derived.Lib.IndexBytes
namespace Go.Proofs.YtilhfmhjgfmejaaGreatDoor.tm
open Go.ChangeShapes Go.WideShapes Go.ChangeAt Go.RowKit Go.Sort Go.Proofs.YtilhfmhjgfmejaaGreatDoor.common Go.Proofs.YtilhfmhjgfmejaaGreatDoor.bk
attribute [local go_sem ↓] Go.wp_at_zero Go.wp_at_succ

/-- in order, each once -/
def rise (ss : List (List UInt8)) : List (List UInt8) := Lib.compact (ss.mergeSort fun x y => decide (x ≤ y))
def raw (zs : List ByteArray) : List (List UInt8) := zs.map (·.data.toList)
def riseB (zs : List ByteArray) : List ByteArray := (rise (raw zs)).map fun l => ⟨l.toArray⟩
theorem riseB_sc (zs : List ByteArray) : ss.sc (riseB zs) = (rise (raw zs)).map encStr := by simp [ss.sc, riseB]
theorem raw_enc (zs : List ByteArray) : (raw zs).map encStr = ss.sc zs := by simp [raw, ss.sc]

theorem left_of {w w1 : World} {g cap n nn q : Nat} {os : Array Obj} {ss : List (List UInt8)} (hown : w1.ownsRow w.heap.size 9 1 (.slice (some ⟨g, 0, none⟩) n cap) n (ss.map encStr)) (hbel : Go.RowKit.Below w.heap.size w w1) (hbg : w.heap.size ≤ g) (hlen : ss.length = n) :
    (putRow encStr (Sort.ahead (grow (putRow encStr (Sort.ahead w1 nn) g 0 (ss.mergeSort fun x y => decide (x ≤ y)).toArray) os) q) g 0 (rise ss ++ List.replicate (n - (rise ss).length) []).toArray).ownsRow w.heap.size 9 1 (.slice (some ⟨g, 0, none⟩) (rise ss).length cap) (rise ss).length ((rise ss).map encStr) ∧
    Go.RowKit.Below w.heap.size w (putRow encStr (Sort.ahead (grow (putRow encStr (Sort.ahead w1 nn) g 0 (ss.mergeSort fun x y => decide (x ≤ y)).toArray) os) q) g 0 (rise ss ++ List.replicate (n - (rise ss).length) []).toArray) := by
  have hl2 : (ss.mergeSort fun x y => decide (x ≤ y)).length = ss.length := List.length_mergeSort ss
  have hle := Lib.compact_length_le (ss.mergeSort fun x y => decide (x ≤ y))
  subst hlen
  rcases hown.2 with ⟨h0, _⟩ | ⟨g', cap', cur, hv, hbase, hb, h1, h2, h3, h4⟩
  · cases h0
  cases hv
  have hs := ownsRow_sorted (n := nn) (os := os) (ts := ss.mergeSort fun x y => decide (x ≤ y)) hl2 hbase hb h1 h2 h3
  have hc := Lib.ownsRow_putRow (q := q) (k := (rise ss).length) (ys := rise ss ++ List.replicate (ss.length - (rise ss).length) []) hs (by unfold rise; simp; omega) (by unfold rise; omega)
  rw [List.take_left] at hc
  exact ⟨hc, Lib.below_putRow (hbel.grown (grownBy_sorted _) hbel.size (fun j hj => by cases hj; exact hbase)) hbg⟩

theorem clone_c (b n c : Nat) (zs : List ByteArray) (w : World) (hz : n ≤ zs.length) (hbig : n * 16 ≤ 140737488355328) (hc : ∀ j, j < zs.length → w.cell? ⟨b, 0 + j, none⟩ = some (.string (zs.getD j ByteArray.empty))) :
    Calls Tryz.prog 121 #[.slice (some ⟨b, 0, none⟩) n c] w fun e w' => ∃ v', e = .returned v' ∧ w'.ownsRow w.heap.size 9 1 v' n ((zs.take n).map (Value.string)) ∧ v' ≠ .slice none 0 0 ∧ Go.RowKit.Below w.heap.size w w' :=
  Any.slices_Clone_string jl.lays216 b 0 n c zs w hz hbig hc
theorem sort_c (blk cap : Nat) (zs : List (List UInt8)) (w : World) (hH : Holds encStr w blk 0 zs.toArray) (hblk : blk < w.heap.size) (hsz : zs.length < 4611686018427387904) :
    Calls Tryz.prog 122 #[.slice (some ⟨blk, 0, none⟩) zs.length cap] w fun e w' =>
      e = .returned (.tuple #[]) ∧ ∃ n os, w' = grow (putRow encStr (Sort.ahead w n) blk 0 (zs.mergeSort fun x y => decide (x ≤ y)).toArray) os :=
  calls_of_every_depth fun D => AnyS.slices_Sort_string_alone jl.lays190 D blk 0 cap zs w hH hblk hsz
theorem compact_c (blk cap : Nat) (zs : List (List UInt8)) (w : World) (hH : Holds encStr w blk 0 zs.toArray) (hsz : zs.length ≤ 9223372036854775807) (hcap : zs.length ≤ cap) :
    Calls Tryz.prog 123 #[.slice (some ⟨blk, 0, none⟩) zs.length cap] w fun e w' => e = .returned (.slice (some ⟨blk, 0, none⟩) (Lib.compact zs).length cap) ∧ ∃ q, w' = putRow encStr (Sort.ahead w q) blk 0 (Lib.compact zs ++ List.replicate (zs.length - (Lib.compact zs).length) []).toArray :=
  Any.slices_Compact_string jl.lays194 blk 0 cap zs w hH hsz hcap

set_option maxRecDepth 100000 in
set_option maxHeartbeats 3200000 in
theorem risingOnce_any (b c : Nat) (zs : List ByteArray) (w : World) (hbig : zs.length * 16 ≤ 140737488355328) (hc : ∀ j, j < zs.length → w.cell? ⟨b, 0 + j, none⟩ = some (.string (zs.getD j ByteArray.empty))) :
    Calls Tryz.prog 94 #[.slice (some ⟨b, 0, none⟩) zs.length c] w fun e w' => ∃ v', e = .returned v' ∧ w'.ownsRow w.heap.size 9 1 v' (riseB zs).length (ss.sc (riseB zs)) ∧ Go.RowKit.Below w.heap.size w w' := by
  have HC := hide (clone_c b zs.length c zs w (Nat.le_refl _) hbig hc)
  clear hc
  obtain ⟨n, hn⟩ : ∃ n, n = zs.length := ⟨_, rfl⟩
  have hRL : (riseB zs).length = (rise (raw zs)).length := by simp [riseB]
  have HR := hide hRL
  have HS := hide (riseB_sc zs)
  have HE := hide (raw_enc zs)
  have HN := hide hn
  clear hRL
  go_enter Tryz.func94, Tryz.ntmps94
  go_wp2_with fail
  refine HC.out.mono ?_
  rintro e w1 ⟨v1, rfl, hown, hnn, hbel⟩
  rw [List.take_length, ← HN.out] at hown
  have hown' : w1.ownsRow w.heap.size 9 1 v1 n ((raw zs).map encStr) := by rw [HE.out]; exact hown
  obtain ⟨g, cap, rfl, hbg, hgl, hncap, hcm, hlen, hH⟩ := Lib.holds_of_ownsRow hown' hnn
  have HSo := hide (sort_c g cap (raw zs) w1 hH hgl (by omega))
  rw [hlen] at HSo
  have HO := hide hown'
  have HBel := hide hbel
  have HBg := hide hbg
  have HGl := hide hgl
  have HLen := hide hlen
  have HHo := hide hH
  have HCap := hide hncap
  clear hown hown' hnn hbel hbg hgl hH hlen hncap hn
  go_wp2_with fail
  refine HSo.out.mono ?_
  rintro e w2 ⟨rfl, nn, os, hw2⟩
  have hl2 : ((raw zs).mergeSort fun x y => decide (x ≤ y)).length = n := by rw [List.length_mergeSort]; exact HLen.out
  have hH2 : Holds encStr w2 g 0 ((raw zs).mergeSort fun x y => decide (x ≤ y)).toArray := by
    rw [hw2]
    exact holds_grow encStr _ os g 0 _ (by simpa [putRow, mapBlock, Sort.ahead] using HGl.out) (holds_putRow encStr _ g 0 _ _ (holds_ahead encStr w1 nn g 0 _ HHo.out) (by simp))
  have HCo := hide (compact_c g cap ((raw zs).mergeSort fun x y => decide (x ≤ y)) w2 hH2 (by rw [hl2, HN.out]; omega) (by rw [hl2]; exact HCap.out))
  rw [hl2] at HCo
  have HW2 := hide hw2
  clear hw2 hH2 hl2
  go_wp2_with fail
  refine HCo.out.mono ?_
  rintro e w3 ⟨rfl, q, hw3⟩
  have HL := hide (left_of (q := q) (nn := nn) (os := os) HO.out HBel.out HBg.out HLen.out)
  have HW3 : Hid (w3 = putRow encStr (Sort.ahead (grow (putRow encStr (Sort.ahead w1 nn) g 0 ((raw zs).mergeSort fun x y => decide (x ≤ y)).toArray) os) q) g 0 (rise (raw zs) ++ List.replicate (n - (rise (raw zs)).length) []).toArray) := by
    show _ = _
    rw [hw3, HW2.out]; rfl
  rw [← HW3.out] at HL
  clear hw3
  go_wp2_with fail
  go_ret
  refine ⟨_, rfl, ?_, HL.out.2⟩
  rw [HS.out, HR.out]
  exact HL.out.1

end Go.Proofs.YtilhfmhjgfmejaaGreatDoor.tm

namespace Go.Proofs.YtilhfmhjgfmejaaGreatDoor.tm
open Go.ChangeShapes Go.WideShapes Go.ChangeAt Go.RowKit Go.Proofs.YtilhfmhjgfmejaaGreatDoor.common Go.Proofs.YtilhfmhjgfmejaaGreatDoor.bk
attribute [local go_sem ↓] Go.wp_at_zero Go.wp_at_succ

theorem split_parts (c : UInt8) : ∀ (n : Nat) (s : ByteArray), s.size ≤ n → Lib.splitB ⟨#[c]⟩ 0 (Lib.countB s ⟨#[c]⟩) s = tsq.parts c s := by
  intro n
  induction n with
  | zero =>
    intro s hs
    have h0 : s = ⟨#[]⟩ := ba_ext (List.eq_nil_of_length_eq_zero (by rw [len_list]; omega))
    subst h0
    rw [tsq.parts_none c _ (fun x h => by simp at h)]
    exact Lib.splitB_miss _ _ _ _ rfl
  | succ n ih =>
    intro s hs
    rcases fd.index_cases c s.data.toList with ⟨h1, h2⟩ | ⟨i, h1, h2, h3, h4⟩
    · rw [tsq.parts_none c s h2]
      exact Lib.splitB_miss _ _ _ _ (by show Lib.index s.data.toList [c] = _; rw [Lib.index_one]; exact h1)
    · have hi : Lib.indexB s ⟨#[c]⟩ = (i : Int) := by show Lib.index s.data.toList [c] = _; rw [Lib.index_one]; exact h1
      rw [tsq.parts_at c s i h3 h4, Lib.countB_hit s ⟨#[c]⟩ i (Nat.le_refl 1) hi, Nat.add_comm 1, Lib.splitB_hit _ _ _ _ i hi]
      rw [len_list] at h2
      have e : i + (⟨#[c]⟩ : ByteArray).size = i + 1 := rfl
      rw [e, Nat.add_zero, ih (s.extract (i + 1) s.size) (by rw [ByteArray.size_extract]; omega)]
theorem parts_len (c : UInt8) (s : ByteArray) : (tsq.parts c s).length = Lib.countB s ⟨#[c]⟩ + 1 := by
  rw [← split_parts c s.size s (Nat.le_refl _)]
  exact Lib.splitB_all ⟨#[c]⟩ (Nat.le_refl 1) 0 _ s rfl
theorem parts_le (c : UInt8) (s : ByteArray) : (tsq.parts c s).length ≤ s.size + 1 := by
  rw [parts_len]
  have := Lib.countB_le ⟨#[c]⟩ (Nat.le_refl 1) s.size s (Nat.le_refl _)
  omega

theorem info9 : (Tryz.prog.info? 9).map (fun i => (i.zero, i.size, i.bytes)) = some (some (.string ByteArray.empty), 1, 16) := by kernel_rfl
/-- strings.Split at a blank -/
theorem split_c (s : ByteArray) (m : Int) (w : World) (hs : s.size < 4294967281) (hm : w.cell? ⟨20, 0, none⟩ = some (.int .i64 m)) :
    Calls Tryz.prog 95 #[.string s, .string ⟨#[32]⟩] w fun e w' => e = .returned (.slice (some ⟨w.heap.size, 0, none⟩) (tsq.parts 32 s).length (tsq.parts 32 s).length) ∧ w' = w.alloc (.cells (ss.sc (tsq.parts 32 s)).toArray 9) := by
  have h := Any.strings_Split { jl.lays146 with } info9 s ⟨#[32]⟩ m w hs hm (by decide)
  rw [split_parts 32 s.size s (Nat.le_refl _), ← parts_len] at h
  exact h

/-- what Scopes answers: the list -/
def many (s : ByteArray) : Bool := decide (16 < (riseB (tsq.parts 32 s)).length)
def scL (s : ByteArray) : List ByteArray := if areSc s && !many s then riseB (tsq.parts 32 s) else []
/-- what Scopes answers: the error -/
def scE (eT eM : Value) (s : ByteArray) : Value := if areSc s then (if many s then eM else .nilIface) else eT
/-- what is asked of the world: two refusals, and a number of the library's -/
structure SEnv (eT eM : Value) (w : World) : Prop where
  text : w.cell? ⟨3, 0, none⟩ = some eT
  many : w.cell? ⟨0, 0, none⟩ = some eM
  max : ∃ m : Int, w.cell? ⟨20, 0, none⟩ = some (.int .i64 m)
theorem SEnv.below {eT eM : Value} {w w' : World} (h : SEnv eT eM w) (hb : Below w.heap.size w w') : SEnv eT eM w' := by
  obtain ⟨m, hm⟩ := h.max
  exact ⟨(hb.cell (World.block_lt_of_cell? _ _ h.text)).trans h.text, (hb.cell (World.block_lt_of_cell? _ _ h.many)).trans h.many, m, (hb.cell (World.block_lt_of_cell? _ _ hm)).trans hm⟩

set_option maxRecDepth 100000 in
set_option maxHeartbeats 3200000 in
theorem scopes_any (eT eM : Value) (s : ByteArray) (w : World) (hE : SEnv eT eM w) (hs : s.size ≤ 4294967200) :
    Calls Tryz.prog 72 #[.string s] w fun e w' => ∃ v, e = .returned (.tuple #[v, scE eT eM s]) ∧ w'.ownsRow w.heap.size 9 1 v (scL s).length (ss.sc (scL s)) ∧ Below w.heap.size w w' := by
  have HA := hide (areScopes_any s w (by unfold reachBytes; omega))
  have HE := hide hE
  have HPL := hide (parts_le 32 s)
  clear hE
  go_enter Tryz.func72, Tryz.ntmps72
  go_wp2_with fail
  refine HA.out.mono ?_
  rintro e w1 ⟨rfl, hb1⟩
  have B1 := hide hb1
  have E1 := hide (HE.out.below hb1)
  clear hb1 HA
  cases ha : areSc s with
  | false =>
    have HSE : Hid (scE eT eM s = eT) := by show _ = _; unfold scE; rw [ha]; rfl
    have HSL : Hid (scL s = []) := by show _ = _; unfold scL; rw [ha]; rfl
    have x0 := E1.out.text
    clear ha
    go_wp2_with fail
    go_quiet (fail)
    go_wp2_with fail
    refine bodyPost_ret (results_tmp2 rfl _ _ _) rfl ⟨.slice none 0 0, ?_, ?_, ?_⟩
    · rw [HSE.out]; rfl
    · rw [HSL.out]; exact World.ownsRow_nil _ _ _ _
    · exact keepD B1.out ⟨rfl, rfl, rfl, Nat.le_refl _, fun _ _ => rfl⟩
  | true =>
    obtain ⟨m, hm⟩ := E1.out.max
    have HSp := hide (split_c s m w1 (by omega) hm)
    clear hm
    go_wp2_with fail
    refine HSp.out.mono ?_
    rintro e w2 ⟨rfl, hw2⟩
    have hb2 : Below w1.heap.size w1 w2 := by rw [hw2]; exact (Below.refl _ _).alloc (Nat.le_refl _) _
    have HRi := hide (risingOnce_any w1.heap.size (tsq.parts 32 s).length (tsq.parts 32 s) w2 (by have := HPL.out; omega) (by
      intro j hj
      rw [hw2, Nat.zero_add]
      have h1 := range_new w1 (ss.sc (tsq.parts 32 s)).toArray 9 j (.string ((tsq.parts 32 s).getD j ByteArray.empty)) (by
        show (ss.sc (tsq.parts 32 s))[j]? = _; rw [ss.sc_get _ j hj, List.getD_eq_getElem?_getD, List.getElem?_eq_getElem hj]; rfl)
      simpa using h1))
    have B2 := hide (keepD B1.out hb2)
    have E2 := hide (E1.out.below hb2)
    clear hw2 hb2 HSp
    go_wp2_with fail
    refine HRi.out.mono ?_
    rintro e w3 ⟨v3, rfl, ho3, hb3⟩
    have B3 := hide (keepD B2.out hb3)
    have E3 := hide (E2.out.below hb3)
    have O3 : Hid (w3.ownsRow w.heap.size 9 1 v3 (riseB (tsq.parts 32 s)).length (ss.sc (riseB (tsq.parts 32 s)))) := by
      refine ⟨ho3.1, ?_⟩
      rcases ho3.2 with hh | ⟨g, cap, cur, hv, hg, hr⟩
      · exact Or.inl hh
      · exact Or.inr ⟨g, cap, cur, hv, Nat.le_trans B2.out.size hg, hr⟩
    have hform : ∃ oa cap, v3 = .slice oa (riseB (tsq.parts 32 s)).length cap := by
      rcases ho3.2 with ⟨hv, h0⟩ | ⟨g, cap, cur, hv, hg, hr⟩
      · exact ⟨none, 0, by rw [hv, h0]⟩
      · exact ⟨_, cap, hv⟩
    obtain ⟨oa, cap, rfl⟩ := hform
    clear ho3 hb3 HRi
    have HMM : Hid (many s = decide (16 < (riseB (tsq.parts 32 s)).length)) := rfl
    have HSE : Hid (∀ b, many s = b → scE eT eM s = if b then eM else .nilIface) := by intro b hb; unfold scE; rw [ha, hb]; rfl
    have HSL : Hid (∀ b, many s = b → scL s = if b then [] else riseB (tsq.parts 32 s)) := by intro b hb; unfold scL; rw [ha, hb]; cases b <;> rfl
    generalize riseB (tsq.parts 32 s) = R at *
    clear ha
    by_cases hmn : 16 < R.length
    · have hmi : (16 : Int) < (R.length : Int) := by omega
      have x0 := E3.out.many
      have hmt : many s = true := by rw [HMM.out]; exact decide_eq_true hmn
      have HT := hide hmt
      clear hmt
      go_wp2_with fail
      go_quiet (fail)
      go_wp2_with fail
      refine bodyPost_ret (results_tmp2 rfl _ _ _) rfl ⟨.slice none 0 0, ?_, ?_, ?_⟩
      · rw [HSE.out true HT.out]; rfl
      · rw [HSL.out true HT.out]; exact World.ownsRow_nil _ _ _ _
      · exact keepD B3.out ⟨rfl, rfl, rfl, Nat.le_refl _, fun _ _ => rfl⟩
    · have hmi : ¬ (16 : Int) < (R.length : Int) := by omega
      have hmt : many s = false := by rw [HMM.out]; exact decide_eq_false hmn
      have HT := hide hmt
      clear hmt
      go_wp2_with fail
      refine bodyPost_ret (results_tmp2 rfl _ _ _) rfl ⟨.slice oa R.length cap, ?_, ?_, B3.out⟩
      · rw [HSE.out false HT.out]; rfl
      · rw [HSL.out false HT.out]; exact O3.out

end Go.Proofs.YtilhfmhjgfmejaaGreatDoor.tm
