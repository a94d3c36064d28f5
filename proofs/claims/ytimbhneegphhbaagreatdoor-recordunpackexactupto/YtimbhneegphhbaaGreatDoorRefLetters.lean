import Derived.Test.YtimbhneegphhbaaGreatDoorRows
import Derived.Test.YtimbhneegphhbaaGreatDoorRadixRead
import Derived.Lib.LaidTab
import Derived.Deep.RegionWith
import Derived.Maps.AppendAt
namespace Go.Proofs.YtimbhneegphhbaaGreatDoor.radw
open Go.ChangeShapes Go.WideShapes Go.ChangeAt Go.RowKit Go.Proofs.YtimbhneegphhbaaGreatDoor.common

theorem urlG : Tryz.prog.globalNamed "usher/radix.urlLetters" = some 22 := by kernel_rfl
theorem urlType : (Tryz.prog.globals[22]?).map (·.type) = some 132 := by kernel_rfl
theorem urlCells : Tryz.prog.cellsOf 132 = 64 := by kernel_rfl
theorem urlTab {W : World} {rest : List (String × DataW Unit)} (h : laidMet Tryz.prog (("usher/radix.urlLetters", Rows.laid_usher_radix_urlLetters) :: rest) W) : TabAt 22 Rad.urlT W := by
  have t : Lib.TabIs Tryz.prog W "usher/radix.urlLetters" .u8 [65, 66, 67, 68, 69, 70, 71, 72, 73, 74, 75, 76, 77, 78, 79, 80, 81, 82, 83, 84, 85, 86, 87, 88, 89, 90, 97, 98, 99, 100, 101, 102, 103, 104, 105, 106, 107, 108, 109, 110, 111, 112, 113, 114, 115, 116, 117, 118, 119, 120, 121, 122, 48, 49, 50, 51, 52, 53, 54, 55, 56, 57, 45, 95] :=
    Lib.tabIs_of_head (rest := rest) urlG urlType Tryz.underlying132 Tryz.underlying5 cells8 urlCells h
  intro i hi
  have hi' : i < 64 := hi
  rw [t.cell urlG i (by simpa using hi')]
  have e : ∀ j : Fin 64, ([65, 66, 67, 68, 69, 70, 71, 72, 73, 74, 75, 76, 77, 78, 79, 80, 81, 82, 83, 84, 85, 86, 87, 88, 89, 90, 97, 98, 99, 100, 101, 102, 103, 104, 105, 106, 107, 108, 109, 110, 111, 112, 113, 114, 115, 116, 117, 118, 119, 120, 121, 122, 48, 49, 50, 51, 52, 53, 54, 55, 56, 57, 45, 95] : List Int).getD j.val 0 = ((Rad.urlT.getD j.val 0).toNat : Int) := by decide +kernel
  rw [e ⟨i, hi'⟩]

end Go.Proofs.YtimbhneegphhbaaGreatDoor.radw

namespace Go.Proofs.YtimbhneegphhbaaGreatDoor.radw
open Go.ChangeShapes Go.WideShapes Go.ChangeAt Go.RowKit Go.Proofs.YtimbhneegphhbaaGreatDoor.common
attribute [local go_sem ↓] Go.wp_at_zero Go.wp_at_succ

set_option maxRecDepth 100000 in
set_option maxHeartbeats 1600000 in
theorem urlReading_any (w : World) (ht : TabAt 22 Rad.urlT w) :
    Calls Tryz.prog 75 #[] w fun e w' => e = .returned (.agg ((rdT Rad.urlT 64).map B).toArray) ∧ Below w.heap.size w w' := by
  have HT := hide ht
  have hG := ht.lt (by decide)
  clear ht
  have hz256 := zero256_run
  go_enter Tryz.func75, Tryz.ntmps75
  go_wp2_with fail
  go_loopw [3] (fun i wr => ∃ k : Nat, k ≤ 64 ∧ i = .int .i64 k ∧ wr.there w.heap.size 0 256 ∧ Lay wr (w.heap.size + 1) (rdT Rad.urlT k) ∧ Below w.heap.size w wr) (fun i _ => 64 - (intOf i).toNat)
  case atStart =>
    refine ⟨0, Nat.zero_le _, rfl, ?_, ?_, ?_⟩
    · exact World.there_alloc (there_new w _ _) _
    · rw [rdT_zero]
      exact ⟨there_new_at (w.alloc _) _ _ _ _ (by simp) rfl, range_new_at (w.alloc _) _ _ _ _ (by simp) (by kernel_rfl)⟩
    · exact ((Below.refl _ _).alloc (Nat.le_refl _) _).alloc (by simp) _
  case round =>
    obtain ⟨k, hk, rfl, ht0, hl, hb⟩ := hrel
    by_cases hlt : k < 64
    · have c0 : wr.cell? ⟨22, k, none⟩ = _ := HT.out.below hb hG k hlt
      have hki : (k : Int) < 64 := by omega
      have hx := (Rad.urlT.getD k 0).toNat_lt
      have f0 := hl.frozen (Rad.urlT.getD k 0).toNat (by rw [rdT_len]; exact hx)
      obtain ⟨v0, hv0⟩ : ∃ v, wr.cell? ⟨w.heap.size + 1, (Rad.urlT.getD k 0).toNat, none⟩ = some v := ⟨_, hl.cell _ (by rw [rdT_len]; exact hx)⟩
      have L1 := hl.set (Rad.urlT.getD k 0).toNat (by rw [rdT_len]; exact hx) (UInt8.ofNat (k + 1))
      rw [rdT_set] at L1
      have HL := hide L1
      have H0 := hide ht0
      have HB := hide hb
      have hv : Hid ((((UInt8.ofNat (k + 1)).toNat : Nat) : Int) = (k : Int) + 1) := by show _ = _; rw [Rad.toNat_of (by omega)]; omega
      clear L1 hl ht0 hb
      generalize Rad.urlT.getD k 0 = x at *
      go_wp2
      go_roundw
      case rel =>
        refine ⟨k + 1, by omega, by go_num, there_set H0.out _ _, ?_, HB.out.setCell (Nat.le_succ _) _⟩
        have := HL.out
        unfold B at this
        rw [hv.out] at this
        exact this
      case measure => simp [intOf]; omega
    · obtain rfl : k = 64 := by omega
      have hi : (Tryz.prog.info? 119).map (·.size) = some ((rdT Rad.urlT 64).map B).length := by rw [List.length_map, rdT_len]; exact size256
      have hi2 : (Tryz.prog.info? 119).map (·.size) = some ((rdT Rad.urlT 64).map B).toArray.size := by rw [List.size_toArray]; exact hi
      have h1 : ((rdT Rad.urlT 64).map B).toArray.all (·.oneCell') = true := all_oneCell_toArray (by intro v hv; obtain ⟨x, _, rfl⟩ := List.mem_map.1 hv; rfl)
      have hls : ((rdT Rad.urlT 64).map B).toArray.size = 256 := by rw [List.size_toArray, List.length_map, rdT_len]
      have ht : wr.there w.heap.size 0 ((rdT Rad.urlT 64).map B).toArray.size := by rw [hls]; exact ht0
      have H2 := hide hl.2
      have H3 := hide hb
      have HI := hide hi
      have HI2 := hide hi2
      have HO := hide h1
      have HT := hide ht
      clear hi hi2 h1 ht hl hb ht0 hls
      generalize hL : (rdT Rad.urlT 64).map B = L at *
      have HLL := hide hL
      clear hL
      go_wp2_with (first | (refine wpList_load_mid rfl 119 (.tmp 1) rfl (w.heap.size + 1) 0 rfl L _ H2.out Tryz.underlying119 rfl HI.out ?_) | (refine wpList_store_mid rfl 119 (.tmp 0) (.tmp 14) rfl w.heap.size 0 L.toArray rfl rfl HT.out HI2.out HO.out ?_))
      refine bodyPost_ret (v := .agg L.toArray) (results_cell1 (b := w.heap.size) (o := 0) (cs := L) Tryz.results75 _ rfl ?_ Tryz.underlying119 rfl HI.out) rfl ⟨by rw [HLL.out], ?_⟩
      · have := World.rangeAt_setCells_same wr w.heap.size 0 L (by simpa using HT.out)
        simpa using this
      · exact below_setCells H3.out (Nat.le_refl _) _ _

end Go.Proofs.YtimbhneegphhbaaGreatDoor.radw

namespace Go.Proofs.YtimbhneegphhbaaGreatDoor.radw
open Go.ChangeShapes Go.WideShapes Go.ChangeAt Go.RowKit Go.Proofs.YtimbhneegphhbaaGreatDoor.common
attribute [local go_sem ↓] Go.wp_at_zero Go.wp_at_succ

end Go.Proofs.YtimbhneegphhbaaGreatDoor.radw

namespace Go.Proofs.YtimbhneegphhbaaGreatDoor.radw
open Go.ChangeShapes Go.WideShapes Go.ChangeAt Go.RowKit Go.Proofs.YtimbhneegphhbaaGreatDoor.common
attribute [local go_sem ↓] Go.wp_at_zero Go.wp_at_succ

/-- a list that is being turned: its first k letters are f's, the others h's -/
def part (f h : Nat → UInt8) (n k : Nat) : List UInt8 := (List.range n).map fun i => if i < k then f i else h i
end Go.Proofs.YtimbhneegphhbaaGreatDoor.radw

namespace Go.Proofs.YtimbhneegphhbaaGreatDoor.radw
open Go.ChangeShapes Go.WideShapes Go.ChangeAt Go.RowKit Go.Proofs.YtimbhneegphhbaaGreatDoor.common

abbrev I (n : Nat) : Value := .int .i64 (n : Int)

theorem info64 : (Tryz.prog.info? 3).map (fun i => (i.zero, i.size, i.bytes)) = some (some (.int .i64 0), 1, 8) := by kernel_rfl

theorem own_ge {w : World} {base : Nat} {e : TypeId} {size : Nat} {v : Value} {n : Nat} {xs : List Value} (h : w.ownsRow base e size v n xs) : ∀ b, v.ownBlock = some b → base ≤ b := by
  intro b hb
  rcases h.2 with ⟨rfl, _⟩ | ⟨g, cap, cur, rfl, hg, _⟩
  · cases hb
  · cases hb; exact hg

/-- the first n of a row of numbers -/
def row (f : Nat → Nat) (n : Nat) : List Value := (List.range n).map fun i => I (f i)
theorem row_succ (f : Nat → Nat) (n : Nat) : row f (n + 1) = row f n ++ [I (f n)] := by unfold row; rw [List.range_succ, List.map_append]; rfl
theorem row_len (f : Nat → Nat) (n : Nat) : (row f n).length = n := by simp [row]

theorem div_bit (c K : Nat) (hc : c < 256) : (wrap64 ((wrap64 (c : Int)).tdiv (K : Int))).tmod 2 = ((c / K % 2 : Nat) : Int) := by
  have e1 : wrap64 (c : Int) = (c : Int) := by unfold wrap64; omega
  have h1 : c / K ≤ c := Nat.div_le_self c K
  rw [e1, Int.tdiv_eq_ediv_of_nonneg (by omega), ← Int.natCast_ediv]
  clear e1
  generalize c / K = q at *
  have e2 : wrap64 (q : Int) = (q : Int) := by unfold wrap64; omega
  rw [e2, Int.tmod_eq_emod_of_nonneg (by omega)]
  omega

theorem bit_val (l : List UInt8) (k j : Nat) (hj : j < 8) (c : UInt8) (h : Rad.g l k = c.toNat) : (wrap64 ((wrap64 (c.toNat : Int)).tdiv ((2 ^ (7 - j) : Nat) : Int))).tmod 2 = ((Rad.bit l (8 * k + j) : Nat) : Int) := by
  rw [Rad.bit_at l k j hj, h, div_bit _ _ c.toNat_lt]

theorem halves (j : Nat) (hj : j < 7) : ((2 ^ (7 - j) : Nat) : Int) / 2 = ((2 ^ (7 - (j + 1)) : Nat) : Int) := by
  have : 2 ^ (7 - j) = 2 ^ (7 - (j + 1)) * 2 := by rw [← Nat.pow_succ]; congr 1; omega
  rw [this]; omega

set_option maxHeartbeats 400000 in
theorem bits_any (s : ByteArray) (w : World) (hs : s.size ≤ 1048576) :
    Calls Tryz.prog 112 #[.string s] w fun e w' => ∃ v, e = .returned v ∧ w'.ownsRow w.heap.size 3 1 v (8 * s.size) (row (Rad.bit s.data.toList) (8 * s.size)) ∧ Below w.heap.size w w' := by
  obtain ⟨i0, hi, hz0, hz1, hz2⟩ := info_parts info64
  go_enter Tryz.func112, Tryz.ntmps112
  go_wp2
  go_loopw [3, 4] (fun v i wr => ∃ k : Nat, k ≤ s.size ∧ i = .int .i64 k ∧ wr.ownsRow w.heap.size 3 1 v (8 * k) (row (Rad.bit s.data.toList) (8 * k)) ∧ Below w.heap.size w wr) (fun _ i _ => s.size - (intOf i).toNat)
  case atStart => exact ⟨0, Nat.zero_le _, rfl, World.ownsRow_nil _ _ _ _, Below.refl _ _⟩
  case round =>
    obtain ⟨k, hk, rfl, hown, hnx⟩ := hrel
    by_cases hlt : k < s.size
    · have hgk := hide (g_at s k hlt)
      obtain ⟨wo, rfl⟩ : ∃ wo : World, wo = wr := ⟨_, rfl⟩
      have HO := hide hown
      have HX := hide hnx
      clear hown hnx
      go_wp2
      go_loopw [3, 6] (fun v i wr => ∃ j : Nat, j ≤ 8 ∧ i = (if j = 8 then .int .i64 0 else .int .i64 ((2 ^ (7 - j) : Nat) : Int)) ∧ wr.ownsRow w.heap.size 3 1 v (8 * k + j) (row (Rad.bit s.data.toList) (8 * k + j)) ∧ Below w.heap.size w wr) (fun _ i _ => (intOf i).toNat)
      case atStart => exact ⟨0, Nat.zero_le _, rfl, HO.out, HX.out⟩
      case round =>
        obtain ⟨j, hj, rfl, hown, hnx⟩ := hrel
        have hsz := hnx.size
        by_cases hj8 : j < 8
        · have hbv := bit_val s.data.toList k j hj8 s[k] hgk.out
          have hp : 0 < 2 ^ (7 - j) := Nat.pow_pos (by decide)
          have hp1 : 2 ^ (7 - j) ≤ 128 := Nat.pow_le_pow_right (n := 2) (by decide) (show 7 - j ≤ 7 by omega)
          have hhalf : Hid (((2 ^ (7 - j) : Nat) : Int) / 2 = if j + 1 = 8 then 0 else ((2 ^ (7 - (j + 1)) : Nat) : Int)) := by
            show _ = _
            by_cases h7 : j = 7
            · subst h7; rfl
            · rw [if_neg (by omega), halves j (by omega)]
          have hsn := hide (row_succ (Rad.bit s.data.toList) (8 * k + j))
          rw [if_neg (by omega)]
          generalize Rad.bit s.data.toList (8 * k + j) = b at *
          generalize 2 ^ (7 - j) = K at *
          go_wp2_with (at_builtin; refine wpList_append_own _ rfl _ _ 141 rfl w.heap.size 3 i0 (.int .i64 0) 1 8 Tryz.underlying141 hi hz0 hz1 hz2 rfl (by decide) _ _ _ rfl (hown.alloc _) ⟨wr.heap.size, 0, none⟩ 1 1 [I b] rfl rfl ?c1 ?c2 ?c3 ?c4 ?c5 ?_)
          case c1 => exact cell_one_new _ _ _
          case c2 => intro u hu; simp at hu; subst hu; rfl
          case c3 => unfold maxLen; omega
          case c4 => omega
          case c5 => simp; omega
          intro v' w1 hown' hgrow _
          have R1 : w1.ownsRow w.heap.size 3 1 v' (8 * k + (j + 1)) (row (Rad.bit s.data.toList) (8 * k + (j + 1))) := by
            rw [← Nat.add_assoc, hsn.out]; exact hown'
          have R2 : Below w.heap.size w w1 := by
            refine (hnx.alloc hsz _).grown hgrow (by simp; omega) ?_
            exact own_ge hown
          clear hown' hgrow hown hbv
          have H1 := hide R1
          have H2 := hide R2
          clear R1 R2
          go_wp2
          go_roundw
          case rel => exact ⟨j + 1, by omega, by rw [hhalf.out]; split <;> rfl, H1.out, H2.out⟩
          case measure => simp [intOf]; omega
        · obtain rfl : j = 8 := by omega
          rw [if_pos rfl]
          have H1 := hide hown
          have H2 := hide hnx
          clear hown hnx
          go_wp2
          go_roundw
          case rel => exact ⟨k + 1, by omega, by go_num, H1.out, H2.out⟩
          case measure => simp [intOf]; omega
    · obtain rfl : k = s.size := by omega
      have H1 := hide hown
      have H2 := hide hnx
      clear hown hnx
      go_wp2
      go_ret
      exact ⟨_, rfl, H1.out, H2.out⟩

end Go.Proofs.YtimbhneegphhbaaGreatDoor.radw

namespace Go.Proofs.YtimbhneegphhbaaGreatDoor.radw
open Go.ChangeShapes Go.WideShapes Go.ChangeAt Go.RowKit Go.Proofs.YtimbhneegphhbaaGreatDoor.common

/-- a slice of numbers -/
def Ints (w : World) (v : Value) (L : Nat) (f : Nat → Nat) : Prop := ∃ p cap, v = .slice p L cap ∧ ∀ i, i < L → ∃ g, p = some ⟨g, 0, none⟩ ∧ w.cell? ⟨g, i, none⟩ = some (I (f i)) ∧ g < w.heap.size

theorem Ints.of_own {w : World} {base : Nat} {e : TypeId} {v : Value} {n : Nat} {f : Nat → Nat} (h : w.ownsRow base e 1 v n (row f n)) : Ints w v n f := by
  rcases h.2 with ⟨rfl, h0⟩ | ⟨g, cap, cur, rfl, hg, hh, hn, _, hsz, htk⟩
  · obtain rfl : n = 0 := by simpa [row_len] using h0
    exact ⟨none, 0, rfl, fun i hi => by omega⟩
  · refine ⟨_, cap, rfl, fun i hi => ⟨g, rfl, ?_, (Array.getElem?_eq_some_iff.1 hh).1⟩⟩
    have : (cur.toList.take (n * 1))[i]? = (row f n)[i]? := by rw [htk]
    rw [List.getElem?_take_of_lt (by omega)] at this
    simp only [World.cell?, hh]
    simp [row, hi] at this
    simpa using this

theorem conv_own {w : World} {base : Nat} {e : TypeId} {v : Value} {l : List UInt8} {n : Nat} (h : w.ownsRow base e 1 v n (l.map B)) (hn : l.length = n) :
    (convert 27 9 v).run Tryz.prog w = .ok (.string ⟨l.toArray⟩) w := by
  subst hn
  rcases h.2 with ⟨rfl, h0⟩ | ⟨g, cap, cur, rfl, hg, hh, hn, _, hsz, htk⟩
  · rw [run_convert_bytes_nil (P := Tryz.prog) w 27 5 Tryz.underlying27 Tryz.underlying5 0 0 9 Tryz.underlying9]
    obtain rfl : l = [] := List.eq_nil_of_length_eq_zero h0
    rfl
  · refine run_convert_bytes_back (P := Tryz.prog) w 27 9 5 ⟨g, 0, none⟩ cap l Tryz.underlying27 Tryz.underlying5 Tryz.underlying9 ?_
    intro j hj
    rw [Addr.add_mid, Nat.zero_add]
    have : (cur.toList.take (l.length * 1))[j]? = (l.map B)[j]? := by rw [htk]
    rw [List.getElem?_take_of_lt (by omega)] at this
    simp only [World.cell?, hh]
    simp [hj] at this
    simpa using this

theorem grp_lt (f : Nat → Nat) (hf : ∀ i, f i < 2) (i k : Nat) : Rad.grp f i k < 2 ^ k := by
  induction k with
  | zero => simp [Rad.grp]
  | succ k ih => unfold Rad.grp; have := hf (i + k); rw [Nat.pow_succ]; omega

def lets (T : List UInt8) (f : Nat → Nat) (n m : Nat) : List UInt8 := (List.range m).map fun j => T.getD (Rad.grp f (n * j) n) 0
theorem lets_succ (T : List UInt8) (f : Nat → Nat) (n m : Nat) : lets T f n (m + 1) = lets T f n m ++ [T.getD (Rad.grp f (n * m) n) 0] := by unfold lets; rw [List.range_succ, List.map_append]; rfl
theorem lets_len (T : List UInt8) (f : Nat → Nat) (n m : Nat) : (lets T f n m).length = m := by simp [lets]

theorem list_at {A : ByteArray} {T : List UInt8} (hA : A.data.toList = T) (i : Nat) (hi : i < A.size) : A[i] = T.getD i 0 := by
  subst hA; exact (getD_list A i hi).symm

set_option maxRecDepth 100000 in
set_option maxHeartbeats 800000 in
theorem letters6_any (v : Value) (L : Nat) (hL : L ≤ 8388608) (f : Nat → Nat) (hf : ∀ i, f i < 2) (hf0 : ∀ i, L ≤ i → f i = 0) (A : ByteArray) (T : List UInt8) (hA : A.data.toList = T) (hT : A.size = 64) (w : World) (hv : Ints w v L f) :
    Calls Tryz.prog 113 #[v, .int .i64 6, .string A] w fun e w' => e = .returned (.string ⟨(lets T f 6 ((L + 5) / 6)).toArray⟩) ∧ Below w.heap.size w w' := by
  obtain ⟨i0, hi, hz0, hz1, hz2⟩ := info_parts info8
  obtain ⟨p, cap, rfl, hcell⟩ := hv
  have HC := hide hcell
  have HA := hide hA
  have HF := hide hf
  have HF0 := hide hf0
  clear hcell hA hf hf0
  go_enter Tryz.func113, Tryz.ntmps113
  go_wp2
  go_loopw [7, 8] (fun u i wr => ∃ m : Nat, m ≤ (L + 5) / 6 ∧ i = .int .i64 ((6 * m : Nat) : Int) ∧ wr.ownsRow w.heap.size 5 1 u m ((lets T f 6 m).map B) ∧ Below w.heap.size w wr) (fun _ i _ => (L + 5) / 6 * 6 - (intOf i).toNat)
  case atStart => exact ⟨0, Nat.zero_le _, rfl, World.ownsRow_nil _ _ _ _, Below.refl _ _⟩
  case round =>
    obtain ⟨m, hm, rfl, hown, hnx⟩ := hrel
    by_cases hlt : 6 * m < L
    · have hli : ((6 * m : Nat) : Int) < (L : Int) := by omega
      have HO := hide hown
      have HX := hide hnx
      clear hown hnx
      generalize hJ : 6 * m = J at *
      have HJ := hide hJ
      clear hJ
      go_wp2
      go_loop [9, 10] (fun q k => ∃ j : Nat, j ≤ 6 ∧ k = .int .i64 j ∧ q = I (Rad.grp f J j)) (fun _ k => 6 - (intOf k).toNat)
      case atStart => exact ⟨0, Nat.zero_le _, rfl, rfl⟩
      case round =>
        obtain ⟨j, hj, rfl, rfl⟩ := hrel
        have hg := grp_lt f HF.out J j
        have hgs : Hid (Rad.grp f J (j + 1) = 2 * Rad.grp f J j + f (J + j)) := rfl
        have hpw : 2 ^ j ≤ 64 := Nat.pow_le_pow_right (n := 2) (j := 6) (by decide) hj
        by_cases hjn : j < 6
        · have hf2 := HF.out (J + j)
          have hji : (j : Int) < 6 := by omega
          by_cases hin : J + j < L
          · obtain ⟨g, rfl, hc, hgl⟩ := HC.out (J + j) hin
            have hc' : wr.cell? ⟨g, J + j, none⟩ = some (I (f (J + j))) := by rw [← hc]; exact HX.out.cell hgl
            have hx : ((J : Int) + (j : Int)) < (L : Int) := by omega
            have hx0 : (0 : Int) ≤ ((J : Int) + (j : Int)) := by omega
            have hx1 : ((J : Int) + (j : Int)).toNat = J + j := by omega
            generalize Rad.grp f J j = q at *
            generalize f (J + j) = b at *
            clear hc
            go_wp2
            go_round
            case rel => exact ⟨j + 1, by omega, by go_num, by rw [hgs.out]; exact int_eq (by omega)⟩
            case measure => simp [intOf]; omega
          · have hz : Hid (f (J + j) = 0) := HF0.out _ (by omega)
            have hx : ¬ ((J : Int) + (j : Int)) < (L : Int) := by omega
            generalize Rad.grp f J j = q at *
            go_wp2
            go_round
            case rel => exact ⟨j + 1, by omega, by go_num, by rw [hgs.out, hz.out]; exact int_eq (by omega)⟩
            case measure => simp [intOf]; omega
        · obtain rfl : j = 6 := by omega
          have hgi : ((Rad.grp f J 6 : Nat) : Int) < (A.size : Int) := by rw [hT]; omega
          have hgn : Rad.grp f J 6 < A.size := by rw [hT]; omega
          have hat := list_at HA.out (Rad.grp f J 6) hgn
          have hsn := hide (lets_succ T f 6 m)
          rw [HJ.out] at hsn
          have HTQ := hide hat
          clear hat hg hgs
          generalize Rad.grp f J 6 = q at *
          have hsz := HX.out.size
          have hown := HO.out
          clear hpw hli
          go_wp2_with (at_builtin; refine wpList_append_own _ rfl _ _ 27 rfl w.heap.size 5 i0 (.int .u8 0) 1 1 Tryz.underlying27 hi hz0 hz1 hz2 rfl (by decide) _ _ _ rfl (hown.alloc _) ⟨wr.heap.size, 0, none⟩ 1 1 [B A[q]] rfl rfl ?c1 ?c2 ?c3 ?c4 ?c5 ?_)
          case c1 => exact cell_one_new _ _ _
          case c2 => intro u hu; simp at hu; subst hu; rfl
          case c3 => unfold maxLen; omega
          case c4 => omega
          case c5 => simp; omega
          intro v' w1 hown' hgrow _
          have R1 : w1.ownsRow w.heap.size 5 1 v' (m + 1) ((lets T f 6 (m + 1)).map B) := by
            rw [hsn.out, List.map_append, ← HTQ.out]; exact hown'
          have R2 : Below w.heap.size w w1 := by
            refine (HX.out.alloc hsz _).grown hgrow (by simp; omega) ?_
            exact own_ge hown
          clear hown' hgrow hown
          have H1 := hide R1
          have H2 := hide R2
          have HE : Hid ((J : Int) + 6 = ((6 * (m + 1) : Nat) : Int)) := by show _ = _; rw [← HJ.out]; omega
          have HM : Hid (m + 1 ≤ (L + 5) / 6) := by show _ ≤ _; have := HJ.out; omega
          have HM2 : Hid ((L + 5) / 6 * 6 - (6 * (m + 1)) < (L + 5) / 6 * 6 - J) := by show _ < _; have := HJ.out; omega
          clear R1 R2
          go_wp2
          go_roundw
          case rel => exact ⟨m + 1, HM.out, int_eq HE.out, H1.out, H2.out⟩
          case measure =>
            have := HM2.out
            have := HE.out
            simp [intOf]; omega
    · obtain rfl : m = (L + 5) / 6 := by omega
      have hli : ¬ ((6 * ((L + 5) / 6) : Nat) : Int) < (L : Int) := by omega
      have hconv := conv_own hown (lets_len _ _ _ _)
      have HX := hide hnx
      generalize 6 * ((L + 5) / 6) = J at *
      clear hown hnx
      go_wp2
      go_ret
      exact ⟨rfl, HX.out⟩

end Go.Proofs.YtimbhneegphhbaaGreatDoor.radw
