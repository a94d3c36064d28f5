import Derived.Test.YtocpikgcbibcoaaGreatDoorMRcUoW
import Derived.Test.YtocpikgcbibcoaaGreatDoorMRcTidM
import Derived.Test.YtocpikgcbibcoaaGreatDoorMRcSmD
import Derived.Test.YtocpikgcbibcoaaGreatDoorMAppKeep
import Derived.Test.YtocpikgcbibcoaaGreatDoorMRcMemG
namespace Go.Proofs.YtocpikgcbibcoaaGreatDoor.rc
open Go.ChangeShapes Go.WideShapes Go.ChangeAt Go.RowKit Go.Proofs.YtocpikgcbibcoaaGreatDoor.common Go.Proofs.YtocpikgcbibcoaaGreatDoor.dk
attribute [local go_sem ↓] Go.wp_at_zero Go.wp_at_succ

/-- the mark of the i-th list -/
def mkM (i : Nat) : ByteArray := ⟨#[UInt8.ofNat (48 + i)]⟩
/-- lists of scopes that lie in blocks of their own, the records' slices at g -/
structure Ms (g : Nat) (vs : List Value) (w : World) (T : Nat → List ByteArray) (W : World) : Prop where
  cell : ∀ i (h : i < vs.length), W.cell? ⟨g, i * 9 + 7, none⟩ = some vs[i]
  row : ∀ i (h : i < vs.length), W.ownsRow 0 9 1 vs[i] (T i).length ((T i).map Value.string)
  fr : Fr (vs.filterMap Value.ownBlock) w W
theorem rise_ne2 {vs : List Value} (h : Rise vs) (i j : Nat) (hi : i < vs.length) (hj : j < vs.length) (hne : i ≠ j) {k m : Nat} (hk : vs[i].ownBlock = some k) (hm : vs[j].ownBlock = some m) : k ≠ m := by
  unfold Rise at h
  rw [List.pairwise_iff_getElem] at h
  rcases Nat.lt_or_gt_of_ne hne with h1 | h1
  · have := h i j hi hj h1 k m hk hm; omega
  · have := h j i hj hi h1 m k hm hk; omega
theorem own_str_other {w : World} {b k : Nat} {x : Value} {v : Value} {n : Nat} {xs : List Value} (h : w.ownsRow 0 9 1 v n xs) (hb : ∀ m, v.ownBlock = some m → m ≠ b) : (w.setCell ⟨b, k, none⟩ x).ownsRow 0 9 1 v n xs := by
  refine ⟨h.1, ?_⟩
  rcases h.2 with hh | ⟨g, cap, cur, rfl, hg, hh, hn⟩
  · exact Or.inl hh
  · exact Or.inr ⟨g, cap, cur, rfl, hg, (set_other _ _ _ _ (hb g rfl)).trans hh, hn⟩
theorem own_str_set {w : World} {b cap k : Nat} {l : List ByteArray} (x : ByteArray) (h : w.ownsRow 0 9 1 (.slice (some ⟨b, 0, none⟩) l.length cap) l.length (l.map Value.string)) : (w.setCell ⟨b, k, none⟩ (.string x)).ownsRow 0 9 1 (.slice (some ⟨b, 0, none⟩) l.length cap) (l.set k x).length ((l.set k x).map Value.string) := by
  refine ⟨by simp, ?_⟩
  rcases h.2 with ⟨hv, _⟩ | ⟨g', cap', cur, hv, hg, hh, h1, h2, h3, h4⟩
  · cases hv
  · cases hv
    refine Or.inr ⟨b, cap, cur.setIfInBounds k (.string x), by rw [List.length_set], hg, ?_, by rw [List.length_set]; exact h1, h2, by rw [Array.size_setIfInBounds]; exact h3, ?_⟩
    · simp [World.setCell, Array.getElem?_modify, hh]
    · rw [List.length_set, Array.toList_setIfInBounds, List.map_set, ← h4, List.take_set]
theorem own_str_cell {w : World} {b cap n k : Nat} {l : List ByteArray} (h : w.ownsRow 0 9 1 (.slice (some ⟨b, 0, none⟩) n cap) l.length (l.map Value.string)) (hk : k < l.length) : w.cell? ⟨b, k, none⟩ = some (.string l[k]) ∧ w.frozen? ⟨b, k, none⟩ = false := by
  rcases h.2 with ⟨hv, _⟩ | ⟨g', cap', cur, hv, hg, hh, h1, h2, h3, h4⟩
  · cases hv
  · cases hv
    refine ⟨?_, free_of hh k⟩
    have e : (cur.toList.take (l.length * 1))[k]? = (l.map Value.string)[k]? := by rw [h4]
    rw [List.getElem?_take_of_lt (by omega)] at e
    simp only [World.cell?, hh]
    simp [hk] at e
    simpa using e
theorem str_slot {w : World} {v : Value} {l : List ByteArray} (h : w.ownsRow 0 9 1 v l.length (l.map Value.string)) (h0 : 0 < l.length) : ∃ b cap, v = .slice (some ⟨b, 0, none⟩) l.length cap ∧ b < w.heap.size := by
  rcases h.2 with ⟨_, h1⟩ | ⟨g, cap, cur, rfl, hg, hh, hn⟩
  · omega
  · exact ⟨g, cap, rfl, (Array.getElem?_eq_some_iff.1 hh).1⟩
theorem Ms.below {g : Nat} {vs : List Value} {w W W' : World} {T : Nat → List ByteArray} (h : Ms g vs w T W) (hb : Below W.heap.size W W') : Ms g vs w T W' :=
  ⟨fun i hi => (hb.cell (p := ⟨g, i * 9 + 7, none⟩) (World.block_lt_of_cell? W _ (h.cell i hi))).trans (h.cell i hi), fun i hi => own_below (h.row i hi) hb, h.fr.next hb⟩
/-- one text is written -/
theorem Ms.set {g b cap i k : Nat} {vs : List Value} {w W : World} {T T' : Nat → List ByteArray} (h : Ms g vs w T W) (hr : Rise vs) (hg : ∀ v ∈ vs, v.ownBlock ≠ some g) (hi : i < vs.length) (hv : vs[i] = .slice (some ⟨b, 0, none⟩) (T i).length cap) (x : ByteArray)
    (hT : ∀ j, T' j = if j = i then (T i).set k x else T j) : Ms g vs w T' (W.setCell ⟨b, k, none⟩ (.string x)) := by
  have hbo : vs[i].ownBlock = some b := by rw [hv]; rfl
  have hgb : g ≠ b := fun e => hg vs[i] (List.getElem_mem hi) (by rw [hbo, e])
  refine ⟨fun j hj => ?_, fun j hj => ?_, ?_⟩
  · have h1 := h.cell j hj
    rw [← h1]
    exact World.cell?_of_block (set_other _ _ _ _ hgb)
  · have h1 := h.row j hj
    rw [hT j]
    by_cases hji : j = i
    · subst hji
      rw [if_pos rfl]
      rw [hv] at h1 ⊢
      exact own_str_set x h1
    · rw [if_neg hji]
      exact own_str_other h1 (fun m hm => rise_ne2 hr j i hj hi hji hm hbo)
  · exact h.fr.set _ _ (Or.inl (List.mem_filterMap.2 ⟨vs[i], List.getElem_mem hi, hbo⟩))
theorem Ms.drew {g : Nat} {vs : List Value} {w W : World} {T : Nat → List ByteArray} (h : Ms g vs w T W) : Ms g vs w T W.drew := ⟨h.cell, h.row, h.fr.drew⟩
/-- what the lists hold while they are marked: those ahead of the i-th, and k of it -/
def mkT (T : Nat → List ByteArray) (i k : Nat) : Nat → List ByteArray := fun j => if j < i then List.replicate (T j).length (mkM j) else if j = i then List.replicate k (mkM i) ++ (T i).drop k else T j
theorem mkT_len (T : Nat → List ByteArray) (i k j : Nat) (hk : k ≤ (T i).length) : (mkT T i k j).length = (T j).length := by
  unfold mkT
  split
  · simp
  · split
    · rename_i h
      subst h
      simp; omega
    · rfl
theorem mkT_zero (T : Nat → List ByteArray) : mkT T 0 0 = T := by
  funext j
  unfold mkT
  split
  · omega
  · split
    · rename_i h; subst h; simp
    · rfl
theorem mkT_turn (T : Nat → List ByteArray) (i : Nat) : mkT T i (T i).length = mkT T (i + 1) 0 := by
  funext j
  unfold mkT
  by_cases h1 : j < i
  · rw [if_pos h1, if_pos (by omega)]
  · by_cases h2 : j = i
    · subst h2
      rw [if_neg h1, if_pos rfl, if_pos (by omega)]
      simp
    · rw [if_neg h1, if_neg h2, if_neg (by omega)]
      split
      · rename_i h; subst h; simp
      · rfl
theorem mkT_set (T : Nat → List ByteArray) (i k : Nat) (hk : k < (T i).length) : ∀ j, mkT T i (k + 1) j = if j = i then (mkT T i k i).set k (mkM i) else mkT T i k j := by
  intro j
  by_cases h : j = i
  · subst h
    rw [if_pos rfl]
    unfold mkT
    rw [if_neg (by omega), if_pos rfl, if_neg (by omega), if_pos rfl]
    rw [List.set_append_right _ _ (by simp), List.length_replicate, Nat.sub_self, List.drop_eq_getElem_cons hk, List.set_cons_zero, List.replicate_succ']
    simp
  · rw [if_neg h]
    unfold mkT
    by_cases h1 : j < i
    · rw [if_pos h1, if_pos h1]
    · rw [if_neg h1, if_neg h, if_neg h1, if_neg h]
set_option maxRecDepth 100000 in
set_option maxHeartbeats 6400000 in
theorem markScopes_any (g cap : Nat) (vs : List Value) (T : Nat → List ByteArray) (w : World) (hr : Rise vs) (hg : ∀ v ∈ vs, v.ownBlock ≠ some g) (h4 : vs.length ≤ 4) (h16 : ∀ i, (T i).length ≤ 16) (h : Ms g vs w T w) :
    Calls Tryz.prog 17 #[.slice (some ⟨g, 0, none⟩) vs.length cap] w fun e w' => e = .returned (.tuple #[]) ∧ Ms g vs w (fun j => if j < vs.length then List.replicate (T j).length (mkM j) else T j) w' := by
  have HM := hide h
  have HR := hide hr
  have HG := hide hg
  have H16 := hide h16
  clear h hr hg h16
  go_enter Tryz.func17, Tryz.ntmps17
  go_wp2_with fail
  go_loopw [2] (fun vi wr => ∃ i : Nat, i ≤ vs.length ∧ vi = .int .i64 i ∧ Ms g vs w (mkT T i 0) wr) (fun vi _ => vs.length - (intOf vi).toNat)
  case atStart => exact ⟨0, Nat.zero_le _, rfl, by rw [mkT_zero]; exact HM.out⟩
  case round =>
    obtain ⟨i, hi, rfl, hms⟩ := hrel
    have HMS := hide hms
    clear hms
    by_cases hlt : i < vs.length
    · have j0 : (0 : Int) ≤ (i : Int) := Int.natCast_nonneg _
      have j1 : (i : Int) < (vs.length : Int) := by omega
      go_wp2_with fail
      go_loopw [3] (fun vk wk => ∃ k : Nat, k ≤ (T i).length ∧ vk = .int .i64 k ∧ Ms g vs w (mkT T i k) wk) (fun vk _ => (T i).length - (intOf vk).toNat)
      case atStart => exact ⟨0, Nat.zero_le _, rfl, HMS.out⟩
      case round =>
        obtain ⟨k, hk, rfl, hmk⟩ := hrel
        have HMK := hide hmk
        clear hmk
        have hc := HMK.out.cell i hlt
        have HLN := hide (mkT_len T i k i hk)
        obtain ⟨oi, ci, hvi⟩ := own_slice (HMK.out.row i hlt)
        rw [HLN.out] at hvi
        rw [hvi] at hc
        by_cases hkl : k < (T i).length
        · have k0 : (0 : Int) ≤ (k : Int) := Int.natCast_nonneg _
          have k1 : (k : Int) < ((T i).length : Int) := by omega
          have h16 := H16.out i
          obtain ⟨b, cb, hvb, hbl⟩ := str_slot (HMK.out.row i hlt) (by rw [HLN.out]; omega)
          rw [HLN.out, hvi] at hvb
          cases hvb
          have hcl := own_str_cell (k := k) (by have := HMK.out.row i hlt; rw [hvi] at this; exact this) (by rw [HLN.out]; exact hkl)
          obtain ⟨c0, f0⟩ := hcl
          generalize (mkT T i k i)[k]'(by rw [HLN.out]; exact hkl) = x0 at *
          obtain ⟨C, hC, hCn⟩ : ∃ C : UInt8, mkM i = ⟨#[C]⟩ ∧ C.toNat = 48 + i := ⟨UInt8.ofNat (48 + i), rfl, by rw [UInt8.toNat_ofNat']; omega⟩
          have e1 : IntKind.i64.wrap (48 + (i : Int)) = ((C.toNat : Nat) : Int) := by rw [hCn]; unfold IntKind.wrap; simp [IntKind.bits, IntKind.signed]; omega
          have e2 : IntKind.u8.wrap ((C.toNat : Nat) : Int) = ((C.toNat : Nat) : Int) := by rw [hCn]; unfold IntKind.wrap; simp [IntKind.bits, IntKind.signed]; omega
          have hcvA := conv_rd (one_u8 wr.drew C)
          have hcvB := conv_rd (rd_drew (one_u8 wr C))
          have hC9 : (⟨[C].toArray⟩ : ByteArray) = mkM i := hC.symm
          rw [hC9] at hcvA hcvB
          have bA : Below wr.heap.size wr (wr.alloc (.cells #[.int .u8 ((C.toNat : Nat) : Int)] 5)) := (Below.refl _ _).alloc (Nat.le_refl _) _
          have hcA := (bA.cell (p := ⟨g, i * 9 + 7, none⟩) (World.block_lt_of_cell? wr _ hc)).trans hc
          have c0A := (bA.cell (p := ⟨b, k, none⟩) (World.block_lt_of_cell? wr _ c0)).trans c0
          have f0A : (wr.alloc (.cells #[.int .u8 ((C.toNat : Nat) : Int)] 5)).frozen? ⟨b, k, none⟩ = false := by
            have h9 := bA.block b (World.block_lt_of_cell? wr _ c0)
            have h8 := f0
            simp only [World.frozen?] at h8 ⊢
            rw [h9]
            exact h8
          clear bA
          have n1 := World.new_ne wr _ hc
          have n2 := World.new_ne wr _ c0
          have HN : Hid (Ms g vs w (mkT T i (k + 1)) ((wr.setCell ⟨b, k, none⟩ (.string (mkM i))).alloc (.cells #[.int .u8 ((C.toNat : Nat) : Int)] 5)).drew) :=
            ((HMK.out.set HR.out HG.out hlt (by rw [hvi, HLN.out]) _ (mkT_set T i k hkl)).below ((Below.refl _ _).alloc (Nat.le_refl _) _)).drew
          have HCC := hide hC
          have HCN := hide hCn
          clear hC hCn hC9
          go_wp2_with fail
          go_region
          all_goals
            go_wp2_with fail
            go_roundw
            case rel => exact ⟨k + 1, by omega, by go_num, HN.out⟩
            case measure => simp [intOf]; omega
        · have k1 : ¬ (k : Int) < ((T i).length : Int) := by omega
          have HT : Hid (Ms g vs w (mkT T (i + 1) 0) wr) := by
            have h9 := HMK.out
            have hk9 : k = (T i).length := by omega
            rw [hk9, mkT_turn] at h9
            exact h9
          go_wp2_with fail
          go_roundw
          case rel => exact ⟨i + 1, by omega, by go_num, HT.out⟩
          case measure => simp [intOf]; omega
    · have j1 : ¬ (i : Int) < (vs.length : Int) := by omega
      obtain rfl : i = vs.length := by omega
      have HF : Hid (Ms g vs w (fun j => if j < vs.length then List.replicate (T j).length (mkM j) else T j) wr) := by
        have h9 : (fun j => if j < vs.length then List.replicate (T j).length (mkM j) else T j) = mkT T vs.length 0 := by
          funext j
          unfold mkT
          split
          · rfl
          · split
            · rename_i h; subst h; simp
            · rfl
        show Ms _ _ _ _ _
        rw [h9]
        exact HMS.out
      go_wp2_with fail
      go_end0
      exact ⟨rfl, HF.out⟩
end Go.Proofs.YtocpikgcbibcoaaGreatDoor.rc

namespace Go.Proofs.YtocpikgcbibcoaaGreatDoor.rc
open Go.ChangeShapes Go.WideShapes Go.ChangeAt Go.RowKit Go.Proofs.YtocpikgcbibcoaaGreatDoor.common Go.Proofs.YtocpikgcbibcoaaGreatDoor.dk
attribute [local go_sem ↓] Go.wp_at_zero Go.wp_at_succ

set_option maxRecDepth 100000 in
set_option maxHeartbeats 6400000 in
theorem markedScopes_any (g cap : Nat) (vs : List Value) (n : Nat → Nat) (w0 w : World) (h4 : vs.length ≤ 4) (h16 : ∀ i, n i ≤ 16) (h : Ms g vs w0 (fun j => List.replicate (n j) (mkM j)) w) :
    Calls Tryz.prog 30 #[.slice (some ⟨g, 0, none⟩) vs.length cap] w fun e w' => e = .returned (.bool true) ∧ Below w.heap.size w w' := by
  have HM : Hid (∀ X, Below w.heap.size w X → Ms g vs w0 (fun j => List.replicate (n j) (mkM j)) X) := fun X hX => h.below hX
  have H16 := hide h16
  clear h h16
  go_enter Tryz.func30, Tryz.ntmps30
  go_wp2_with fail
  go_loopw [3] (fun vi wr => ∃ i : Nat, i ≤ vs.length ∧ vi = .int .i64 i ∧ Below w.heap.size w wr) (fun vi _ => vs.length - (intOf vi).toNat)
  case atStart => exact ⟨0, Nat.zero_le _, rfl, Below.refl _ _⟩
  case round =>
    obtain ⟨i, hi, rfl, hbl⟩ := hrel
    have HBL := hide hbl
    clear hbl
    by_cases hlt : i < vs.length
    · have j0 : (0 : Int) ≤ (i : Int) := Int.natCast_nonneg _
      have j1 : (i : Int) < (vs.length : Int) := by omega
      go_wp2_with fail
      go_loopw [4] (fun vk wk => ∃ k : Nat, k ≤ n i ∧ vk = .int .i64 k ∧ Below w.heap.size w wk) (fun vk _ => n i - (intOf vk).toNat)
      case atStart => exact ⟨0, Nat.zero_le _, rfl, HBL.out⟩
      case round =>
        obtain ⟨k, hk, rfl, hbk⟩ := hrel
        have HBK := hide hbk
        have HMS := hide (HM.out wr hbk)
        clear hbk
        have hc := HMS.out.cell i hlt
        obtain ⟨oi, ci, hvi⟩ := own_slice (HMS.out.row i hlt)
        rw [List.length_replicate] at hvi
        rw [hvi] at hc
        by_cases hkl : k < n i
        · have k0 : (0 : Int) ≤ (k : Int) := Int.natCast_nonneg _
          have k1 : (k : Int) < (n i : Int) := by omega
          have h16 := H16.out i
          obtain ⟨b, cb, hvb, hbl⟩ := str_slot (HMS.out.row i hlt) (by rw [List.length_replicate]; omega)
          rw [List.length_replicate, hvi] at hvb
          cases hvb
          obtain ⟨c0, f0⟩ := own_str_cell (k := k) (by have := HMS.out.row i hlt; rw [hvi] at this; exact this) (by rw [List.length_replicate]; exact hkl)
          rw [List.getElem_replicate] at c0
          obtain ⟨C, hC, hCn⟩ : ∃ C : UInt8, mkM i = ⟨#[C]⟩ ∧ C.toNat = 48 + i := ⟨UInt8.ofNat (48 + i), rfl, by rw [UInt8.toNat_ofNat']; omega⟩
          have e1 : IntKind.i64.wrap (48 + (i : Int)) = ((C.toNat : Nat) : Int) := by rw [hCn]; unfold IntKind.wrap; simp [IntKind.bits, IntKind.signed]; omega
          have e2 : IntKind.u8.wrap ((C.toNat : Nat) : Int) = ((C.toNat : Nat) : Int) := by rw [hCn]; unfold IntKind.wrap; simp [IntKind.bits, IntKind.signed]; omega
          have hcvA := conv_rd (one_u8 wr.drew C)
          have hcvB := conv_rd (rd_drew (one_u8 wr C))
          have hC9 : (⟨[C].toArray⟩ : ByteArray) = mkM i := hC.symm
          rw [hC9] at hcvA hcvB
          have bA : Below wr.heap.size wr (wr.alloc (.cells #[.int .u8 ((C.toNat : Nat) : Int)] 5)) := (Below.refl _ _).alloc (Nat.le_refl _) _
          have hcA := (bA.cell (p := ⟨g, i * 9 + 7, none⟩) (World.block_lt_of_cell? wr _ hc)).trans hc
          have c0A := (bA.cell (p := ⟨b, k, none⟩) (World.block_lt_of_cell? wr _ c0)).trans c0
          have f0A : (wr.alloc (.cells #[.int .u8 ((C.toNat : Nat) : Int)] 5)).frozen? ⟨b, k, none⟩ = false := by
            have h9 := bA.block b (World.block_lt_of_cell? wr _ c0)
            have h8 := f0
            simp only [World.frozen?] at h8 ⊢
            rw [h9]
            exact h8
          clear bA
          have n1 := World.new_ne wr _ hc
          have n2 := World.new_ne wr _ c0
          have HN : Hid (Below w.heap.size w (wr.drew.alloc (.cells #[.int .u8 ((C.toNat : Nat) : Int)] 5))) := HBK.out.drew.alloc HBK.out.size _
          have HCC := hide hC
          have HCN := hide hCn
          clear hC hCn hC9
          go_wp2_with fail
          go_region
          all_goals
            go_wp2_with fail
            go_roundw
            case rel => exact ⟨k + 1, by omega, by go_num, HN.out⟩
            case measure => simp [intOf]; omega
        · have k1 : ¬ (k : Int) < (n i : Int) := by omega
          go_wp2_with fail
          go_roundw
          case rel => exact ⟨i + 1, by omega, by go_num, HBK.out⟩
          case measure => simp [intOf]; omega
    · have j1 : ¬ (i : Int) < (vs.length : Int) := by omega
      go_wp2_with fail
      go_ret
      exact ⟨rfl, HBL.out⟩
end Go.Proofs.YtocpikgcbibcoaaGreatDoor.rc

namespace Go.Proofs.YtocpikgcbibcoaaGreatDoor.rc
open Go.ChangeShapes Go.WideShapes Go.ChangeAt Go.RowKit Go.Proofs.YtocpikgcbibcoaaGreatDoor.common Go.Proofs.YtocpikgcbibcoaaGreatDoor.dk
attribute [local go_sem ↓] Go.wp_at_zero Go.wp_at_succ

abbrev bsd : ByteArray := ⟨#[98, 101, 115, 105, 100, 101]⟩
/-- a list that was grown in its own room holds what it held -/
theorem own_str_head {w : World} {b cap n m : Nat} {l r : List ByteArray} (h : w.ownsRow 0 9 1 (.slice (some ⟨b, 0, none⟩) m cap) (l.length + r.length) ((l ++ r).map Value.string)) (hn : n = l.length) (hm : m = l.length + r.length) : w.ownsRow 0 9 1 (.slice (some ⟨b, 0, none⟩) n cap) l.length (l.map Value.string) := by
  subst hn hm
  refine ⟨by simp, ?_⟩
  rcases h.2 with ⟨hv, _⟩ | ⟨g', cap', cur, hv, hg, hh, h1, h2, h3, h4⟩
  · cases hv
  · cases hv
    refine Or.inr ⟨b, cap, cur, rfl, hg, hh, by omega, h2, h3, ?_⟩
    have e := congrArg (List.take (l.length * 1)) h4
    rw [List.take_take, Nat.min_eq_left (by omega)] at e
    rw [e, List.map_append, List.take_append_of_le_length (by simp), List.take_of_length_le (by simp)]
/-- the i-th list while it is grown beside, k texts -/
structure Bs (g : Nat) (vs : List Value) (w : World) (T : Nat → List ByteArray) (i : Nat) (hi : i < vs.length) (k : Nat) (u : Value) (W : World) : Prop where
  ms : Ms g vs w T W
  row : W.ownsRow 0 9 1 u ((T i).length + k) ((T i ++ List.replicate k bsd).map Value.string)
  at_ : (∃ b c, vs[i] = .slice (some ⟨b, 0, none⟩) (T i).length c ∧ u = .slice (some ⟨b, 0, none⟩) ((T i).length + k) c) ∨ (∀ m, u.ownBlock = some m → m ≠ g ∧ w.heap.size ≤ m ∧ ∀ v ∈ vs, v.ownBlock ≠ some m)
theorem Bs.start {g i : Nat} {vs : List Value} {w W : World} {T : Nat → List ByteArray} {hi : i < vs.length} (h : Ms g vs w T W) : Bs g vs w T i hi 0 vs[i] W := by
  refine ⟨h, by simpa using h.row i hi, ?_⟩
  rcases (h.row i hi).2 with ⟨hv, h0⟩ | ⟨b, cap, cur, hv, hg, hh, hn⟩
  · right
    intro m hm
    rw [hv] at hm
    cases hm
  · left
    exact ⟨b, cap, hv, by rw [hv]; rfl⟩
theorem ms_grown {g : Nat} {vs : List Value} {w W W1 : World} {T : Nat → List ByteArray} {row : Option Nat} (h : Ms g vs w T W) (hg : W.grownBy W1 row) (h1 : ∀ m, row = some m → m ≠ g ∧ w.heap.size ≤ m ∧ ∀ v ∈ vs, v.ownBlock ≠ some m) : Ms g vs w T W1 := by
  refine ⟨fun j hj => ?_, fun j hj => ?_, ?_⟩
  · have h2 := h.cell j hj
    rw [← h2]
    exact World.cell?_of_block (hg.block g (World.block_lt_of_cell? W _ h2) (fun e => (h1 g e.symm).1 rfl))
  · have h2 := h.row j hj
    refine ⟨h2.1, ?_⟩
    rcases h2.2 with hh | ⟨b, cap, cur, hv, hb, hh, hn⟩
    · exact Or.inl hh
    · refine Or.inr ⟨b, cap, cur, hv, hb, (hg.block b (Array.getElem?_eq_some_iff.1 hh).1 (fun e => ?_)).trans hh, hn⟩
      exact (h1 b e.symm).2.2 vs[j] (List.getElem_mem hj) (by rw [hv]; rfl)
  · refine h.fr.trans (fr_grown hg) (fun k hk => Or.inr ?_)
    exact (h1 k (by simpa using hk)).2.1
theorem Bs.next {g i k : Nat} {vs : List Value} {w W W1 : World} {T : Nat → List ByteArray} {hi : i < vs.length} {u u' : Value} {o : Obj} (h : Bs g vs w T i hi k u W) (hr : Rise vs) (hgv : ∀ v ∈ vs, v.ownBlock ≠ some g) (hgs : g < w.heap.size) (hvb : ∀ v ∈ vs, ∀ m, v.ownBlock = some m → m < w.heap.size)
    (hrow : W1.ownsRow 0 9 1 u' ((T i).length + k + 1) ((T i ++ List.replicate k bsd).map Value.string ++ [.string bsd]))
    (hat : (∃ b cap, u = .slice (some ⟨b, 0, none⟩) ((T i).length + k) cap ∧ u' = .slice (some ⟨b, 0, none⟩) ((T i).length + k + 1) cap ∧ (W.alloc o).grownBy W1 (some b)) ∨ (u'.ownBlock = some (W.alloc o).heap.size ∧ (W.alloc o).grownBy W1 none)) : Bs g vs w T i hi (k + 1) u' W1 := by
  have hma := h.ms.below ((Below.refl W.heap.size W).alloc (Nat.le_refl _) o)
  have hsz := h.ms.fr.size
  have hrow' : W1.ownsRow 0 9 1 u' ((T i).length + (k + 1)) ((T i ++ List.replicate (k + 1) bsd).map Value.string) := by
    rw [List.replicate_succ', ← List.append_assoc, List.map_append]
    exact hrow
  rcases hat with ⟨b, cap, hu, hu', hg⟩ | ⟨hb, hg⟩
  · rcases h.at_ with ⟨b2, c2, hv2, hu2⟩ | hout
    · rw [hu] at hu2
      cases hu2
      refine ⟨?_, hrow', Or.inl ⟨b, cap, hv2, hu'⟩⟩
      have hbo : vs[i].ownBlock = some b := by rw [hv2]; rfl
      refine ⟨fun j hj => ?_, fun j hj => ?_, ?_⟩
      · have h2 := hma.cell j hj
        rw [← h2]
        exact World.cell?_of_block (hg.block g (World.block_lt_of_cell? _ _ h2) (fun e => hgv vs[i] (List.getElem_mem hi) (by rw [hbo, ← e])))
      · by_cases hji : j = i
        · subst hji
          rw [hv2]
          rw [hu'] at hrow'
          exact own_str_head (r := List.replicate (k + 1) bsd) (by rw [List.length_replicate]; exact hrow') rfl (by rw [List.length_replicate]; rfl)
        · have h2 := hma.row j hj
          refine ⟨h2.1, ?_⟩
          rcases h2.2 with hh | ⟨b3, cap3, cur, hv, hb3, hh, hn⟩
          · exact Or.inl hh
          · exact Or.inr ⟨b3, cap3, cur, hv, hb3, (hg.block b3 (Array.getElem?_eq_some_iff.1 hh).1 (fun e => rise_ne2 hr j i hj hi hji (by rw [hv]; rfl) hbo (Option.some.inj e))).trans hh, hn⟩
      · exact hma.fr.trans (fr_grown hg) (fun m hm => Or.inl (by
          have : m = b := by simpa using hm
          rw [this]
          exact List.mem_filterMap.2 ⟨vs[i], List.getElem_mem hi, hbo⟩))
    · have hb1 := hout b (by rw [hu]; rfl)
      refine ⟨ms_grown hma hg (fun m hm => by cases hm; exact hb1), hrow', Or.inr (fun m hm => ?_)⟩
      rw [hu'] at hm
      cases hm
      exact hb1
  · refine ⟨ms_grown hma hg (fun m hm => by cases hm), hrow', Or.inr (fun m hm => ?_)⟩
    rw [hb] at hm
    have hm := Option.some.inj hm
    rw [World.size_alloc] at hm
    refine ⟨by omega, by omega, fun v hv e => ?_⟩
    have := hvb v hv m e
    omega
theorem one_str (w : World) (x : ByteArray) : ∀ j u, [Value.string x][j]? = some u → (w.alloc (.cells #[.string x] 9)).cell? ((⟨w.heap.size, 0, none⟩ : Addr).add j) = some u := by
  intro j u hu
  have h1 := heap_alloc_new w (.cells #[.string x] 9 (0, 0))
  rw [Addr.add_mid, Nat.zero_add]
  simp only [World.cell?, h1]
  simpa using hu
theorem infoSt8 : (Tryz.prog.info? 9).map (fun i => (i.zero, i.size, i.bytes)) = some (some (.string ⟨#[]⟩), 1, 16) := by kernel_rfl
set_option maxRecDepth 100000 in
set_option maxHeartbeats 12800000 in
theorem beside_any (g cap : Nat) (vs : List Value) (n : Nat → Nat) (w : World) (hr : Rise vs) (hg : ∀ v ∈ vs, v.ownBlock ≠ some g) (hgs : g < w.heap.size) (h4 : vs.length ≤ 4) (h16 : ∀ i, n i ≤ 16) (h : Ms g vs w (fun j => List.replicate (n j) (mkM j)) w) :
    Calls Tryz.prog 18 #[.slice (some ⟨g, 0, none⟩) vs.length cap] w fun e w' => e = .returned (.bool true) ∧ Fr (vs.filterMap Value.ownBlock) w w' := by
  obtain ⟨i0, hi0, hz0, hz1, hz2⟩ := info_parts infoSt8
  have HVB : Hid (∀ v ∈ vs, ∀ m, v.ownBlock = some m → m < w.heap.size) := fun v hv m hm => by
    obtain ⟨j, hj, rfl⟩ := List.getElem_of_mem hv
    exact ((h.row j hj).lt m hm).2
  obtain ⟨T, hT⟩ : ∃ T : Nat → List ByteArray, T = fun j => List.replicate (n j) (mkM j) := ⟨_, rfl⟩
  rw [← hT] at h
  have HTL : Hid (∀ j, (T j).length = n j) := fun j => by rw [hT]; simp
  have HM := hide h
  have HR := hide hr
  have HG := hide hg
  have H16 := hide h16
  have HT := hide hT
  clear h hr hg h16 hT
  go_enter Tryz.func18, Tryz.ntmps18
  go_wp2_with fail
  go_loopw [3, 4] (fun vn vi wr => ∃ i s : Nat, i ≤ vs.length ∧ vi = .int .i64 i ∧ vn = .int .i64 s ∧ 64 * i ≤ s ∧ s ≤ 80 * i ∧ Ms g vs w T wr) (fun _ vi _ => vs.length - (intOf vi).toNat)
  case atStart => exact ⟨0, 0, Nat.zero_le _, rfl, rfl, by omega, by omega, HM.out⟩
  case round =>
    obtain ⟨i, s, hi, rfl, rfl, hs1, hs2, hms⟩ := hrel
    have HMS := hide hms
    clear hms
    by_cases hlt : i < vs.length
    · have j0 : (0 : Int) ≤ (i : Int) := Int.natCast_nonneg _
      have j1 : (i : Int) < (vs.length : Int) := by omega
      have h16 : (T i).length ≤ 16 := by rw [HTL.out i]; exact H16.out i
      have hc := HMS.out.cell i hlt
      have HB0 := hide (Bs.start (hi := hlt) HMS.out)
      obtain ⟨oi, ci, hvi⟩ := own_slice (HMS.out.row i hlt)
      have HVI := hide hvi
      rw [hvi] at hc
      have HR0 : Hid (World.ownsRow (wr.alloc (.cells #[.string bsd] 9)) 0 9 1 (.slice oi (T i).length ci) ((T i).length + 0) ((T i ++ List.replicate 0 bsd).map Value.string)) := by
        have h9 := own_below HB0.out.row ((Below.refl wr.heap.size wr).alloc (Nat.le_refl _) (.cells #[.string bsd] 9))
        rw [hvi] at h9
        exact h9
      rw [Nat.add_zero] at HR0
      rw [hvi] at HB0
      clear hvi
      go_wp2_with (at_builtin; refine ak.wpList_append_keep _ (by rfl) _ _ 24 (by rfl) 0 9 i0 (.string ⟨#[]⟩) 1 16 Tryz.underlying24 hi0 hz0 hz1 hz2 rfl (by decide) (.slice oi (T i).length ci) (T i).length _ (by rfl) HR0.out ⟨wr.heap.size, 0, none⟩ 1 [.string bsd] (by rfl) rfl (one_str _ _) ?c2 ?c3 ?c4 ?c5 ?_)
      case c2 => first | rfl | (intro u hu; simp at hu; rw [hu]; rfl)
      case c3 => unfold maxLen; omega
      case c4 => omega
      case c5 => exact Nat.zero_le _
      intro v1 w1 hown1 hat1
      have HB1 := hide (HB0.out.next (u' := v1) (W1 := w1) HR.out HG.out hgs HVB.out (o := .cells #[.string bsd] 9) (by simpa using hown1) (by
        rw [Nat.add_zero]
        rcases hat1 with ⟨b, cap2, ⟨e1, e2⟩, q2, q3⟩ | ⟨q2, q3⟩
        · exact Or.inl ⟨b, cap2, by rw [e1, e2], q2, q3⟩
        · exact Or.inr ⟨by rw [World.size_alloc]; exact q2, q3⟩))
      clear hown1 hat1 HR0 HB0
      go_wp2_with fail
      go_loopw [5, 6] (fun u vk wk => ∃ k : Nat, 1 ≤ k ∧ k ≤ 64 ∧ vk = .int .i64 k ∧ Bs g vs w T i hlt k u wk) (fun _ vk _ => 64 - (intOf vk).toNat)
      case atStart => exact ⟨1, Nat.le_refl _, by decide, rfl, HB1.out⟩
      case round =>
        obtain ⟨k, hk1, hk, rfl, hbs⟩ := hrel
        have HB := hide hbs
        obtain ⟨oo, co, rfl⟩ := own_slice hbs.row
        by_cases hkl : k < 64
        · have k1 : (k : Int) < 64 := by omega
          have HRk := hide (own_below hbs.row ((Below.refl wr.heap.size wr).alloc (Nat.le_refl _) (.cells #[.string bsd] 9)))
          clear hbs
          go_wp2_with (at_builtin; refine ak.wpList_append_keep _ (by rfl) _ _ 24 (by rfl) 0 9 i0 (.string ⟨#[]⟩) 1 16 Tryz.underlying24 hi0 hz0 hz1 hz2 rfl (by decide) (.slice oo ((T i).length + k) co) ((T i).length + k) _ (by rfl) HRk.out ⟨wr.heap.size, 0, none⟩ 1 [.string bsd] (by rfl) rfl (one_str _ _) ?d2 ?d3 ?d4 ?d5 ?_)
          case d2 => first | rfl | (intro u hu; simp at hu; rw [hu]; rfl)
          case d3 => unfold maxLen; omega
          case d4 => omega
          case d5 => exact Nat.zero_le _
          intro v2 w2 hown2 hat2
          have HB2 := hide (HB.out.next (u' := v2) (W1 := w2) HR.out HG.out hgs HVB.out (o := .cells #[.string bsd] 9) (by rw [List.map_append, List.map_replicate, List.append_assoc]; exact hown2) (by
            rcases hat2 with ⟨b, cap2, ⟨e1, e2⟩, q2, q3⟩ | ⟨q2, q3⟩
            · exact Or.inl ⟨b, cap2, by rw [e1, e2], q2, q3⟩
            · exact Or.inr ⟨by rw [World.size_alloc]; exact q2, q3⟩))
          clear hown2 hat2 HRk
          go_wp2_with fail
          go_roundw
          case rel => exact ⟨k + 1, by omega, by omega, by go_num, HB2.out⟩
          case measure => simp [intOf]; omega
        · obtain rfl : k = 64 := by omega
          have hw64 : IntKind.i64.wrap ((s : Int) + (((T i).length + 64 : Nat) : Int)) = ((s + ((T i).length + 64) : Nat) : Int) := by unfold IntKind.wrap; simp [IntKind.bits, IntKind.signed]; omega
          clear hbs
          go_wp2_with fail
          go_roundw
          case rel => exact ⟨i + 1, s + ((T i).length + 64), by omega, by go_num, by go_num, by omega, by omega, HB.out.ms⟩
          case measure => simp [intOf]; omega
    · have j1 : ¬ (i : Int) < (vs.length : Int) := by omega
      obtain rfl : i = vs.length := by omega
      have HMK := hide (markedScopes_any g cap vs n w wr h4 H16.out (by rw [← HT.out]; exact HMS.out))
      have HFR := hide HMS.out.fr
      have k1 : 64 * (vs.length : Int) ≤ (s : Int) := by omega
      have k2 : decide (64 * (vs.length : Int) ≤ (s : Int)) = true := decide_eq_true k1
      go_wp2_with fail
      refine HMK.out.mono ?_
      rintro x w9 ⟨rfl, b9⟩
      have HF9 := hide (HFR.out.next b9)
      clear b9
      go_wp2_with fail
      go_ret
      exact ⟨rfl, HF9.out⟩
end Go.Proofs.YtocpikgcbibcoaaGreatDoor.rc
