import Derived.Test.YtocpikgcbibcoaaGreatDoorMAddWalks
namespace Go.Proofs.YtocpikgcbibcoaaGreatDoor.shaw
open Go.ChangeShapes Go.WideShapes Go.ChangeAt Go.RowKit Go.Proofs.YtocpikgcbibcoaaGreatDoor.common
attribute [local go_sem ↓] Go.wp_at_zero Go.wp_at_succ

/-- the first words lie in their table -/
def FW (w : World) : Prop := w.rangeAt 15 0 [.int .u32 1779033703, .int .u32 3144134277, .int .u32 1013904242, .int .u32 2773480762, .int .u32 1359893119, .int .u32 2600822924, .int .u32 528734635, .int .u32 1541459225]

theorem FW.lt {w : World} (h : FW w) : 15 < w.heap.size := range_lt h (by decide)
theorem FW.below {w w' : World} {B : Nat} (h : FW w) (hb : Below B w w') (hB : 15 < B) : FW w' := range_below h hb hB

theorem builtHash : Tryz.prog.built 118 [(0, .agg #[.int .u32 1779033703, .int .u32 3144134277, .int .u32 1013904242, .int .u32 2773480762, .int .u32 1359893119, .int .u32 2600822924, .int .u32 528734635, .int .u32 1541459225])] = some #[.int .u32 1779033703, .int .u32 3144134277, .int .u32 1013904242, .int .u32 2773480762, .int .u32 1359893119, .int .u32 2600822924, .int .u32 528734635, .int .u32 1541459225, .int .u8 0, .int .u8 0, .int .u8 0, .int .u8 0, .int .u8 0, .int .u8 0, .int .u8 0, .int .u8 0, .int .u8 0, .int .u8 0, .int .u8 0, .int .u8 0, .int .u8 0, .int .u8 0, .int .u8 0, .int .u8 0, .int .u8 0, .int .u8 0, .int .u8 0, .int .u8 0, .int .u8 0, .int .u8 0, .int .u8 0, .int .u8 0, .int .u8 0, .int .u8 0, .int .u8 0, .int .u8 0, .int .u8 0, .int .u8 0, .int .u8 0, .int .u8 0, .int .u8 0, .int .u8 0, .int .u8 0, .int .u8 0, .int .u8 0, .int .u8 0, .int .u8 0, .int .u8 0, .int .u8 0, .int .u8 0, .int .u8 0, .int .u8 0, .int .u8 0, .int .u8 0, .int .u8 0, .int .u8 0, .int .u8 0, .int .u8 0, .int .u8 0, .int .u8 0, .int .u8 0, .int .u8 0, .int .u8 0, .int .u8 0, .int .u8 0, .int .u8 0, .int .u8 0, .int .u8 0, .int .u8 0, .int .u8 0, .int .u8 0, .int .u8 0, .int .u64 0] := by kernel_rfl

theorem hash_new {w : World} {b : Nat} (hr : w.rangeAt b 0 (([.int .u32 1779033703, .int .u32 3144134277, .int .u32 1013904242, .int .u32 2773480762, .int .u32 1359893119, .int .u32 2600822924, .int .u32 528734635, .int .u32 1541459225] : List Value) ++ List.replicate 64 (.int .u8 0) ++ [.int .u64 0])) (ht : w.there b 0 73) : HashOf w b 0 [] := by
  refine ⟨List.replicate 64 0, ⟨?_, ?_, by simp, ?_, ht⟩, rfl⟩
  · intro j v hv
    refine hr j v ?_
    have hj : j < 8 := by
      have := (List.getElem?_eq_some_iff.1 hv).1
      simpa [Sha.words] using this
    match j, hj, hv with
    | 0, _, hv => exact hv
    | 1, _, hv => exact hv
    | 2, _, hv => exact hv
    | 3, _, hv => exact hv
    | 4, _, hv => exact hv
    | 5, _, hv => exact hv
    | 6, _, hv => exact hv
    | 7, _, hv => exact hv
  · intro j v hv
    have hj : j < 64 := by
      have := (List.getElem?_eq_some_iff.1 hv).1
      simpa using this
    have hv0 : v = .int .u8 0 := by
      rw [List.map_replicate, List.getElem?_replicate, if_pos hj] at hv
      exact (Option.some.inj hv).symm
    subst hv0
    have := hr (8 + j) (.int .u8 0) (by
      rw [List.getElem?_append_left (by rw [List.length_append, List.length_replicate]; show 8 + j < 8 + 64; omega), List.getElem?_append_right (by show 8 ≤ 8 + j; omega), List.getElem?_replicate]
      exact if_pos (by show 8 + j - 8 < 64; omega))
    rw [show 0 + (8 + j) = 0 + 8 + j by omega] at this
    exact this
  · exact hr 72 _ rfl

theorem newHash_any (w : World) (hf : FW w) :
    Calls Tryz.prog 62 #[] w fun e w' => e = .returned (.pointer (some ⟨w.heap.size, 0, none⟩)) ∧ HashOf w' w.heap.size 0 [] ∧ Below w.heap.size w w' ∧ w'.heap.size = w.heap.size + 1 := by
  have f0 : w.cell? ⟨15, 0, none⟩ = some (.int .u32 1779033703) := hf 0 _ rfl
  have f1 : w.cell? ⟨15, 1, none⟩ = some (.int .u32 3144134277) := hf 1 _ rfl
  have f2 : w.cell? ⟨15, 2, none⟩ = some (.int .u32 1013904242) := hf 2 _ rfl
  have f3 : w.cell? ⟨15, 3, none⟩ = some (.int .u32 2773480762) := hf 3 _ rfl
  have f4 : w.cell? ⟨15, 4, none⟩ = some (.int .u32 1359893119) := hf 4 _ rfl
  have f5 : w.cell? ⟨15, 5, none⟩ = some (.int .u32 2600822924) := hf 5 _ rfl
  have f6 : w.cell? ⟨15, 6, none⟩ = some (.int .u32 528734635) := hf 6 _ rfl
  have f7 : w.cell? ⟨15, 7, none⟩ = some (.int .u32 1541459225) := hf 7 _ rfl
  have HF := hide hf
  clear hf
  go_enter Tryz.func62, Tryz.ntmps62
  go_wp2_with (refine wpList_build_to (by rfl) 118 _ (by rfl) [(0, .agg #[.int .u32 1779033703, .int .u32 3144134277, .int .u32 1013904242, .int .u32 2773480762, .int .u32 1359893119, .int .u32 2600822924, .int .u32 528734635, .int .u32 1541459225])] (by simp [Act.eval]) _ builtHash ?_)
  go_ret
  refine ⟨rfl, hash_new (range_new_at w _ _ _ _ rfl rfl) (there_new_at w _ _ _ _ rfl rfl), (Below.refl _ _).alloc (Nat.le_refl _) _, by simp⟩

end Go.Proofs.YtocpikgcbibcoaaGreatDoor.shaw

namespace Go.Proofs.YtocpikgcbibcoaaGreatDoor.shaw
open Go.ChangeShapes Go.WideShapes Go.ChangeAt Go.RowKit Go.Proofs.YtocpikgcbibcoaaGreatDoor.common
attribute [local go_sem ↓] Go.wp_at_zero Go.wp_at_succ

theorem zeroHash (w : World) : (zeroValue 118).run Tryz.prog w = .ok (.agg #[.int .u32 0, .int .u32 0, .int .u32 0, .int .u32 0, .int .u32 0, .int .u32 0, .int .u32 0, .int .u32 0, .int .u8 0, .int .u8 0, .int .u8 0, .int .u8 0, .int .u8 0, .int .u8 0, .int .u8 0, .int .u8 0, .int .u8 0, .int .u8 0, .int .u8 0, .int .u8 0, .int .u8 0, .int .u8 0, .int .u8 0, .int .u8 0, .int .u8 0, .int .u8 0, .int .u8 0, .int .u8 0, .int .u8 0, .int .u8 0, .int .u8 0, .int .u8 0, .int .u8 0, .int .u8 0, .int .u8 0, .int .u8 0, .int .u8 0, .int .u8 0, .int .u8 0, .int .u8 0, .int .u8 0, .int .u8 0, .int .u8 0, .int .u8 0, .int .u8 0, .int .u8 0, .int .u8 0, .int .u8 0, .int .u8 0, .int .u8 0, .int .u8 0, .int .u8 0, .int .u8 0, .int .u8 0, .int .u8 0, .int .u8 0, .int .u8 0, .int .u8 0, .int .u8 0, .int .u8 0, .int .u8 0, .int .u8 0, .int .u8 0, .int .u8 0, .int .u8 0, .int .u8 0, .int .u8 0, .int .u8 0, .int .u8 0, .int .u8 0, .int .u8 0, .int .u8 0, .int .u64 0]) w := by kernel_rfl
theorem sizeHash : (Tryz.prog.info? 118).map (·.size) = some 73 := by kernel_rfl

/-- a digest's cells, one behind the other -/
def cells73 (v : Sha.St) (pc : List UInt8) (n : Nat) : List Value := (Sha.words v).map V ++ pc.map B ++ [.int .u64 (n : Int)]

theorem cells73_length (v : Sha.St) (pc : List UInt8) (n : Nat) (h : pc.length = 64) : (cells73 v pc n).length = 73 := by simp [cells73, Sha.words, h]

theorem HashAt.all {w : World} {b o n : Nat} {v : Sha.St} {pc : List UInt8} (h : HashAt w b o v pc n) : w.rangeAt b o (cells73 v pc n) := fun j x hx => by
  unfold cells73 at hx
  have l1 : ((Sha.words v).map V).length = 8 := rfl
  have l2 : (pc.map B).length = 64 := by rw [List.length_map]; exact h.len
  by_cases h1 : j < 8
  · rw [List.append_assoc, List.getElem?_append_left (by rw [l1]; exact h1)] at hx
    exact h.st j x hx
  · by_cases h2 : j < 72
    · rw [List.getElem?_append_left (by rw [List.length_append, l1, l2]; omega), List.getElem?_append_right (by rw [l1]; omega), l1] at hx
      have := h.buf (j - 8) x hx
      rw [show o + 8 + (j - 8) = o + j by omega] at this
      exact this
    · rw [List.getElem?_append_right (by rw [List.length_append, l1, l2]; omega), List.length_append, l1, l2] at hx
      have hj : j = 72 := by
        have := (List.getElem?_eq_some_iff.1 hx).1
        simp at this; omega
      subst hj
      have hx' : Value.int .u64 (n : Int) = x := Option.some.inj hx
      rw [← hx']
      exact h.cnt

theorem hashAt_of {w : World} {b o n : Nat} {v : Sha.St} {pc : List UInt8} (hl : pc.length = 64) (h : w.rangeAt b o (cells73 v pc n)) (ht : w.there b o 73) : HashAt w b o v pc n := by
  have l1 : ((Sha.words v).map V).length = 8 := rfl
  have l2 : (pc.map B).length = 64 := by rw [List.length_map]; exact hl
  refine ⟨fun j x hx => ?_, fun j x hx => ?_, hl, ?_, ht⟩
  · have hj := (List.getElem?_eq_some_iff.1 hx).1
    refine h j x ?_
    unfold cells73
    rw [List.append_assoc, List.getElem?_append_left hj]; exact hx
  · have hj := (List.getElem?_eq_some_iff.1 hx).1
    have := h (8 + j) x (by
      unfold cells73
      rw [List.getElem?_append_left (by rw [List.length_append, l1]; omega), List.getElem?_append_right (by rw [l1]; omega), l1, Nat.add_sub_cancel_left]; exact hx)
    rw [show o + (8 + j) = o + 8 + j by omega] at this
    exact this
  · refine h 72 _ ?_
    unfold cells73
    rw [List.getElem?_append_right (by rw [List.length_append, l1, l2]; omega), List.length_append, l1, l2]
    rfl

theorem one73 {v : Sha.St} {pc : List UInt8} {n : Nat} : (cells73 v pc n).toArray.all (·.oneCell') = true := all_oneCell_toArray (by
  intro x hx
  unfold cells73 at hx
  simp only [List.mem_append, List.mem_map, List.mem_singleton] at hx
  rcases hx with (⟨y, _, rfl⟩ | ⟨y, _, rfl⟩) | rfl <;> rfl)

def bytesTo (X : Sha.St) (k : Nat) : List UInt8 := ((Sha.words X).take k).flatMap Sha.wbytes

theorem bytesTo_length (X : Sha.St) (k : Nat) (hk : k ≤ 8) : (bytesTo X k).length = 4 * k :=
  match k, hk with
  | 0, _ | 1, _ | 2, _ | 3, _ | 4, _ | 5, _ | 6, _ | 7, _ | 8, _ => rfl

theorem bytesTo_succ (X : Sha.St) (k : Nat) (hk : k < 8) : bytesTo X (k + 1) = bytesTo X k ++ Sha.wbytes ((Sha.words X).getD k 0#32) :=
  match k, hk with
  | 0, _ | 1, _ | 2, _ | 3, _ | 4, _ | 5, _ | 6, _ | 7, _ => rfl

theorem wbytes_map (x : BitVec 32) : (Sha.wbytes x).map B = [.int .u8 ((x.toNat : Int) / 16777216), .int .u8 ((x.toNat : Int) / 65536 % 256), .int .u8 ((x.toNat : Int) / 256 % 256), .int .u8 ((x.toNat : Int) % 256)] := by
  have h := x.isLt
  have e0 : ((UInt8.ofNat (x.toNat / 16777216)).toNat : Int) = (x.toNat : Int) / 16777216 := by rw [UInt8.toNat_ofNat']; omega
  have e1 : ((UInt8.ofNat (x.toNat / 65536)).toNat : Int) = (x.toNat : Int) / 65536 % 256 := by rw [UInt8.toNat_ofNat']; omega
  have e2 : ((UInt8.ofNat (x.toNat / 256)).toNat : Int) = (x.toNat : Int) / 256 % 256 := by rw [UInt8.toNat_ofNat']; omega
  have e3 : ((UInt8.ofNat x.toNat).toNat : Int) = (x.toNat : Int) % 256 := by rw [UInt8.toNat_ofNat']; omega
  simp only [Sha.wbytes, List.map_cons, List.map_nil, B, e0, e1, e2, e3]

theorem range4 {w : World} {b k : Nat} {cs : List Value} (ht : w.there b 0 32) (hr : w.rangeAt b 0 cs) (hl : cs.length = 4 * k) (hk : k < 8) (v0 v1 v2 v3 : Value) :
    ((((w.setCell ⟨b, 4 * k, none⟩ v0).setCell ⟨b, 4 * k + 1, none⟩ v1).setCell ⟨b, 4 * k + 2, none⟩ v2).setCell ⟨b, 4 * k + 3, none⟩ v3).rangeAt b 0 (cs ++ [v0, v1, v2, v3]) := by
  have r0 := range_snoc hr v0 (ht _ (by omega)).1
  have t0 := there_set ht ⟨b, 0 + cs.length, none⟩ v0
  have r1 := range_snoc r0 v1 (t0 _ (by simp; omega)).1
  have t1 := there_set t0 ⟨b, 0 + (cs ++ [v0]).length, none⟩ v1
  have r2 := range_snoc r1 v2 (t1 _ (by simp; omega)).1
  have t2 := there_set t1 ⟨b, 0 + (cs ++ [v0] ++ [v1]).length, none⟩ v2
  have r3 := range_snoc r2 v3 (t2 _ (by simp; omega)).1
  have e1 : 0 + (cs ++ [v0]).length = 4 * k + 1 := by simp; omega
  have e2 : 0 + (cs ++ [v0] ++ [v1]).length = 4 * k + 2 := by simp; omega
  have e3 : 0 + (cs ++ [v0] ++ [v1] ++ [v2]).length = 4 * k + 3 := by simp; omega
  rw [e1, e2, e3, show 0 + cs.length = 4 * k by omega] at r3
  simpa using r3

theorem index8 (X : Sha.St) (k : Nat) (hk : k < 8) (W : World) : (Instr.index 115 (.agg #[V X.a, V X.b, V X.c, V X.d, V X.e, V X.f, V X.g, V X.h]) (.int .i64 (k : Int))).run Tryz.prog W = .ok (V ((Sha.words X).getD k 0#32)) W :=
  match k, hk with
  | 0, _ => by kernel_rfl
  | 1, _ => by kernel_rfl
  | 2, _ => by kernel_rfl
  | 3, _ => by kernel_rfl
  | 4, _ => by kernel_rfl
  | 5, _ => by kernel_rfl
  | 6, _ => by kernel_rfl
  | 7, _ => by kernel_rfl

set_option maxRecDepth 100000 in
set_option maxHeartbeats 1600000 in
theorem sum_any (b o : Nat) (l : List UInt8) (w : World) (hl : l.length ≤ 562949953421312) (hH : HashOf w b o l) (hk : RW w) :
    Calls Tryz.prog 64 #[.pointer (some ⟨b, o, none⟩)] w fun e w' => e = .returned (.string ⟨(Sha.digest l).toArray⟩) ∧ Below w.heap.size w w' := by
  have HK := hide hk
  have HH := hide hH
  clear hk hH
  obtain ⟨D, hD⟩ : ∃ D, (Sha.digest l).toArray = D := ⟨_, rfl⟩
  rw [hD]
  have HD := hide hD
  clear hD
  have hz := zeroHash
  go_enter Tryz.func64, Tryz.ntmps64
  go_upto_region 1 with fail
  go_cut [3] (fun s wx => s = .pointer (some ⟨w.heap.size, 0, none⟩) ∧ HashOf wx w.heap.size 0 l ∧ Below w.heap.size w wx)
  case first =>
    obtain ⟨pc, hA, hp⟩ := HH.out
    have HA := hide hA
    have HP := hide hp
    clear hA hp
    have HI : Hid ((Tryz.prog.info? 118).map (·.size) = some (cells73 (Sha.after l (l.length / 64)) pc l.length).length) := by
      show _ = _
      rw [cells73_length _ _ _ HA.out.len]; exact sizeHash
    have HI2 : Hid ((Tryz.prog.info? 118).map (·.size) = some (cells73 (Sha.after l (l.length / 64)) pc l.length).toArray.size) := by
      show _ = _
      rw [List.size_toArray]; exact HI.out
    have HL73 : Hid ((cells73 (Sha.after l (l.length / 64)) pc l.length).toArray.size = 73) := by show _ = _; rw [List.size_toArray]; exact cells73_length _ _ _ HA.out.len
    have HR := hide HA.out.all
    have HO : Hid ((cells73 (Sha.after l (l.length / 64)) pc l.length).toArray.all (·.oneCell') = true) := one73
    have HB : Hid (∀ W : World, W.rangeAt w.heap.size 0 (cells73 (Sha.after l (l.length / 64)) pc l.length) → W.there w.heap.size 0 73 → HashOf W w.heap.size 0 l) := fun W h1 h2 => ⟨pc, hashAt_of HA.out.len h1 h2, HP.out⟩
    generalize cells73 (Sha.after l (l.length / 64)) pc l.length = C at *
    go_wp2_with (first | (refine wpList_load_mid (by rfl) 118 (.tmp 8) (by rfl) b o (by rfl) C _ HR.out Tryz.underlying118 rfl HI.out ?_) | (refine wpList_store_mid (by rfl) 118 (.tmp 3) (.tmp 9) (by rfl) w.heap.size 0 C.toArray (by rfl) (by rfl) ?st HI2.out HO.out ?_))
    case st => exact there_new_at w _ _ _ _ rfl HL73.out
    go_meet
    case rel =>
      have ht : (w.alloc (.cells #[.int .u32 0, .int .u32 0, .int .u32 0, .int .u32 0, .int .u32 0, .int .u32 0, .int .u32 0, .int .u32 0, .int .u8 0, .int .u8 0, .int .u8 0, .int .u8 0, .int .u8 0, .int .u8 0, .int .u8 0, .int .u8 0, .int .u8 0, .int .u8 0, .int .u8 0, .int .u8 0, .int .u8 0, .int .u8 0, .int .u8 0, .int .u8 0, .int .u8 0, .int .u8 0, .int .u8 0, .int .u8 0, .int .u8 0, .int .u8 0, .int .u8 0, .int .u8 0, .int .u8 0, .int .u8 0, .int .u8 0, .int .u8 0, .int .u8 0, .int .u8 0, .int .u8 0, .int .u8 0, .int .u8 0, .int .u8 0, .int .u8 0, .int .u8 0, .int .u8 0, .int .u8 0, .int .u8 0, .int .u8 0, .int .u8 0, .int .u8 0, .int .u8 0, .int .u8 0, .int .u8 0, .int .u8 0, .int .u8 0, .int .u8 0, .int .u8 0, .int .u8 0, .int .u8 0, .int .u8 0, .int .u8 0, .int .u8 0, .int .u8 0, .int .u8 0, .int .u8 0, .int .u8 0, .int .u8 0, .int .u8 0, .int .u8 0, .int .u8 0, .int .u8 0, .int .u8 0, .int .u64 0] 118)).there w.heap.size 0 73 := there_new_at w _ _ _ _ rfl rfl
      refine ⟨rfl, HB.out _ ?_ ?_, common.below_setCells ((Below.refl _ _).alloc (Nat.le_refl _) _) (Nat.le_refl _) _ _⟩
      · exact World.rangeAt_setCells_same _ _ _ _ (by have := HL73.out; rw [List.size_toArray] at this; rw [this]; exact ht)
      · exact World.there_setCells ht _ _ _
  case rest =>
    obtain ⟨rfl, hL, hB⟩ := hcut
    have hcnt : wc.cell? ⟨b, o + 72, none⟩ = some (.int .u64 (l.length : Int)) := by
      obtain ⟨pc, h, _⟩ := HH.out.below hB
      exact h.cnt
    have HL := hide hL
    have HB := hide hB
    have HKR := hide (HK.out.below hB HK.out.lt)
    have HHL : Hid (w.heap.size < wc.heap.size) := by obtain ⟨pc, h, _⟩ := hL; exact h.lt
    have HNE : Hid (w.heap.size ≠ 18) := fun h => by have := HK.out.lt; omega
    clear hL hB
    go_wp2_with fail
    refine (padding_any l.length (by omega) _).mono ?_
    rintro e w2 ⟨rfl, hb2⟩
    have HB2 := hide hb2
    clear hb2
    have hpl := Sha.padSize_bounds l.length
    go_wp2_with fail
    refine (add_any w.heap.size 0 l ⟨(Sha.pad l.length).toArray⟩ w2 (by simp [ByteArray.size, Sha.pad, Sha.padTo_length]; omega) (HL.out.below HB2.out) (HKR.out.below HB2.out HKR.out.lt) HNE.out).mono ?_
    rintro e w3 ⟨rfl, hh3, hk3⟩
    obtain ⟨pc3, hA3, _⟩ := hh3
    have hB3 : Below w.heap.size w w3 := (HB.out.trans (HB2.out.mono (Nat.le_of_lt HHL.out))).trans (hk3.Below (Nat.le_refl _) (Nat.le_trans (Nat.le_of_lt HHL.out) HB2.out.size))
    obtain ⟨X, hX⟩ : ∃ X, Sha.after (l ++ (Sha.pad l.length)) ((l ++ (Sha.pad l.length)).length / 64) = X := ⟨_, rfl⟩
    have hdig : Hid (Sha.bytes X = Sha.digest l) := by
      show _ = _
      rw [← hX]; unfold Sha.digest
      rw [List.length_append]
      have : (Sha.pad l.length).length = Sha.padSize l.length := Sha.padTo_length _ _
      rw [this]
    have hA3' : HashAt w3 w.heap.size 0 X pc3 (l ++ (Sha.pad l.length)).length := by rw [← hX]; exact hA3
    obtain ⟨s0, s1, s2, s3, s4, s5, s6, s7, _⟩ := hA3'.st8
    simp only [Nat.zero_add] at s0 s1 s2 s3 s4 s5 s6 s7
    have h3l : w.heap.size < w3.heap.size := hA3'.lt
    have H3 := hide hB3
    clear hA3 hA3' hk3 hX hB3
    go_wp2_with fail
    go_loopw [18] (fun i wr => ∃ k : Nat, k ≤ 8 ∧ i = .int .i64 k ∧ wr.there w3.heap.size 0 32 ∧ wr.rangeAt w3.heap.size 0 ((bytesTo X k).map B) ∧ Below w.heap.size w wr) (fun i _ => 8 - (intOf i).toNat)
    case atStart =>
      refine ⟨0, Nat.zero_le _, rfl, there_new_at w3 _ _ _ _ rfl rfl, fun j v hv => ?_, H3.out.alloc (Nat.le_of_lt h3l) _⟩
      simp [bytesTo] at hv
    case round =>
      obtain ⟨k, hk, rfl, ht, hr, hb⟩ := hrel
      by_cases hlt : k < 8
      · have hidx := index8 X k hlt
        obtain ⟨x, hx⟩ : ∃ x, (Sha.words X).getD k 0#32 = x := ⟨_, rfl⟩
        rw [hx] at hidx
        have HX := hide hx
        clear hx
        have k0 : (0 : Int) ≤ (k : Int) := Int.natCast_nonneg _
        have k1 : (k : Int) < 8 := by omega
        have f0 : wr.frozen? ⟨w3.heap.size, 4 * k, none⟩ = false := by simpa using (ht (4 * k) (by omega)).2
        obtain ⟨v0, hv0⟩ : ∃ v, wr.cell? ⟨w3.heap.size, 4 * k, none⟩ = some v := by have := (ht (4 * k) (by omega)).1; rw [Nat.zero_add] at this; exact Option.isSome_iff_exists.1 this
        have m0 : IntKind.i64.wrap (4 * (k : Int)) = 4 * (k : Int) := wrap_small _ (by omega) (by omega)
        have n0 : (4 * (k : Int)).toNat = 4 * k := by omega
        have l0 : (0 : Int) ≤ 4 * (k : Int) := by omega
        have r0 : 4 * (k : Int) < 32 := by omega
        have f1 : wr.frozen? ⟨w3.heap.size, 4 * k + 1, none⟩ = false := by simpa using (ht (4 * k + 1) (by omega)).2
        obtain ⟨v1, hv1⟩ : ∃ v, wr.cell? ⟨w3.heap.size, 4 * k + 1, none⟩ = some v := by have := (ht (4 * k + 1) (by omega)).1; rw [Nat.zero_add] at this; exact Option.isSome_iff_exists.1 this
        have m1 : IntKind.i64.wrap (4 * (k : Int) + 1) = 4 * (k : Int) + 1 := wrap_small _ (by omega) (by omega)
        have n1 : (4 * (k : Int) + 1).toNat = 4 * k + 1 := by omega
        have l1 : (0 : Int) ≤ 4 * (k : Int) + 1 := by omega
        have r1 : 4 * (k : Int) + 1 < 32 := by omega
        have f2 : wr.frozen? ⟨w3.heap.size, 4 * k + 2, none⟩ = false := by simpa using (ht (4 * k + 2) (by omega)).2
        obtain ⟨v2, hv2⟩ : ∃ v, wr.cell? ⟨w3.heap.size, 4 * k + 2, none⟩ = some v := by have := (ht (4 * k + 2) (by omega)).1; rw [Nat.zero_add] at this; exact Option.isSome_iff_exists.1 this
        have m2 : IntKind.i64.wrap (4 * (k : Int) + 2) = 4 * (k : Int) + 2 := wrap_small _ (by omega) (by omega)
        have n2 : (4 * (k : Int) + 2).toNat = 4 * k + 2 := by omega
        have l2 : (0 : Int) ≤ 4 * (k : Int) + 2 := by omega
        have r2 : 4 * (k : Int) + 2 < 32 := by omega
        have f3 : wr.frozen? ⟨w3.heap.size, 4 * k + 3, none⟩ = false := by simpa using (ht (4 * k + 3) (by omega)).2
        obtain ⟨v3, hv3⟩ : ∃ v, wr.cell? ⟨w3.heap.size, 4 * k + 3, none⟩ = some v := by have := (ht (4 * k + 3) (by omega)).1; rw [Nat.zero_add] at this; exact Option.isSome_iff_exists.1 this
        have m3 : IntKind.i64.wrap (4 * (k : Int) + 3) = 4 * (k : Int) + 3 := wrap_small _ (by omega) (by omega)
        have n3 : (4 * (k : Int) + 3).toNat = 4 * k + 3 := by omega
        have l3 : (0 : Int) ≤ 4 * (k : Int) + 3 := by omega
        have r3 : 4 * (k : Int) + 3 < 32 := by omega
        have H0 := hide ht
        have H1 := hide hr
        have H2 := hide hb
        clear ht hr hb
        go_wp2_with fail
        refine ⟨⟨k + 1, by omega, by go_num, there_set (there_set (there_set (there_set H0.out _ _) _ _) _ _) _ _, ?_, (((H2.out.setCell (Nat.le_of_lt h3l) _).setCell (Nat.le_of_lt h3l) _).setCell (Nat.le_of_lt h3l) _).setCell (Nat.le_of_lt h3l) _⟩, by simp [intOf]; omega⟩
        rw [bytesTo_succ X k hlt, HX.out, List.map_append, wbytes_map]
        exact range4 H0.out H1.out (by rw [List.length_map, bytesTo_length X k hk]) hlt _ _ _ _
      · obtain rfl : k = 8 := by omega
        have hconv : (convert 27 9 (.slice (some ⟨w3.heap.size, 0, none⟩) 32 32)).run Tryz.prog wr = .ok (.string ⟨D⟩) wr := by
          have hl : (bytesTo X 8).length = 32 := bytesTo_length X 8 (Nat.le_refl _)
          have := run_convert_bytes_back (P := Tryz.prog) wr 27 9 5 ⟨w3.heap.size, 0, none⟩ 32 (bytesTo X 8) Tryz.underlying27 Tryz.underlying5 Tryz.underlying9 (by
            intro j hj
            rw [Addr.add_mid]
            have hc := range_cell hr j (by rw [List.length_map]; exact hj)
            rw [hc]
            simp)
          rw [hl, show bytesTo X 8 = Sha.digest l from hdig.out, HD.out] at this
          exact this
        have H2 := hide hb
        clear hb hr ht
        go_wp2_with fail
        go_ret
        exact ⟨rfl, H2.out⟩
end Go.Proofs.YtocpikgcbibcoaaGreatDoor.shaw
