import Derived.Test.YtocpikgcbibcoaaGreatDoorMShaWords
import Derived.Test.YtocpikgcbibcoaaGreatDoorMPieceWalks
import Derived.Deep.DeepCutAuto
import Derived.Laws.IdiomStrings
namespace Go.Proofs.YtocpikgcbibcoaaGreatDoor.Sha

/-- the buffer of the padding, and what is written into it from the end -/
def padBase : List UInt8 := 0x80 :: List.replicate 71 0
def padFill (n : Nat) : Nat → List UInt8
  | 0 => padBase
  | i + 1 => (padFill n i).set (padSize n - 1 - i) (UInt8.ofNat (8 * n / 2 ^ (8 * i)))

theorem padSize_bounds (n : Nat) : 9 ≤ padSize n ∧ padSize n ≤ 72 := by unfold padSize; omega

theorem padFill_length (n i : Nat) : (padFill n i).length = 72 := by
  induction i with
  | zero => simp [padFill, padBase]
  | succ i ih => simp [padFill, ih]

theorem padFill_get (n i j : Nat) (hi : i ≤ 8) (hj : j < 72) : (padFill n i).getD j 0 = if padSize n - i ≤ j ∧ j < padSize n then UInt8.ofNat (8 * n / 2 ^ (8 * (padSize n - 1 - j))) else if j = 0 then 0x80 else 0 := by
  have hb := padSize_bounds n
  induction i with
  | zero =>
    rw [if_neg (by omega)]
    simp only [padFill, padBase]
    cases j with
    | zero => rfl
    | succ j =>
      show (List.replicate 71 (0 : UInt8)).getD j 0 = _
      rw [List.getD_eq_getElem?_getD, List.getElem?_replicate, if_pos (by omega), if_neg (by omega)]
      rfl
  | succ i ih =>
    simp only [padFill]
    by_cases e : j = padSize n - 1 - i
    · subst e
      rw [if_pos (by omega)]
      have : padSize n - 1 - (padSize n - 1 - i) = i := by omega
      rw [this, List.getD_eq_getElem?_getD, List.getElem?_set_self (by rw [padFill_length]; omega)]
      rfl
    · rw [List.getD_eq_getElem?_getD, List.getElem?_set_ne (by omega), ← List.getD_eq_getElem?_getD, ih (by omega)]
      have hiff : (padSize n - (i + 1) ≤ j ∧ j < padSize n) ↔ (padSize n - i ≤ j ∧ j < padSize n) := by omega
      simp only [hiff]

theorem padTo_length (n i : Nat) : (padTo n i).length = i := by
  induction i with
  | zero => rfl
  | succ i ih => simp [padTo, ih]

theorem padTo_get (n i j : Nat) (h : j < i) : (padTo n i).getD j 0 = padByte n j := by
  induction i with
  | zero => omega
  | succ i ih =>
    simp only [padTo]
    by_cases e : j = i
    · subst e
      rw [List.getD_eq_getElem?_getD, List.getElem?_append_right (by rw [padTo_length]; exact Nat.le_refl _), padTo_length]; simp
    · rw [List.getD_eq_getElem?_getD, List.getElem?_append_left (by rw [padTo_length]; omega), ← List.getD_eq_getElem?_getD]
      exact ih (by omega)

theorem ext_getD {l m : List UInt8} (hl : l.length = m.length) (h : ∀ j, j < l.length → l.getD j 0 = m.getD j 0) : l = m := by
  apply List.ext_getElem hl
  intro j h1 h2
  have := h j h1
  simpa [List.getD_eq_getElem?_getD, h1, h2] using this

theorem pad_fill (n : Nat) : (padFill n 8).take (padSize n) = pad n := by
  have hb := padSize_bounds n
  apply ext_getD
  · simp [padFill_length, pad, padTo_length]; omega
  · intro j hj
    simp [padFill_length] at hj
    have e1 : ((padFill n 8).take (padSize n)).getD j 0 = (padFill n 8).getD j 0 := by
      simp only [List.getD_eq_getElem?_getD]
      rw [List.getElem?_take_of_lt (by omega)]
    rw [e1, padFill_get n 8 j (by omega) (by omega)]
    unfold pad
    rw [padTo_get _ _ _ (by omega)]
    unfold padByte
    by_cases h0 : j = 0
    · subst h0; rw [if_neg (by omega), if_pos rfl, if_pos rfl]
    · by_cases h1 : j + 8 < padSize n
      · rw [if_neg (show ¬ (padSize n - 8 ≤ j ∧ j < padSize n) by omega), if_neg h0, if_neg h0, if_pos h1]
      · rw [if_pos (show padSize n - 8 ≤ j ∧ j < padSize n by omega), if_neg h0, if_neg h1]

end Go.Proofs.YtocpikgcbibcoaaGreatDoor.Sha

namespace Go.Proofs.YtocpikgcbibcoaaGreatDoor.shaw
open Go.ChangeShapes Go.WideShapes Go.ChangeAt Go.RowKit Go.Proofs.YtocpikgcbibcoaaGreatDoor.common
attribute [local go_sem ↓] Go.wp_at_zero Go.wp_at_succ

theorem byte_div (n k : Nat) : Value.int .u8 ((n : Int) * 8 / 2 ^ (8 * k) % 256) = B (UInt8.ofNat (8 * n / 2 ^ (8 * k))) := by
  have e : ((n : Int) * 8 / 2 ^ (8 * k)) = ((8 * n / 2 ^ (8 * k) : Nat) : Int) := by
    have : ((2 : Int) ^ (8 * k)) = ((2 ^ (8 * k) : Nat) : Int) := (Int.natCast_pow 2 (8 * k)).symm
    rw [this, Nat.mul_comm 8 n]
    simp
  rw [e]
  generalize 8 * n / 2 ^ (8 * k) = q
  apply int_eq
  rw [UInt8.toNat_ofNat']
  omega

theorem size72 : (Tryz.prog.info? 135).map (·.size) = some 72 := by kernel_rfl

theorem zero72 (w : World) : (zeroValue 135).run Tryz.prog w = .ok (.agg #[.int .u8 0, .int .u8 0, .int .u8 0, .int .u8 0, .int .u8 0, .int .u8 0, .int .u8 0, .int .u8 0, .int .u8 0, .int .u8 0, .int .u8 0, .int .u8 0, .int .u8 0, .int .u8 0, .int .u8 0, .int .u8 0, .int .u8 0, .int .u8 0, .int .u8 0, .int .u8 0, .int .u8 0, .int .u8 0, .int .u8 0, .int .u8 0, .int .u8 0, .int .u8 0, .int .u8 0, .int .u8 0, .int .u8 0, .int .u8 0, .int .u8 0, .int .u8 0, .int .u8 0, .int .u8 0, .int .u8 0, .int .u8 0, .int .u8 0, .int .u8 0, .int .u8 0, .int .u8 0, .int .u8 0, .int .u8 0, .int .u8 0, .int .u8 0, .int .u8 0, .int .u8 0, .int .u8 0, .int .u8 0, .int .u8 0, .int .u8 0, .int .u8 0, .int .u8 0, .int .u8 0, .int .u8 0, .int .u8 0, .int .u8 0, .int .u8 0, .int .u8 0, .int .u8 0, .int .u8 0, .int .u8 0, .int .u8 0, .int .u8 0, .int .u8 0, .int .u8 0, .int .u8 0, .int .u8 0, .int .u8 0, .int .u8 0, .int .u8 0, .int .u8 0, .int .u8 0]) w := by kernel_rfl

theorem built72 : Tryz.prog.built 135 [(0, .int .u8 128)] = some #[.int .u8 128, .int .u8 0, .int .u8 0, .int .u8 0, .int .u8 0, .int .u8 0, .int .u8 0, .int .u8 0, .int .u8 0, .int .u8 0, .int .u8 0, .int .u8 0, .int .u8 0, .int .u8 0, .int .u8 0, .int .u8 0, .int .u8 0, .int .u8 0, .int .u8 0, .int .u8 0, .int .u8 0, .int .u8 0, .int .u8 0, .int .u8 0, .int .u8 0, .int .u8 0, .int .u8 0, .int .u8 0, .int .u8 0, .int .u8 0, .int .u8 0, .int .u8 0, .int .u8 0, .int .u8 0, .int .u8 0, .int .u8 0, .int .u8 0, .int .u8 0, .int .u8 0, .int .u8 0, .int .u8 0, .int .u8 0, .int .u8 0, .int .u8 0, .int .u8 0, .int .u8 0, .int .u8 0, .int .u8 0, .int .u8 0, .int .u8 0, .int .u8 0, .int .u8 0, .int .u8 0, .int .u8 0, .int .u8 0, .int .u8 0, .int .u8 0, .int .u8 0, .int .u8 0, .int .u8 0, .int .u8 0, .int .u8 0, .int .u8 0, .int .u8 0, .int .u8 0, .int .u8 0, .int .u8 0, .int .u8 0, .int .u8 0, .int .u8 0, .int .u8 0, .int .u8 0] := by kernel_rfl

theorem wpList_build_to {P : Program} {ops : Array Oper} {rest : List Oper} {op : Oper} {a : Act} {w : World} {Q : Exit → Act → World → Prop} (hgd : op.guard = none) (t : TypeId) (parts : Array (Nat × Operand)) (ho : op.op = .build t parts)
    (vals : List (Nat × Value)) (hv : (parts.map fun (i, x) => (i, a.eval x)).toList = vals) (cells : Array Value) (hb : P.built t vals = some cells)
    (h : wpList P ops Q rest (a.put op.dst (.agg cells)) w) : wpList P ops Q (op :: rest) a w := by
  subst hv
  exact wpList_plain hgd fun _ hK => wp_build t parts ho (by rw [hb]; rfl) (by rw [hb]; exact hK _ _ h)

set_option maxRecDepth 100000 in
set_option maxHeartbeats 800000 in
theorem padding_any (n : Nat) (hn : n ≤ 1125899906842624) (w : World) :
    Calls Tryz.prog 79 #[.int .u64 (n : Int)] w fun e w' => e = .returned (.string ⟨(Sha.pad n).toArray⟩) ∧ Below w.heap.size w w' := by
  go_enter Tryz.func79, Tryz.ntmps79
  have hz := zero72
  go_upto_region 1 with fail
  go_cut [3] (fun s wx => s = .pointer (some ⟨w.heap.size, 0, none⟩) ∧ wx.there w.heap.size 0 72 ∧ wx.rangeAt w.heap.size 0 ((Sha.padBase).map B) ∧ Below w.heap.size w wx)
  case first =>
    go_wp2_with (first | (refine wpList_build_to (by rfl) 135 _ (by rfl) [(0, .int .u8 128)] (by simp [Act.eval]) _ built72 ?_) | (refine wpList_store_mid (by rfl) 135 (.tmp 3) (.tmp 6) (by rfl) w.heap.size 0 #[.int .u8 128, .int .u8 0, .int .u8 0, .int .u8 0, .int .u8 0, .int .u8 0, .int .u8 0, .int .u8 0, .int .u8 0, .int .u8 0, .int .u8 0, .int .u8 0, .int .u8 0, .int .u8 0, .int .u8 0, .int .u8 0, .int .u8 0, .int .u8 0, .int .u8 0, .int .u8 0, .int .u8 0, .int .u8 0, .int .u8 0, .int .u8 0, .int .u8 0, .int .u8 0, .int .u8 0, .int .u8 0, .int .u8 0, .int .u8 0, .int .u8 0, .int .u8 0, .int .u8 0, .int .u8 0, .int .u8 0, .int .u8 0, .int .u8 0, .int .u8 0, .int .u8 0, .int .u8 0, .int .u8 0, .int .u8 0, .int .u8 0, .int .u8 0, .int .u8 0, .int .u8 0, .int .u8 0, .int .u8 0, .int .u8 0, .int .u8 0, .int .u8 0, .int .u8 0, .int .u8 0, .int .u8 0, .int .u8 0, .int .u8 0, .int .u8 0, .int .u8 0, .int .u8 0, .int .u8 0, .int .u8 0, .int .u8 0, .int .u8 0, .int .u8 0, .int .u8 0, .int .u8 0, .int .u8 0, .int .u8 0, .int .u8 0, .int .u8 0, .int .u8 0, .int .u8 0] (by rfl) (by rfl) ?st ?hi ?ho ?_))
    case st => exact there_new_at w _ _ _ _ rfl rfl
    case hi => simpa using size72
    case ho => simp [Value.oneCell']
    go_meet
    case rel => exact ⟨rfl, World.there_setCells (there_new_at w _ _ _ _ rfl rfl) _ _ _, World.rangeAt_setCells_same _ _ _ _ (there_new_at w _ _ _ _ rfl rfl), below_setCells ((Below.refl _ _).alloc (Nat.le_refl _) _) (Nat.le_refl _) _ _⟩
  case rest =>
    obtain ⟨rfl, ht, hr, hb⟩ := hcut
    have hS : (72 : Int) - ((n : Int) + 8) % 64 = (Sha.padSize n : Int) := by unfold Sha.padSize; omega
    have hSb := Sha.padSize_bounds n
    have HT := hide ht
    have HR := hide hr
    have HB := hide hb
    clear ht hr hb
    generalize hSn : Sha.padSize n = S at *
    have HS := hide hSn
    clear hSn
    go_wp2_with fail
    go_loopw [11] (fun i wr => ∃ k : Nat, k ≤ 8 ∧ i = .int .u64 k ∧ wr.there w.heap.size 0 72 ∧ wr.rangeAt w.heap.size 0 ((Sha.padFill n k).map B) ∧ Below w.heap.size w wr) (fun i _ => 8 - (intOf i).toNat)
    case atStart => exact ⟨0, Nat.zero_le _, rfl, HT.out, HR.out, HB.out⟩
    case round =>
      obtain ⟨k, hk, rfl, ht, hr, hb⟩ := hrel
      by_cases hlt : k < 8
      · have f0 : wr.frozen? ⟨w.heap.size, S - 1 - k, none⟩ = false := by simpa using (ht (S - 1 - k) (by omega)).2
        have f1 : (wr.cell? ⟨w.heap.size, S - 1 - k, none⟩).isSome = true := by simpa using (ht (S - 1 - k) (by omega)).1
        obtain ⟨v0, hv0⟩ := Option.isSome_iff_exists.1 f1
        clear f1
        have n0 : ((S : Int) - 1 - (k : Int)).toNat = S - 1 - k := by omega
        have l0 : (0 : Int) ≤ (S : Int) - 1 - (k : Int) := by omega
        have l1 : (S : Int) - 1 - (k : Int) < 72 := by omega
        have l2 : (k : Int) < 8 := by omega
        have H0 := hide ht
        have H1 := hide hr
        have H2 := hide hb
        clear ht hr hb
        go_wp2_with fail
        refine ⟨⟨k + 1, by omega, by go_num, there_set H0.out _ _, ?_, H2.out.setCell (Nat.le_refl _) _⟩, by simp [intOf]; omega⟩
        have hl : ((Sha.padFill n k).map B).length = 72 := by simp [Sha.padFill_length]
        have R := range_set H1.out (S - 1 - k) (by rw [hl]; omega) (B (UInt8.ofNat (8 * n / 2 ^ (8 * k))))
        rw [Nat.zero_add] at R
        have e : (Sha.padFill n (k + 1)).map B = ((Sha.padFill n k).map B).set (S - 1 - k) (B (UInt8.ofNat (8 * n / 2 ^ (8 * k)))) := by
          simp only [Sha.padFill, HS.out, List.map_set]
        rw [e, byte_div]
        exact R
      · obtain rfl : k = 8 := by omega
        have hconv : (convert 27 9 (.slice (some ⟨w.heap.size, 0, none⟩) S 72)).run Tryz.prog wr = .ok (.string ⟨(Sha.pad n).toArray⟩) wr := by
          have hl : (Sha.pad n).length = S := by rw [← Sha.pad_fill, HS.out]; simp [Sha.padFill_length]; omega
          have := run_convert_bytes_back (P := Tryz.prog) wr 27 9 5 ⟨w.heap.size, 0, none⟩ 72 (Sha.pad n) Tryz.underlying27 Tryz.underlying5 Tryz.underlying9 (by
            intro j hj
            rw [Addr.add_mid]
            have hj72 : j < 72 := by omega
            have hc := range_cell hr j (by simp [Sha.padFill_length]; omega)
            rw [hc]
            have e : (Sha.pad n)[j] = (Sha.padFill n 8)[j]'(by rw [Sha.padFill_length]; omega) := by
              simp only [← Sha.pad_fill]
              rw [List.getElem_take]
            simp [e])
          rw [hl] at this
          exact this
        have H2 := hide hb
        clear hb hr ht
        have l3 : (S : Int) ≤ 72 := by omega
        go_wp2_with fail
        go_ret
        exact ⟨rfl, H2.out⟩
end Go.Proofs.YtocpikgcbibcoaaGreatDoor.shaw
