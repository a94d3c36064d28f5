import Derived.Test.YtimbhneegphhbaaGreatDoorRcRdM
import Derived.Laws.Shifts
namespace Go.Proofs.YtimbhneegphhbaaGreatDoor.rc
open Go.ChangeShapes Go.WideShapes Go.ChangeAt Go.RowKit Go.Proofs.YtimbhneegphhbaaGreatDoor.common Go.Proofs.YtimbhneegphhbaaGreatDoor.dk

theorem wrap64_nat (n : Nat) (h : n < 9223372036854775808) : IntKind.i64.wrap (n : Int) = (n : Int) := by
  simp [IntKind.wrap, IntKind.bits, IntKind.signed]
  split <;> omega
theorem or64_nat (a b : Nat) (ha : a < 9223372036854775808) (hb : b < 9223372036854775808) : bits .or .i64 (a : Int) (b : Int) = ((a ||| b : Nat) : Int) := by
  have hx : a ||| b < 2 ^ 63 := Nat.or_lt_two_pow (by omega) (by omega)
  have h1 : (BitVec.ofInt 64 (a : Int)).toNat = a := by
    rw [BitVec.ofInt_natCast, BitVec.toNat_ofNat]; exact Nat.mod_eq_of_lt (by omega)
  have h2 : (BitVec.ofInt 64 (b : Int)).toNat = b := by
    rw [BitVec.ofInt_natCast, BitVec.toNat_ofNat]; exact Nat.mod_eq_of_lt (by omega)
  show IntKind.i64.wrap ((BitVec.ofInt 64 (a : Int) ||| BitVec.ofInt 64 (b : Int)).toNat : Int) = _
  rw [BitVec.toNat_or, h1, h2, wrap64_nat _ (by omega)]
/-- a group put above those below it -/
theorem or_group (a g i : Nat) (hi : i ≤ 8) (ha : a < 128 ^ i) (hg : g < 128) : bits .or .i64 (a : Int) (IntKind.i64.wrap ((g : Int) * 2 ^ (7 * i))) = ((a + 128 ^ i * g : Nat) : Int) := by
  have e1 : (128 : Nat) ^ i = 2 ^ (7 * i) := by rw [Nat.pow_mul]
  have e2 : ((g : Int) * 2 ^ (7 * i)) = ((g * 128 ^ i : Nat) : Int) := by rw [e1]; simp
  have h3 : 128 ^ i ≤ 128 ^ 8 := Nat.pow_le_pow_right (by decide) hi
  have h4 : g * 128 ^ i ≤ 127 * 128 ^ 8 := Nat.mul_le_mul (by omega) h3
  have h5 : (128 : Nat) ^ 8 = 72057594037927936 := by decide
  rw [e2, wrap64_nat _ (by omega), or64_nat _ _ (by omega) (by omega)]
  congr 1
  rw [Nat.or_comm, e1, ← Nat.shiftLeft_eq, ← Nat.shiftLeft_add_eq_or_of_lt (by rw [← e1]; exact ha), Nat.shiftLeft_eq, Nat.add_comm, Nat.mul_comm]

/-- what headNumber answers -/
theorem wrap_is (n : Int) : IntKind.i64.wrap n = wrap64 n := by unfold wrap64; exact IntKind.wrap_i64 n
def hnV (l : List UInt8) : Nat := match rdN l with | none => 0 | some (n, _) => n
def hnS (l : List UInt8) : Nat := match rdN l with | none => 0 | some (_, r) => l.length - r.length
/-- i groups were read, their number is a -/
def HI (l : List UInt8) (i a : Nat) : Prop := a < 128 ^ i ∧ rdN l = match rdF (9 - i) (decide (i = 0)) (l.drop i) with | none => none | some (m, r) => some (a + 128 ^ i * m, r)
theorem hi_zero (l : List UInt8) : HI l 0 0 := by
  refine ⟨by decide, ?_⟩
  show rdF 9 true l = match rdF 9 true l with | none => none | some (m, r) => some (0 + 128 ^ 0 * m, r)
  cases rdF 9 true l with
  | none => rfl
  | some x => obtain ⟨m, r⟩ := x; simp
theorem hi_at {l : List UInt8} {i a : Nat} (h : HI l i a) (hi : i < l.length) (h9 : i < 9) :
    (l[i].toNat = 0 ∧ 0 < i → rdN l = none) ∧ (¬ (l[i].toNat = 0 ∧ 0 < i) → l[i].toNat < 128 → rdN l = some (a + 128 ^ i * (l[i].toNat % 128), l.drop (i + 1))) ∧
      (¬ l[i].toNat < 128 → HI l (i + 1) (a + 128 ^ i * (l[i].toNat % 128))) := by
  obtain ⟨h1, h2⟩ := h
  have e9 : 9 - i = (8 - i) + 1 := by omega
  have ed : l.drop i = l[i] :: l.drop (i + 1) := List.drop_eq_getElem_cons hi
  rw [e9, ed] at h2
  unfold rdF at h2
  refine ⟨fun hc => ?_, fun hc hl => ?_, fun hl => ⟨?_, ?_⟩⟩
  · rw [h2, if_pos ⟨hc.1, decide_eq_false (by omega)⟩]
  · rw [h2, if_neg (by rintro ⟨x, y⟩; exact hc ⟨x, by have := of_decide_eq_false y; omega⟩), if_pos hl, Nat.mod_eq_of_lt hl]
  · rw [Nat.pow_succ]
    have := Nat.mul_le_mul_left (128 ^ i) (show l[i].toNat % 128 ≤ 127 by omega)
    omega
  · rw [h2, if_neg (by rintro ⟨x, _⟩; omega), if_neg hl]
    rw [show 9 - (i + 1) = 8 - i by omega, show decide (i + 1 = 0) = false by simp]
    cases rdF (8 - i) false (l.drop (i + 1)) with
    | none => rfl
    | some x =>
      obtain ⟨m, r⟩ := x
      simp only [Option.some.injEq, Prod.mk.injEq, and_true]
      rw [Nat.pow_succ, Nat.mul_add, Nat.mul_assoc, Nat.add_assoc]
theorem hi_end {l : List UInt8} {i a : Nat} (h : HI l i a) (hi : i = l.length ∨ i = 9) : rdN l = none := by
  obtain ⟨_, h2⟩ := h
  rw [h2]
  rcases hi with h | h
  · rw [List.drop_eq_nil_of_le (by omega)]
    cases 9 - i <;> rfl
  · rw [h]; rfl
theorem hn_none {l : List UInt8} (h : rdN l = none) : hnV l = 0 ∧ hnS l = 0 := by unfold hnV hnS; rw [h]; exact ⟨rfl, rfl⟩
theorem hn_some {l r : List UInt8} {n : Nat} (h : rdN l = some (n, r)) : hnV l = n ∧ hnS l = l.length - r.length := by unfold hnV hnS; rw [h]; exact ⟨rfl, rfl⟩

set_option maxRecDepth 100000 in
set_option maxHeartbeats 6400000 in
theorem headA (l : List UInt8) (v : Value) (w : World) (h : Rd w v l) (hl : l.length ≤ 4611686018427387904) (hc9 : l.length ≤ 9) :
    Calls Tryz.prog 47 #[v] w fun e w' => e = .returned (.tuple #[.int .i64 (hnV l : Int), .int .i64 (hnS l : Int)]) ∧ w' = w := by
  obtain ⟨oa, c, rfl⟩ := Rd.len h
  have km : (l.length : Int) ≤ 9 := by omega
  have km2 : decide ((l.length : Int) ≤ 9) = true := decide_eq_true km
  have HR := hide h
  clear h
  go_enter Tryz.func47, Tryz.ntmps47
  go_wp2_with fail
  go_loopw [2, 8] (fun acc i wr => ∃ j a : Nat, j ≤ l.length ∧ i = .int .i64 (j : Int) ∧ acc = .int .i64 (a : Int) ∧ HI l j a ∧ wr = w) (fun _ i _ => l.length - (intOf i).toNat)
  case atStart => exact ⟨0, 0, Nat.zero_le _, rfl, rfl, hi_zero l, rfl⟩
  case round =>
    obtain ⟨j, a, hj, rfl, rfl, hI, rfl⟩ := hrel
    by_cases hlt : j < l.length
    · have hjl : j < l.length := by omega
      have j0 : (0 : Int) ≤ (j : Int) := Int.natCast_nonneg _
      have j1 : (j : Int) < (l.length : Int) := by omega
      have j2 : (j : Int) < (l.length : Int) := by omega
      obtain ⟨q1, q2, q3⟩ := hi_at hI hjl (by omega)
      obtain ⟨g, o, rfl, hcell⟩ := HR.out.cell (by omega)
      have c0 := hcell j hjl
      have hor := or_group a (l[j].toNat % 128) j (by omega) hI.1 (Nat.mod_lt _ (by decide))
      have hc256 : l[j].toNat < 256 := u8_lt _
      have hdl : l.length - (l.length - (j + 1)) = j + 1 := by omega
      have hdr : (l.drop (j + 1)).length = l.length - (j + 1) := List.length_drop
      generalize l[j]'hjl = cc at *
      have HOR : Hid (bits .or .i64 (a : Int) (wrap64 (((cc.toNat : Nat) : Int) % 128 * 2 ^ (7 * j))) = ((a + 128 ^ j * (cc.toNat % 128) : Nat) : Int)) := by
        show _ = _
        rw [← hor, Int.natCast_emod, wrap_is, show ((128 : Nat) : Int) = 128 from rfl]
      clear hor hcell
      by_cases hc1 : cc.toNat < 128
      · by_cases hc0 : cc.toNat = 0
        · have k2b : (((cc.toNat : Nat) : Int) == 0) = true := by rw [hc0]; rfl
          by_cases hj0 : 0 < j
          · have HN := hide (hn_none (q1 ⟨hc0, hj0⟩))
            have k3 : (0 : Int) < (j : Int) := by omega
            have k3b : decide ((0 : Int) < (j : Int)) = true := decide_eq_true k3
            clear q1 q2 q3 hI hdl hdr hc0
            go_wp2_with fail
            go_ret2
            exact ⟨by rw [HN.out.1, HN.out.2]; rfl, rfl⟩
          · have HN := hide (hn_some (q2 (by omega) hc1))
            rw [hdr, hdl] at HN
            have k3 : ¬ (0 : Int) < (j : Int) := by omega
            have k3b : decide ((0 : Int) < (j : Int)) = false := decide_eq_false k3
            have k1 : ((cc.toNat : Nat) : Int) < 128 := by omega
            clear q1 q2 q3 hI hdl hdr hc0
            go_wp2_with fail
            go_ret2
            refine ⟨?_, rfl⟩
            rw [HN.out.1, HN.out.2, ← HOR.out]
            simp
        · have HN := hide (hn_some (q2 (by omega) hc1))
          rw [hdr, hdl] at HN
          have k2 : ¬ ((cc.toNat : Nat) : Int) = 0 := by omega
          have k2b : (((cc.toNat : Nat) : Int) == 0) = false := beq_false_of_ne k2
          have k1 : ((cc.toNat : Nat) : Int) < 128 := by omega
          clear q1 q2 q3 hI hdl hdr
          go_wp2_with fail
          go_ret2
          refine ⟨?_, rfl⟩
          rw [HN.out.1, HN.out.2, ← HOR.out]
          simp
      · have k1 : ¬ ((cc.toNat : Nat) : Int) < 128 := by omega
        have k2 : ¬ ((cc.toNat : Nat) : Int) = 0 := by omega
        have k2b : (((cc.toNat : Nat) : Int) == 0) = false := beq_false_of_ne k2
        have Q3 := hide (q3 hc1)
        clear q1 q2 q3 hI hdl hdr
        go_wp2_with fail
        refine ⟨⟨j + 1, _, by omega, by go_num, by rw [HOR.out], Q3.out, trivial⟩, by simp [intOf]; omega⟩
    · have HN := hide (hn_none (hi_end hI (by omega)))
      have j1 : ¬ (j : Int) < (l.length : Int) := by omega
      clear hI
      go_wp2_with fail
      go_ret2
      exact ⟨by rw [HN.out.1, HN.out.2]; rfl, rfl⟩
set_option maxRecDepth 100000 in
set_option maxHeartbeats 6400000 in
theorem headB (l : List UInt8) (v : Value) (w : World) (h : Rd w v l) (hl : l.length ≤ 4611686018427387904) (hc9 : 9 < l.length) :
    Calls Tryz.prog 47 #[v] w fun e w' => e = .returned (.tuple #[.int .i64 (hnV l : Int), .int .i64 (hnS l : Int)]) ∧ w' = w := by
  obtain ⟨oa, c, rfl⟩ := Rd.len h
  have km : ¬ (l.length : Int) ≤ 9 := by omega
  have km2 : decide ((l.length : Int) ≤ 9) = false := decide_eq_false km
  have HR := hide h
  clear h
  go_enter Tryz.func47, Tryz.ntmps47
  go_wp2_with fail
  go_loopw [2, 8] (fun acc i wr => ∃ j a : Nat, j ≤ 9 ∧ i = .int .i64 (j : Int) ∧ acc = .int .i64 (a : Int) ∧ HI l j a ∧ wr = w) (fun _ i _ => 9 - (intOf i).toNat)
  case atStart => exact ⟨0, 0, Nat.zero_le _, rfl, rfl, hi_zero l, rfl⟩
  case round =>
    obtain ⟨j, a, hj, rfl, rfl, hI, rfl⟩ := hrel
    by_cases hlt : j < 9
    · have hjl : j < l.length := by omega
      have j0 : (0 : Int) ≤ (j : Int) := Int.natCast_nonneg _
      have j1 : (j : Int) < (9 : Int) := by omega
      have j2 : (j : Int) < (l.length : Int) := by omega
      obtain ⟨q1, q2, q3⟩ := hi_at hI hjl (by omega)
      obtain ⟨g, o, rfl, hcell⟩ := HR.out.cell (by omega)
      have c0 := hcell j hjl
      have hor := or_group a (l[j].toNat % 128) j (by omega) hI.1 (Nat.mod_lt _ (by decide))
      have hc256 : l[j].toNat < 256 := u8_lt _
      have hdl : l.length - (l.length - (j + 1)) = j + 1 := by omega
      have hdr : (l.drop (j + 1)).length = l.length - (j + 1) := List.length_drop
      generalize l[j]'hjl = cc at *
      have HOR : Hid (bits .or .i64 (a : Int) (wrap64 (((cc.toNat : Nat) : Int) % 128 * 2 ^ (7 * j))) = ((a + 128 ^ j * (cc.toNat % 128) : Nat) : Int)) := by
        show _ = _
        rw [← hor, Int.natCast_emod, wrap_is, show ((128 : Nat) : Int) = 128 from rfl]
      clear hor hcell
      by_cases hc1 : cc.toNat < 128
      · by_cases hc0 : cc.toNat = 0
        · have k2b : (((cc.toNat : Nat) : Int) == 0) = true := by rw [hc0]; rfl
          by_cases hj0 : 0 < j
          · have HN := hide (hn_none (q1 ⟨hc0, hj0⟩))
            have k3 : (0 : Int) < (j : Int) := by omega
            have k3b : decide ((0 : Int) < (j : Int)) = true := decide_eq_true k3
            clear q1 q2 q3 hI hdl hdr hc0
            go_wp2_with fail
            go_ret2
            exact ⟨by rw [HN.out.1, HN.out.2]; rfl, rfl⟩
          · have HN := hide (hn_some (q2 (by omega) hc1))
            rw [hdr, hdl] at HN
            have k3 : ¬ (0 : Int) < (j : Int) := by omega
            have k3b : decide ((0 : Int) < (j : Int)) = false := decide_eq_false k3
            have k1 : ((cc.toNat : Nat) : Int) < 128 := by omega
            clear q1 q2 q3 hI hdl hdr hc0
            go_wp2_with fail
            go_ret2
            refine ⟨?_, rfl⟩
            rw [HN.out.1, HN.out.2, ← HOR.out]
            simp
        · have HN := hide (hn_some (q2 (by omega) hc1))
          rw [hdr, hdl] at HN
          have k2 : ¬ ((cc.toNat : Nat) : Int) = 0 := by omega
          have k2b : (((cc.toNat : Nat) : Int) == 0) = false := beq_false_of_ne k2
          have k1 : ((cc.toNat : Nat) : Int) < 128 := by omega
          clear q1 q2 q3 hI hdl hdr
          go_wp2_with fail
          go_ret2
          refine ⟨?_, rfl⟩
          rw [HN.out.1, HN.out.2, ← HOR.out]
          simp
      · have k1 : ¬ ((cc.toNat : Nat) : Int) < 128 := by omega
        have k2 : ¬ ((cc.toNat : Nat) : Int) = 0 := by omega
        have k2b : (((cc.toNat : Nat) : Int) == 0) = false := beq_false_of_ne k2
        have Q3 := hide (q3 hc1)
        clear q1 q2 q3 hI hdl hdr
        go_wp2_with fail
        refine ⟨⟨j + 1, _, by omega, by go_num, by rw [HOR.out], Q3.out, trivial⟩, by simp [intOf]; omega⟩
    · have HN := hide (hn_none (hi_end hI (by omega)))
      have j1 : ¬ (j : Int) < (9 : Int) := by omega
      clear hI
      go_wp2_with fail
      go_ret2
      exact ⟨by rw [HN.out.1, HN.out.2]; rfl, rfl⟩
theorem headNumber_any (l : List UInt8) (v : Value) (w : World) (h : Rd w v l) (hl : l.length ≤ 4611686018427387904) :
    Calls Tryz.prog 47 #[v] w fun e w' => e = .returned (.tuple #[.int .i64 (hnV l : Int), .int .i64 (hnS l : Int)]) ∧ w' = w := by
  by_cases h9 : l.length ≤ 9
  · exact headA l v w h hl h9
  · exact headB l v w h hl (by omega)
end Go.Proofs.YtimbhneegphhbaaGreatDoor.rc

namespace Go.Proofs.YtimbhneegphhbaaGreatDoor.rc
open Go.ChangeShapes Go.WideShapes Go.ChangeAt Go.RowKit Go.Proofs.YtimbhneegphhbaaGreatDoor.common Go.Proofs.YtimbhneegphhbaaGreatDoor.dk
attribute [local go_sem ↓] Go.wp_at_zero Go.wp_at_succ

/-- bytes in the memory below K, in a slice whose room holds them -/
def Lo (K : Nat) (w : World) (v : Value) (l : List UInt8) : Prop := ∃ oa cap, v = .slice oa l.length cap ∧ l.length ≤ cap ∧ (0 < l.length → ∃ g o, oa = some ⟨g, o, none⟩ ∧ g < K ∧ g < w.heap.size ∧ w.rangeAt g o (l.map B))
theorem Lo.rd {K : Nat} {w : World} {v : Value} {l : List UInt8} (h : Lo K w v l) : Rd w v l := by
  obtain ⟨oa, cap, rfl, _, h⟩ := h
  exact ⟨oa, cap, rfl, fun hl => by obtain ⟨g, o, h1, _, h3, h4⟩ := h hl; exact ⟨g, o, h1, h3, h4⟩⟩
theorem Lo.keep {K : Nat} {w w' : World} {v : Value} {l : List UInt8} (h : Lo K w v l) (hk : ∀ g, g < K → g < w.heap.size → w'.heap[g]? = w.heap[g]?) (hs : w.heap.size ≤ w'.heap.size) : Lo K w' v l := by
  obtain ⟨oa, cap, rfl, hc, h⟩ := h
  refine ⟨oa, cap, rfl, hc, fun hl => ?_⟩
  obtain ⟨g, o, h1, h2, h3, h4⟩ := h hl
  exact ⟨g, o, h1, h2, Nat.lt_of_lt_of_le h3 hs, range_block h4 (hk g h2 h3)⟩
theorem Lo.fr {K : Nat} {F : List Nat} {w w' : World} {v : Value} {l : List UInt8} (h : Lo K w v l) (hf : Fr F w w') (hF : ∀ k ∈ F, K ≤ k) : Lo K w' v l :=
  h.keep (fun g hg hs => hf.block g hs (fun hm => by have := hF g hm; omega)) hf.size
theorem Lo.from {K : Nat} {w : World} {oa : Option Addr} {cap : Nat} {l : List UInt8} (h : Lo K w (.slice oa l.length cap) l) (k : Nat) (hk : k ≤ l.length) (oa' : Option Addr) (ho : ∀ g o, oa = some ⟨g, o, none⟩ → ¬ cap = k → oa' = some ⟨g, o + k, none⟩) : Lo K w (.slice oa' (l.length - k) (cap - k)) (l.drop k) := by
  obtain ⟨oa2, c2, e, hc, hr⟩ := h
  cases e
  refine ⟨oa', cap - k, by rw [List.length_drop], by rw [List.length_drop]; omega, fun h0 => ?_⟩
  rw [List.length_drop] at h0
  obtain ⟨g, o, rfl, hK, hg, hr⟩ := hr (by omega)
  refine ⟨g, o + k, ho g o rfl (by omega), hK, hg, fun j u hu => ?_⟩
  have := hr (k + j) u (by rw [List.map_drop, List.getElem?_drop] at hu; exact hu)
  rwa [← Nat.add_assoc] at this
theorem Lo.upto {K : Nat} {w : World} {oa : Option Addr} {cap : Nat} {l : List UInt8} (h : Lo K w (.slice oa l.length cap) l) (k : Nat) (hk : k ≤ l.length) : Lo K w (.slice oa k cap) (l.take k) := by
  obtain ⟨oa2, c2, e, hc, hr⟩ := h
  cases e
  have hlen : (l.take k).length = k := by rw [List.length_take]; omega
  refine ⟨oa, cap, by rw [hlen], by omega, fun h0 => ?_⟩
  rw [hlen] at h0
  obtain ⟨g, o, rfl, hK, hg, hr⟩ := hr (by omega)
  refine ⟨g, o, rfl, hK, hg, fun j u hu => hr j u ?_⟩
  rw [List.map_take, List.getElem?_take] at hu
  split at hu
  · exact hu
  · cases hu
theorem lo_nil (K : Nat) (w : World) : Lo K w (.slice none 0 0) [] := ⟨none, 0, rfl, Nat.le_refl _, fun h => absurd h (by decide)⟩

/-- at p lies a reader that has s left -/
def Rs (K p : Nat) (w : World) : St → Prop
  | none => w.heap[p]? = some (.cells #[.slice none 0 0, .bool true] 55 (0, 0))
  | some l => l.length ≤ 1048576 ∧ ∃ v, w.heap[p]? = some (.cells #[v, .bool false] 55 (0, 0)) ∧ Lo K w v l
theorem Rs.keep {K p : Nat} {w w' : World} {s : St} (h : Rs K p w s) (hk : ∀ g, g < K → g < w.heap.size → w'.heap[g]? = w.heap[g]?) (hp : w'.heap[p]? = w.heap[p]?) (hs : w.heap.size ≤ w'.heap.size) : Rs K p w' s := by
  cases s with
  | none => exact hp.trans h
  | some l => obtain ⟨h1, v, h2, h3⟩ := h; exact ⟨h1, v, hp.trans h2, h3.keep hk hs⟩
theorem Rs.lt {K p : Nat} {w : World} {s : St} (h : Rs K p w s) : p < w.heap.size := by
  cases s with
  | none => exact (Array.getElem?_eq_some_iff.1 h).1
  | some l => obtain ⟨_, v, h2, _⟩ := h; exact (Array.getElem?_eq_some_iff.1 h2).1
/-- what lies at p and how -/
theorem Rs.form {K p : Nat} {w : World} {s : St} (h : Rs K p w s) : ∃ oa n c f, w.heap[p]? = some (.cells #[.slice oa n c, .bool f] 55 (0, 0)) := by
  cases s with
  | none => exact ⟨none, 0, 0, true, h⟩
  | some l => obtain ⟨_, v, h2, oa, c, rfl, _⟩ := h; exact ⟨oa, _, c, false, h2⟩
theorem fr_set {F : List Nat} {w w' : World} (h : Fr F w w') (p j : Nat) (u : Value) (hp : p ∈ F) : Fr F w (w'.setCell ⟨p, j, none⟩ u) :=
  ⟨h.os, h.tape, h.output, by rw [size_set]; exact h.size, fun k hk hn => (set_other _ _ _ _ (show k ≠ p from fun e => hn (e ▸ hp))).trans (h.block k hk hn)⟩
theorem at_set {w : World} {p j : Nat} {cs : Array Value} {t : TypeId} (h : w.heap[p]? = some (.cells cs t (0, 0))) (u : Value) : (w.setCell ⟨p, j, none⟩ u).heap[p]? = some (.cells (cs.setIfInBounds j u) t (0, 0)) := by
  simp [World.setCell, Array.getElem?_modify, h]

theorem fail_any (K p : Nat) (oa : Option Addr) (n c : Nat) (f : Bool) (w : World) (h : w.heap[p]? = some (.cells #[.slice oa n c, .bool f] 55 (0, 0))) :
    Calls Tryz.prog 48 #[.pointer (some ⟨p, 0, none⟩)] w fun e w' => e = .returned (.tuple #[]) ∧ Rs K p w' none ∧ Fr [p] w w' := by
  have c0 : w.cell? ⟨p, 0, none⟩ = some (.slice oa n c) := cell_of h 0
  have f0 : w.frozen? ⟨p, 0, none⟩ = false := free_of h 0
  have h1 := at_set (j := 0) h (.slice none 0 0)
  have c1 : (w.setCell ⟨p, 0, none⟩ (.slice none 0 0)).cell? ⟨p, 1, none⟩ = some (.bool f) := cell_of h1 1
  have f1 : (w.setCell ⟨p, 0, none⟩ (.slice none 0 0)).frozen? ⟨p, 1, none⟩ = false := free_of h1 1
  have H2 := hide (at_set (j := 1) h1 (.bool true))
  clear h h1
  go_enter Tryz.func48, Tryz.ntmps48
  go_wp2_with fail
  first | go_end0 | refine bodyPost_end (results_none rfl _ _ _) rfl ?_
  exact ⟨rfl, H2.out, fr_set (fr_set (Fr.refl _ _) p 0 _ (List.mem_singleton.2 rfl)) p 1 _ (List.mem_singleton.2 rfl)⟩
end Go.Proofs.YtimbhneegphhbaaGreatDoor.rc

namespace Go.Proofs.YtimbhneegphhbaaGreatDoor.rc
open Go.ChangeShapes Go.WideShapes Go.ChangeAt Go.RowKit Go.Proofs.YtimbhneegphhbaaGreatDoor.common Go.Proofs.YtimbhneegphhbaaGreatDoor.dk
attribute [local go_sem ↓] Go.wp_at_zero Go.wp_at_succ

theorem rs_next {K p : Nat} {w : World} {l' : List UInt8} {v v' : Value} (hp : w.heap[p]? = some (.cells #[v, .bool false] 55 (0, 0))) (hK : K ≤ p) (hl : l'.length ≤ 1048576) (hv : Lo K w v' l') : Rs K p (w.setCell ⟨p, 0, none⟩ v') (some l') := by
  refine ⟨hl, v', at_set (j := 0) hp v', hv.keep (fun g hg _ => set_other _ _ _ _ (show g ≠ p by omega)) (by rw [size_set]; exact Nat.le_refl _)⟩
/-- where headNumber stands -/
theorem hn_le {l r : List UInt8} {n : Nat} (h : rdN l = some (n, r)) : hnV l = n ∧ 0 < hnS l ∧ hnS l ≤ l.length ∧ l.drop (hnS l) = r := by
  obtain ⟨h1, h2⟩ := hn_some h
  obtain ⟨h3, _⟩ := rdN_is h
  have h4 := (numF_len 9 n).1
  have h5 : l.length = (numL n).length + r.length := by rw [h3, List.length_append]
  have h6 : 0 < (numL n).length := h4
  refine ⟨h1, by omega, by omega, ?_⟩
  rw [h2, show l.length - r.length = (numL n).length by omega, h3, List.drop_left]
theorem set_back {cs : Array Value} {j : Nat} {u : Value} (h : cs[j]? = some u) : cs.setIfInBounds j u = cs := by
  obtain ⟨h1, h2⟩ := Array.getElem?_eq_some_iff.1 h
  rw [Array.setIfInBounds, dif_pos h1, ← h2, Array.set_getElem_self]
theorem rs_off {K p q : Nat} {w : World} {s : St} (h : Rs K p w s) (hpq : p ≠ q) (hKq : K ≤ q) (j : Nat) (u : Value) : Rs K p (w.setCell ⟨q, j, none⟩ u) s :=
  h.keep (fun g hg _ => set_other _ _ _ _ (show g ≠ q by omega)) (set_other _ _ _ _ hpq) (by rw [size_set]; exact Nat.le_refl _)
/-- how number ends -/
def NumOut (K p q j : Nat) (cs : Array Value) (t : TypeId) (n0 : Nat) (s : St) (w : World) (x : Ending) (w' : World) : Prop :=
  x = .returned (.tuple #[]) ∧ ∃ (n : Nat) (s' : St), NStep s n s' ∧ (s' = none → n = n0) ∧ Rs K p w' s' ∧ w'.heap[q]? = some (.cells (cs.setIfInBounds j (.int .i64 (n : Int))) t (0, 0)) ∧ Fr [p, q] w w'

set_option maxRecDepth 100000 in
set_option maxHeartbeats 6400000 in
theorem number_none (K p q j : Nat) (cs : Array Value) (t : TypeId) (n0 : Nat) (s : St) (v : Value) (l : List UInt8) (f : Bool) (w : World) (hp : w.heap[p]? = some (.cells #[v, .bool f] 55 (0, 0))) (hv : Lo K w v l) (hl : l.length ≤ 1048576) (hN : rdN l = none) (hS : NStep s n0 none)
    (hq : w.heap[q]? = some (.cells cs t (0, 0))) (hj : cs[j]? = some (.int .i64 (n0 : Int))) (hpq : p ≠ q) :
    Calls Tryz.prog 30 #[.pointer (some ⟨p, 0, none⟩), .pointer (some ⟨q, j, none⟩)] w (NumOut K p q j cs t n0 s w) := by
  obtain ⟨oa, cap, rfl, hcap, _⟩ := id hv
  have c0 : w.cell? ⟨p, 0, none⟩ = some (.slice oa l.length cap) := cell_of hp 0
  have HH := hide (headNumber_any l _ w hv.rd (by omega))
  rw [(hn_none hN).1, (hn_none hN).2] at HH
  have HF := hide (fail_any K p oa l.length cap f w hp)
  have HQ := hide hq
  have HJ := hide (set_back hj)
  clear hp hv hN hq hj
  unfold NumOut
  go_enter Tryz.func30, Tryz.ntmps30
  go_wp2_with fail
  refine HH.out.mono ?_
  rintro x w1 ⟨rfl, h1⟩
  obtain rfl := h1.symm
  go_wp2_with fail
  refine HF.out.mono ?_
  rintro x w2 ⟨rfl, hR, hfr⟩
  have HR := hide hR
  have HFR := hide hfr
  clear hR hfr
  go_wp2_with fail
  first | go_end0 | refine bodyPost_ret (results_none rfl _ _ _) rfl ?_ | refine bodyPost_end (results_none rfl _ _ _) rfl ?_
  refine ⟨rfl, n0, none, hS, fun _ => rfl, HR.out, ?_, HFR.out.mono (fun k hk => by rw [List.mem_singleton.1 hk]; exact List.mem_cons_self ..)⟩
  rw [HJ.out, ← HQ.out]
  exact HFR.out.block q (Array.getElem?_eq_some_iff.1 HQ.out).1 (fun hm => hpq (List.mem_singleton.1 hm).symm)

set_option maxRecDepth 100000 in
set_option maxHeartbeats 6400000 in
theorem number_some (K p q j : Nat) (cs : Array Value) (t : TypeId) (n0 n : Nat) (l r : List UInt8) (v : Value) (w : World) (hp : w.heap[p]? = some (.cells #[v, .bool false] 55 (0, 0))) (hv : Lo K w v l) (hl : l.length ≤ 1048576) (hN : rdN l = some (n, r))
    (hq : w.heap[q]? = some (.cells cs t (0, 0))) (hj : cs[j]? = some (.int .i64 (n0 : Int))) (hpq : p ≠ q) (hKp : K ≤ p) (hKq : K ≤ q) :
    Calls Tryz.prog 30 #[.pointer (some ⟨p, 0, none⟩), .pointer (some ⟨q, j, none⟩)] w (NumOut K p q j cs t n0 (some l) w) := by
  obtain ⟨oa, cap, rfl, hcap, _⟩ := id hv
  have c0 : w.cell? ⟨p, 0, none⟩ = some (.slice oa l.length cap) := cell_of hp 0
  have f0 : w.frozen? ⟨p, 0, none⟩ = false := free_of hp 0
  obtain ⟨e1, e2, e3, e4⟩ := hn_le hN
  have HH := hide (headNumber_any l _ w hv.rd (by omega))
  rw [e1] at HH
  have HST := hide (nstep_some hN)
  have hrl : r.length ≤ l.length := by rw [← e4, List.length_drop]; omega
  obtain ⟨z, hz⟩ : ∃ z, z = hnS l := ⟨_, rfl⟩
  rw [← hz] at HH e2 e3 e4
  have HNX : Hid (∀ oa', (∀ g o, oa = some ⟨g, o, none⟩ → ¬ cap = z → oa' = some ⟨g, o + z, none⟩) → Rs K p (w.setCell ⟨p, 0, none⟩ (.slice oa' (l.length - z) (cap - z))) (some r)) := fun oa' ho => by
    have h1 := hv.from z e3 oa' ho
    rw [e4] at h1
    exact rs_next hp hKp (by omega) h1
  have HQ : Hid (∀ u : Value, (w.setCell ⟨p, 0, none⟩ u).heap[q]? = some (.cells cs t (0, 0))) := fun u => (set_other _ _ _ _ (show q ≠ p from fun e => hpq e.symm)).trans hq
  have cq : ∀ u : Value, (w.setCell ⟨p, 0, none⟩ u).cell? ⟨q, j, none⟩ = some (.int .i64 (n0 : Int)) := fun u => (cell_of (HQ.out u) j).trans hj
  have fq : ∀ u : Value, (w.setCell ⟨p, 0, none⟩ u).frozen? ⟨q, j, none⟩ = false := fun u => free_of (HQ.out u) j
  have k0 : ¬ (z : Int) = 0 := by omega
  have k0b : ((z : Int) == 0) = false := beq_false_of_ne k0
  have z0 : (0 : Int) ≤ (z : Int) := Int.natCast_nonneg _
  have z1 : (z : Int) ≤ (l.length : Int) := by omega
  have z2 : (l.length : Int) ≤ (cap : Int) := by omega
  clear hp hv hN hq hj e1 e4 hz
  unfold NumOut
  by_cases hce : cap = z
  · subst hce
    have hcc : cap - cap = 0 := Nat.sub_self _
    have hlc : l.length - cap = 0 := by omega
    have HN1 := hide (HNX.out oa (fun g o _ h => absurd rfl h))
    rw [hcc, hlc] at HN1
    have cq1 := cq (.slice oa 0 0)
    have fq1 := fq (.slice oa 0 0)
    clear HNX cq fq
    go_enter Tryz.func30, Tryz.ntmps30
    go_wp2_with fail
    refine HH.out.mono ?_
    rintro x w1 ⟨rfl, h1⟩
    obtain rfl := h1.symm
    go_wp2_with fail
    first | go_end0 | refine bodyPost_end (results_none rfl _ _ _) rfl ?_
    exact ⟨rfl, n, some r, HST.out, fun h => (by cases h), rs_off HN1.out hpq hKq j _, at_set (HQ.out _) _, fr_set (fr_set (Fr.refl _ _) p 0 _ (List.mem_cons_self ..)) q j _ (List.mem_cons_of_mem _ (List.mem_singleton.2 rfl))⟩
  · have hce' : ¬ cap - z = 0 := by omega
    have HN1 := hide (HNX.out (Option.map (fun x : Addr => x.add z) oa) (fun g o h _ => by rw [h]; show some (Addr.add _ _) = _; rw [Addr.add_mid]))
    have cq1 := cq (.slice (Option.map (fun x : Addr => x.add z) oa) (l.length - z) (cap - z))
    have fq1 := fq (.slice (Option.map (fun x : Addr => x.add z) oa) (l.length - z) (cap - z))
    clear HNX cq fq hce
    go_enter Tryz.func30, Tryz.ntmps30
    go_wp2_with fail
    refine HH.out.mono ?_
    rintro x w1 ⟨rfl, h1⟩
    obtain rfl := h1.symm
    go_wp2_with fail
    first | go_end0 | refine bodyPost_end (results_none rfl _ _ _) rfl ?_
    exact ⟨rfl, n, some r, HST.out, fun h => (by cases h), rs_off HN1.out hpq hKq j _, at_set (HQ.out _) _, fr_set (fr_set (Fr.refl _ _) p 0 _ (List.mem_cons_self ..)) q j _ (List.mem_cons_of_mem _ (List.mem_singleton.2 rfl))⟩

theorem number_any (K p q j : Nat) (cs : Array Value) (t : TypeId) (n0 : Nat) (s : St) (w : World) (hr : Rs K p w s) (hq : w.heap[q]? = some (.cells cs t (0, 0))) (hj : cs[j]? = some (.int .i64 (n0 : Int))) (hpq : p ≠ q) (hKp : K ≤ p) (hKq : K ≤ q) :
    Calls Tryz.prog 30 #[.pointer (some ⟨p, 0, none⟩), .pointer (some ⟨q, j, none⟩)] w (NumOut K p q j cs t n0 s w) := by
  cases s with
  | none => exact number_none K p q j cs t n0 none _ [] true w hr (lo_nil K w) (by simp) rdN_nil (step_none _ _ _) hq hj hpq
  | some l =>
    obtain ⟨hl, v, hp, hv⟩ := hr
    cases hN : rdN l with
    | none => exact number_none K p q j cs t n0 _ v l false w hp hv hl hN (nstep_fail hN n0) hq hj hpq
    | some x =>
      obtain ⟨n, r⟩ := x
      exact number_some K p q j cs t n0 n l r v w hp hv hl hN hq hj hpq hKp hKq

/-- what is taken, what is left -/
def tkS (k : Nat) : St → List UInt8 × St
  | none => ([], none)
  | some l => if k ≤ l.length then (l.take k, some (l.drop k)) else ([], none)
def TakeOut (K p k : Nat) (s : St) (w : World) (x : Ending) (w' : World) : Prop := ∃ v', x = .returned v' ∧ Lo K w' v' (tkS k s).1 ∧ Rs K p w' (tkS k s).2 ∧ Fr [p] w w'

set_option maxRecDepth 100000 in
set_option maxHeartbeats 6400000 in
theorem take_over (K p k : Nat) (oa : Option Addr) (n cap : Nat) (f : Bool) (w : World) (hp : w.heap[p]? = some (.cells #[.slice oa n cap, .bool f] 55 (0, 0))) (hk : n < k) :
    Calls Tryz.prog 49 #[.pointer (some ⟨p, 0, none⟩), .int .i64 (k : Int)] w fun x w' => x = .returned (.slice none 0 0) ∧ Rs K p w' none ∧ Fr [p] w w' := by
  have c0 : w.cell? ⟨p, 0, none⟩ = some (.slice oa n cap) := cell_of hp 0
  have HF := hide (fail_any K p oa n cap f w hp)
  have k1 : (n : Int) < (k : Int) := by omega
  clear hp
  go_enter Tryz.func49, Tryz.ntmps49
  go_wp2_with fail
  refine HF.out.mono ?_
  rintro x w2 ⟨rfl, hR, hfr⟩
  have HR := hide hR
  have HFR := hide hfr
  clear hR hfr
  go_wp2_with fail
  go_ret
  exact ⟨rfl, HR.out, HFR.out⟩

def FitOut (p k : Nat) (oa : Option Addr) (n cap : Nat) (w w' : World) : Prop := ∃ oa', (cap = k → oa' = oa) ∧ (∀ g o, oa = some ⟨g, o, none⟩ → ¬ cap = k → oa' = some ⟨g, o + k, none⟩) ∧ w' = w.setCell ⟨p, 0, none⟩ (.slice oa' (n - k) (cap - k))
set_option maxRecDepth 100000 in
set_option maxHeartbeats 6400000 in
theorem take_fit (p k : Nat) (oa : Option Addr) (n cap : Nat) (f : Bool) (w : World) (hp : w.heap[p]? = some (.cells #[.slice oa n cap, .bool f] 55 (0, 0))) (hk : k ≤ n) (hc : n ≤ cap) :
    Calls Tryz.prog 49 #[.pointer (some ⟨p, 0, none⟩), .int .i64 (k : Int)] w fun x w' => x = .returned (.slice oa k cap) ∧ FitOut p k oa n cap w w' := by
  have c0 : w.cell? ⟨p, 0, none⟩ = some (.slice oa n cap) := cell_of hp 0
  have f0 : w.frozen? ⟨p, 0, none⟩ = false := free_of hp 0
  have k1 : ¬ (n : Int) < (k : Int) := by omega
  have z0 : (0 : Int) ≤ (k : Int) := Int.natCast_nonneg _
  have z1 : (k : Int) ≤ (n : Int) := by omega
  have z2 : (n : Int) ≤ (cap : Int) := by omega
  have z3 : (k : Int) ≤ (cap : Int) := by omega
  clear hp
  by_cases hce : cap = k
  · subst hce
    have hcc : cap - cap = 0 := Nat.sub_self _
    have HLC : Hid (n - cap = 0) := by show _ = _; omega
    have hlc := HLC.out
    go_enter Tryz.func49, Tryz.ntmps49
    go_wp2_with fail
    go_ret
    exact ⟨rfl, oa, fun _ => rfl, fun _ _ _ h => absurd rfl h, by rw [HLC.out, Nat.sub_self]⟩
  · have hce' : ¬ cap - k = 0 := by omega
    have HNE := hide hce
    clear hce
    go_enter Tryz.func49, Tryz.ntmps49
    go_wp2_with fail
    go_ret
    exact ⟨rfl, Option.map (fun x : Addr => x.add k) oa, fun h => absurd h HNE.out, fun g o h _ => by rw [h]; show some (Addr.add _ _) = _; rw [Addr.add_mid], rfl⟩

theorem take_any (K p k : Nat) (s : St) (w : World) (hr : Rs K p w s) (hKp : K ≤ p) :
    Calls Tryz.prog 49 #[.pointer (some ⟨p, 0, none⟩), .int .i64 (k : Int)] w (TakeOut K p k s w) := by
  have hset : ∀ u, Fr [p] w (w.setCell ⟨p, 0, none⟩ u) := fun u => fr_set (Fr.refl _ _) p 0 u (List.mem_singleton.2 rfl)
  cases s with
  | none =>
    have hp : w.heap[p]? = some (.cells #[.slice none 0 0, .bool true] 55 (0, 0)) := hr
    by_cases hk : 0 < k
    · refine (take_over K p k none 0 0 true w hp hk).mono ?_
      rintro x w' ⟨rfl, hR, hF⟩
      exact ⟨_, rfl, lo_nil K w', hR, hF⟩
    · obtain rfl : k = 0 := by omega
      refine (take_fit p 0 none 0 0 true w hp (Nat.le_refl _) (Nat.le_refl _)).mono ?_
      rintro x w' ⟨rfl, oa', h1, _, rfl⟩
      rw [h1 rfl]
      exact ⟨_, rfl, lo_nil K _, at_set (j := 0) hp (.slice none 0 0), hset _⟩
  | some l =>
    obtain ⟨hl, v, hp, hv⟩ := hr
    obtain ⟨oa, cap, rfl, hc, _⟩ := id hv
    by_cases hk : k ≤ l.length
    · refine (take_fit p k oa l.length cap false w hp hk hc).mono ?_
      rintro x w' ⟨rfl, oa', _, h2, rfl⟩
      have hlo : ∀ u v' l', Lo K w v' l' → Lo K (w.setCell ⟨p, 0, none⟩ u) v' l' := fun u v' l' h => h.fr (hset u) (fun k hk => by rw [List.mem_singleton.1 hk]; exact hKp)
      have e : tkS k (some l) = (l.take k, some (l.drop k)) := if_pos hk
      refine ⟨_, rfl, ?_, ?_, hset _⟩
      · rw [e]; exact hlo _ _ _ (hv.upto k hk)
      · rw [e]; exact rs_next hp hKp (by rw [List.length_drop]; omega) (hv.from k hk oa' h2)
    · refine (take_over K p k oa l.length cap false w hp (by omega)).mono ?_
      rintro x w' ⟨rfl, hR, hF⟩
      have e : tkS k (some l) = ([], none) := if_neg hk
      exact ⟨_, rfl, by rw [e]; exact lo_nil K w', by rw [e]; exact hR, hF⟩
end Go.Proofs.YtimbhneegphhbaaGreatDoor.rc

namespace Go.Proofs.YtimbhneegphhbaaGreatDoor.rc
open Go.ChangeShapes Go.WideShapes Go.ChangeAt Go.RowKit Go.Proofs.YtimbhneegphhbaaGreatDoor.common Go.Proofs.YtimbhneegphhbaaGreatDoor.dk
attribute [local go_sem ↓] Go.wp_at_zero Go.wp_at_succ

theorem ba_len (l : List UInt8) : (⟨l.toArray⟩ : ByteArray).size = l.length := by show l.toArray.size = _; simp
theorem tk_step {s s1 : St} {n : Nat} (h : NStep s n s1) (h0 : s1 = none → n = 0) : TStep s ⟨(tkS n s1).1.toArray⟩ (tkS n s1).2 := by
  cases s1 with
  | none =>
    refine ⟨Or.inl rfl, fun y l hy e => ?_⟩
    unfold txL at e
    rw [List.append_assoc] at e
    have := (h.on y.size _ hy e).2
    cases this
  | some r =>
    rcases h.back with h1 | ⟨l, h1, h2⟩
    · cases h1
    · cases h2
      by_cases hn : n ≤ r.length
      · rw [show tkS n (some r) = (r.take n, some (r.drop n)) from if_pos hn]
        refine ⟨Or.inr ⟨r.drop n, ?_, rfl⟩, fun y l hy e => ?_⟩
        · rw [h1]
          unfold txL
          rw [ba_len, List.length_take, Nat.min_eq_left hn]
          simp
        · unfold txL at e
          rw [List.append_assoc] at e
          obtain ⟨a1, a2⟩ := h.on y.size _ hy e
          cases a2
          have hl : y.data.toList.length = y.size := by simp
          rw [a1, ← hl, List.take_left, List.drop_left]
          exact ⟨rfl, rfl⟩
      · rw [show tkS n (some r) = ([], none) from if_neg hn]
        refine ⟨Or.inl rfl, fun y l hy e => ?_⟩
        unfold txL at e
        rw [List.append_assoc] at e
        obtain ⟨a1, a2⟩ := h.on y.size _ hy e
        cases a2
        have hl : y.data.toList.length = y.size := by simp
        rw [a1, List.length_append] at hn
        omega
theorem tk_len {K p n : Nat} {w : World} {s : St} (h : Rs K p w s) : (tkS n s).1.length ≤ 1048576 := by
  cases s with
  | none => exact Nat.zero_le _
  | some l =>
    have hl := h.1
    by_cases hn : n ≤ l.length
    · rw [show tkS n (some l) = (l.take n, some (l.drop n)) from if_pos hn, List.length_take]; omega
    · rw [show tkS n (some l) = ([], none) from if_neg hn]; simp
/-- bytes that lie below K: how long they may be -/
def PieceOut (K p : Nat) (s : St) (w : World) (x : Ending) (w' : World) : Prop := ∃ v' l s', x = .returned v' ∧ Lo K w' v' l ∧ Rs K p w' s' ∧ TStep s ⟨l.toArray⟩ s' ∧ l.length ≤ 1048576 ∧ Fr [p] w w'
theorem lt_ne {p : Nat} {w : World} (h : p < w.heap.size) : p ≠ w.heap.size := by omega

set_option maxRecDepth 100000 in
set_option maxHeartbeats 6400000 in
theorem piece_any (K p : Nat) (s : St) (w : World) (hr : Rs K p w s) (hKp : K ≤ p) :
    Calls Tryz.prog 31 #[.pointer (some ⟨p, 0, none⟩)] w (PieceOut K p s w) := by
  obtain ⟨W, hW⟩ : ∃ W, W = w.alloc (.cells #[.int .i64 0] 3) := ⟨_, rfl⟩
  have hlt := hr.lt
  have hfr : Fr [p] w W := by rw [hW]; exact ⟨rfl, rfl, rfl, by simp, fun k hk _ => Below.heap_alloc w _ k hk⟩
  have hrW : Rs K p W s := hr.keep (fun g _ hs => by rw [hW]; exact Below.heap_alloc w _ g hs) (by rw [hW]; exact Below.heap_alloc w _ p hlt) hfr.size
  have hq : W.heap[w.heap.size]? = some (.cells #[.int .i64 0] 3 (0, 0)) := by rw [hW]; exact heap_alloc_new w _
  have HN := hide (number_any K p w.heap.size 0 #[.int .i64 0] 3 0 s W hrW hq rfl (lt_ne hlt) hKp (by omega))
  have HF := hide hfr
  have HW := hide hW
  clear hr hfr hrW hq hW
  unfold PieceOut
  go_enter Tryz.func31, Tryz.ntmps31
  go_wp2_with fail
  rw [← HW.out]
  refine HN.out.mono ?_
  rintro x w1 ⟨rfl, n, s1, hst, h0, hR, hc, hF1⟩
  have c0 : w1.cell? ⟨w.heap.size, 0, none⟩ = some (.int .i64 (n : Int)) := cell_of hc 0
  have HT := hide (take_any K p n s1 w1 hR hKp)
  have HST := hide (tk_step hst h0)
  have HTL : Hid ((tkS n s1).1.length ≤ 1048576) := tk_len hR
  have HF1 := hide hF1
  clear hst h0 hR hc hF1
  go_wp2_with fail
  refine HT.out.mono ?_
  rintro x w2 ⟨v', rfl, hlo, hR2, hF2⟩
  have HL := hide hlo
  have HR := hide hR2
  have HF2 : Hid (Fr [p] w w2) := by
    refine (HF.out.trans HF1.out (fun i hi => ?_)).trans hF2 (fun i hi => Or.inl hi)
    rcases List.mem_cons.1 hi with rfl | h
    · exact Or.inl (List.mem_singleton.2 rfl)
    · exact Or.inr (Nat.le_of_eq (List.mem_singleton.1 h).symm)
  clear hlo hR2 hF2
  go_wp2_with fail
  go_ret
  exact ⟨_, _, _, rfl, HL.out, HR.out, HST.out, HTL.out, HF2.out⟩

/-- how text ends -/
def TextOut (K p q j : Nat) (cs : Array Value) (t : TypeId) (s : St) (w : World) (x : Ending) (w' : World) : Prop :=
  x = .returned (.tuple #[]) ∧ ∃ (y : ByteArray) (s' : St), TStep s y s' ∧ y.size ≤ 1048576 ∧ Rs K p w' s' ∧ w'.heap[q]? = some (.cells (cs.setIfInBounds j (.string y)) t (0, 0)) ∧ Fr [p, q] w w'
set_option maxRecDepth 100000 in
set_option maxHeartbeats 6400000 in
theorem rtext_any (K p q j : Nat) (cs : Array Value) (t : TypeId) (u : ByteArray) (s : St) (w : World) (hr : Rs K p w s) (hq : w.heap[q]? = some (.cells cs t (0, 0))) (hj : cs[j]? = some (.string u)) (hpq : p ≠ q) (hKp : K ≤ p) (hKq : K ≤ q) :
    Calls Tryz.prog 224 #[.pointer (some ⟨p, 0, none⟩), .pointer (some ⟨q, j, none⟩)] w (TextOut K p q j cs t s w) := by
  have HP := hide (piece_any K p s w hr hKp)
  have HQ := hide hq
  clear hr hq
  unfold TextOut
  go_enter Tryz.func224, Tryz.ntmps224
  go_wp2_with fail
  refine HP.out.mono ?_
  rintro x w1 ⟨v', l, s', rfl, hlo, hR, hst, hll, hF⟩
  have hcv := conv_rd hlo.rd
  obtain ⟨oa, c, rfl⟩ := Rd.len hlo.rd
  have hq1 : w1.heap[q]? = some (.cells cs t (0, 0)) := (hF.block q (Array.getElem?_eq_some_iff.1 HQ.out).1 (fun hm => hpq (List.mem_singleton.1 hm).symm)).trans HQ.out
  have c0 : w1.cell? ⟨q, j, none⟩ = some (.string u) := (cell_of hq1 j).trans hj
  have f0 : w1.frozen? ⟨q, j, none⟩ = false := free_of hq1 j
  have HY : Hid ((⟨l.toArray⟩ : ByteArray).size ≤ 1048576) := by show _ ≤ _; rw [ba_len]; exact hll
  have HST := hide hst
  have HR := hide hR
  have HF := hide hF
  have HQ1 := hide hq1
  generalize (⟨l.toArray⟩ : ByteArray) = y at *
  clear hlo hR hst hF hq1 hll
  go_wp2_with fail
  first | go_end0 | refine bodyPost_end (results_none rfl _ _ _) rfl ?_
  exact ⟨rfl, y, s', HST.out, HY.out, rs_off HR.out hpq hKq j _, at_set HQ1.out _, fr_set (HF.out.mono (fun k hk => by rw [List.mem_singleton.1 hk]; exact List.mem_cons_self ..)) q j _ (List.mem_cons_of_mem _ (List.mem_singleton.2 rfl))⟩
end Go.Proofs.YtimbhneegphhbaaGreatDoor.rc
