import Derived.Test.YtocpikgcbibcoaaGreatDoorMRcTidM
import Derived.Laws.Shifts
import Derived.Test.YtocpikgcbibcoaaGreatDoorRows
import Derived.Test.YtocpikgcbibcoaaGreatDoorMRdKit
import Derived.WalkKit
import Derived.WalkSpells
import Derived.WalkLawsBesides
import Derived.Outline
import Derived.Maps.AppendAt
namespace Go.Proofs.YtocpikgcbibcoaaGreatDoor.rc
open Go.ChangeShapes Go.WideShapes Go.ChangeAt Go.RowKit Go.Proofs.YtocpikgcbibcoaaGreatDoor.common Go.Proofs.YtocpikgcbibcoaaGreatDoor.dk

theorem wrap64_nat (n : Nat) (h : n < 9223372036854775808) : IntKind.i64.wrap (n : Int) = (n : Int) := by
  simp [IntKind.wrap, IntKind.bits, IntKind.signed]
  split <;> omega
theorem or64_nat (a b : Nat) (ha : a < 9223372036854775808) (hb : b < 9223372036854775808) : bits .or .i64 (a : Int) (b : Int) = ((a ||| b : Nat) : Int) := by
  have hx : a ||| b < 2 ^ 63 := Nat.or_lt_two_pow (by omega) (by omega)
  have h1 : (BitVec.ofInt 64 (a : Int)).toNat = a := by
    rw [BitVec.ofInt_natCast, BitVec.toNat_ofNat]; exact Nat.mod_eq_of_lt (by omega)
  have h2 : (BitVec.ofInt 64 (b : Int)).toNat = b := by
    rw [BitVec.ofInt_natCast, BitVec.toNat_ofNat]; exact Nat.mod_eq_of_lt (by omega)
  show IntKind.i64.wrap ((BitVec.ofInt 64 (a : Int) ||| BitVec.ofInt 64 (b : Int)).toNat : Int) = _
  rw [BitVec.toNat_or, h1, h2, wrap64_nat _ (by omega)]
/-- a group put above those below it -/
theorem or_group (a g i : Nat) (hi : i ≤ 8) (ha : a < 128 ^ i) (hg : g < 128) : bits .or .i64 (a : Int) (IntKind.i64.wrap ((g : Int) * 2 ^ (7 * i))) = ((a + 128 ^ i * g : Nat) : Int) := by
  have e1 : (128 : Nat) ^ i = 2 ^ (7 * i) := by rw [Nat.pow_mul]
  have e2 : ((g : Int) * 2 ^ (7 * i)) = ((g * 128 ^ i : Nat) : Int) := by rw [e1]; simp
  have h3 : 128 ^ i ≤ 128 ^ 8 := Nat.pow_le_pow_right (by decide) hi
  have h4 : g * 128 ^ i ≤ 127 * 128 ^ 8 := Nat.mul_le_mul (by omega) h3
  have h5 : (128 : Nat) ^ 8 = 72057594037927936 := by decide
  rw [e2, wrap64_nat _ (by omega), or64_nat _ _ (by omega) (by omega)]
  congr 1
  rw [Nat.or_comm, e1, ← Nat.shiftLeft_eq, ← Nat.shiftLeft_add_eq_or_of_lt (by rw [← e1]; exact ha), Nat.shiftLeft_eq, Nat.add_comm, Nat.mul_comm]

/-- what headNumber answers -/
theorem wrap_is (n : Int) : IntKind.i64.wrap n = wrap64 n := by unfold wrap64; exact IntKind.wrap_i64 n
def hnV (l : List UInt8) : Nat := match rdN l with | none => 0 | some (n, _) => n
def hnS (l : List UInt8) : Nat := match rdN l with | none => 0 | some (_, r) => l.length - r.length
/-- i groups were read, their number is a -/
def HI (l : List UInt8) (i a : Nat) : Prop := a < 128 ^ i ∧ rdN l = match rdF (9 - i) (decide (i = 0)) (l.drop i) with | none => none | some (m, r) => some (a + 128 ^ i * m, r)
theorem hi_zero (l : List UInt8) : HI l 0 0 := by
  refine ⟨by decide, ?_⟩
  show rdF 9 true l = match rdF 9 true l with | none => none | some (m, r) => some (0 + 128 ^ 0 * m, r)
  cases rdF 9 true l with
  | none => rfl
  | some x => obtain ⟨m, r⟩ := x; simp
theorem hi_at {l : List UInt8} {i a : Nat} (h : HI l i a) (hi : i < l.length) (h9 : i < 9) :
    (l[i].toNat = 0 ∧ 0 < i → rdN l = none) ∧ (¬ (l[i].toNat = 0 ∧ 0 < i) → l[i].toNat < 128 → rdN l = some (a + 128 ^ i * (l[i].toNat % 128), l.drop (i + 1))) ∧
      (¬ l[i].toNat < 128 → HI l (i + 1) (a + 128 ^ i * (l[i].toNat % 128))) := by
  obtain ⟨h1, h2⟩ := h
  have e9 : 9 - i = (8 - i) + 1 := by omega
  have ed : l.drop i = l[i] :: l.drop (i + 1) := List.drop_eq_getElem_cons hi
  rw [e9, ed] at h2
  unfold rdF at h2
  refine ⟨fun hc => ?_, fun hc hl => ?_, fun hl => ⟨?_, ?_⟩⟩
  · rw [h2, if_pos ⟨hc.1, decide_eq_false (by omega)⟩]
  · rw [h2, if_neg (by rintro ⟨x, y⟩; exact hc ⟨x, by have := of_decide_eq_false y; omega⟩), if_pos hl, Nat.mod_eq_of_lt hl]
  · rw [Nat.pow_succ]
    have := Nat.mul_le_mul_left (128 ^ i) (show l[i].toNat % 128 ≤ 127 by omega)
    omega
  · rw [h2, if_neg (by rintro ⟨x, _⟩; omega), if_neg hl]
    rw [show 9 - (i + 1) = 8 - i by omega, show decide (i + 1 = 0) = false by simp]
    cases rdF (8 - i) false (l.drop (i + 1)) with
    | none => rfl
    | some x =>
      obtain ⟨m, r⟩ := x
      simp only [Option.some.injEq, Prod.mk.injEq, and_true]
      rw [Nat.pow_succ, Nat.mul_add, Nat.mul_assoc, Nat.add_assoc]
theorem hi_end {l : List UInt8} {i a : Nat} (h : HI l i a) (hi : i = l.length ∨ i = 9) : rdN l = none := by
  obtain ⟨_, h2⟩ := h
  rw [h2]
  rcases hi with h | h
  · rw [List.drop_eq_nil_of_le (by omega)]
    cases 9 - i <;> rfl
  · rw [h]; rfl
theorem hn_none {l : List UInt8} (h : rdN l = none) : hnV l = 0 ∧ hnS l = 0 := by unfold hnV hnS; rw [h]; exact ⟨rfl, rfl⟩
theorem hn_some {l r : List UInt8} {n : Nat} (h : rdN l = some (n, r)) : hnV l = n ∧ hnS l = l.length - r.length := by unfold hnV hnS; rw [h]; exact ⟨rfl, rfl⟩

set_option maxRecDepth 100000 in
set_option maxHeartbeats 6400000 in
theorem headA (l : List UInt8) (v : Value) (w : World) (h : Rd w v l) (hl : l.length ≤ 4611686018427387904) (hc9 : l.length ≤ 9) :
    Calls Tryz.prog 38 #[v] w fun e w' => e = .returned (.tuple #[.int .i64 (hnV l : Int), .int .i64 (hnS l : Int)]) ∧ w' = w := by
  obtain ⟨oa, c, rfl⟩ := Rd.len h
  have km : (l.length : Int) ≤ 9 := by omega
  have km2 : decide ((l.length : Int) ≤ 9) = true := decide_eq_true km
  have HR := hide h
  clear h
  go_enter Tryz.func38, Tryz.ntmps38
  go_wp2_with fail
  go_loopw [2, 8] (fun acc i wr => ∃ j a : Nat, j ≤ l.length ∧ i = .int .i64 (j : Int) ∧ acc = .int .i64 (a : Int) ∧ HI l j a ∧ wr = w) (fun _ i _ => l.length - (intOf i).toNat)
  case atStart => exact ⟨0, 0, Nat.zero_le _, rfl, rfl, hi_zero l, rfl⟩
  case round =>
    obtain ⟨j, a, hj, rfl, rfl, hI, rfl⟩ := hrel
    by_cases hlt : j < l.length
    · have hjl : j < l.length := by omega
      have j0 : (0 : Int) ≤ (j : Int) := Int.natCast_nonneg _
      have j1 : (j : Int) < (l.length : Int) := by omega
      have j2 : (j : Int) < (l.length : Int) := by omega
      obtain ⟨q1, q2, q3⟩ := hi_at hI hjl (by omega)
      obtain ⟨g, o, rfl, hcell⟩ := HR.out.cell (by omega)
      have c0 := hcell j hjl
      have hor := or_group a (l[j].toNat % 128) j (by omega) hI.1 (Nat.mod_lt _ (by decide))
      have hc256 : l[j].toNat < 256 := u8_lt _
      have hdl : l.length - (l.length - (j + 1)) = j + 1 := by omega
      have hdr : (l.drop (j + 1)).length = l.length - (j + 1) := List.length_drop
      generalize l[j]'hjl = cc at *
      have HOR : Hid (bits .or .i64 (a : Int) (wrap64 (((cc.toNat : Nat) : Int) % 128 * 2 ^ (7 * j))) = ((a + 128 ^ j * (cc.toNat % 128) : Nat) : Int)) := by
        show _ = _
        rw [← hor, Int.natCast_emod, wrap_is, show ((128 : Nat) : Int) = 128 from rfl]
      clear hor hcell
      by_cases hc1 : cc.toNat < 128
      · by_cases hc0 : cc.toNat = 0
        · have k2b : (((cc.toNat : Nat) : Int) == 0) = true := by rw [hc0]; rfl
          by_cases hj0 : 0 < j
          · have HN := hide (hn_none (q1 ⟨hc0, hj0⟩))
            have k3 : (0 : Int) < (j : Int) := by omega
            have k3b : decide ((0 : Int) < (j : Int)) = true := decide_eq_true k3
            clear q1 q2 q3 hI hdl hdr hc0
            go_wp2_with fail
            go_ret2
            exact ⟨by rw [HN.out.1, HN.out.2]; rfl, rfl⟩
          · have HN := hide (hn_some (q2 (by omega) hc1))
            rw [hdr, hdl] at HN
            have k3 : ¬ (0 : Int) < (j : Int) := by omega
            have k3b : decide ((0 : Int) < (j : Int)) = false := decide_eq_false k3
            have k1 : ((cc.toNat : Nat) : Int) < 128 := by omega
            clear q1 q2 q3 hI hdl hdr hc0
            go_wp2_with fail
            go_ret2
            refine ⟨?_, rfl⟩
            rw [HN.out.1, HN.out.2, ← HOR.out]
            simp
        · have HN := hide (hn_some (q2 (by omega) hc1))
          rw [hdr, hdl] at HN
          have k2 : ¬ ((cc.toNat : Nat) : Int) = 0 := by omega
          have k2b : (((cc.toNat : Nat) : Int) == 0) = false := beq_false_of_ne k2
          have k1 : ((cc.toNat : Nat) : Int) < 128 := by omega
          clear q1 q2 q3 hI hdl hdr
          go_wp2_with fail
          go_ret2
          refine ⟨?_, rfl⟩
          rw [HN.out.1, HN.out.2, ← HOR.out]
          simp
      · have k1 : ¬ ((cc.toNat : Nat) : Int) < 128 := by omega
        have k2 : ¬ ((cc.toNat : Nat) : Int) = 0 := by omega
        have k2b : (((cc.toNat : Nat) : Int) == 0) = false := beq_false_of_ne k2
        have Q3 := hide (q3 hc1)
        clear q1 q2 q3 hI hdl hdr
        go_wp2_with fail
        refine ⟨⟨j + 1, _, by omega, by go_num, by rw [HOR.out], Q3.out, trivial⟩, by simp [intOf]; omega⟩
    · have HN := hide (hn_none (hi_end hI (by omega)))
      have j1 : ¬ (j : Int) < (l.length : Int) := by omega
      clear hI
      go_wp2_with fail
      go_ret2
      exact ⟨by rw [HN.out.1, HN.out.2]; rfl, rfl⟩
set_option maxRecDepth 100000 in
set_option maxHeartbeats 6400000 in
theorem headB (l : List UInt8) (v : Value) (w : World) (h : Rd w v l) (hl : l.length ≤ 4611686018427387904) (hc9 : 9 < l.length) :
    Calls Tryz.prog 38 #[v] w fun e w' => e = .returned (.tuple #[.int .i64 (hnV l : Int), .int .i64 (hnS l : Int)]) ∧ w' = w := by
  obtain ⟨oa, c, rfl⟩ := Rd.len h
  have km : ¬ (l.length : Int) ≤ 9 := by omega
  have km2 : decide ((l.length : Int) ≤ 9) = false := decide_eq_false km
  have HR := hide h
  clear h
  go_enter Tryz.func38, Tryz.ntmps38
  go_wp2_with fail
  go_loopw [2, 8] (fun acc i wr => ∃ j a : Nat, j ≤ 9 ∧ i = .int .i64 (j : Int) ∧ acc = .int .i64 (a : Int) ∧ HI l j a ∧ wr = w) (fun _ i _ => 9 - (intOf i).toNat)
  case atStart => exact ⟨0, 0, Nat.zero_le _, rfl, rfl, hi_zero l, rfl⟩
  case round =>
    obtain ⟨j, a, hj, rfl, rfl, hI, rfl⟩ := hrel
    by_cases hlt : j < 9
    · have hjl : j < l.length := by omega
      have j0 : (0 : Int) ≤ (j : Int) := Int.natCast_nonneg _
      have j1 : (j : Int) < (9 : Int) := by omega
      have j2 : (j : Int) < (l.length : Int) := by omega
      obtain ⟨q1, q2, q3⟩ := hi_at hI hjl (by omega)
      obtain ⟨g, o, rfl, hcell⟩ := HR.out.cell (by omega)
      have c0 := hcell j hjl
      have hor := or_group a (l[j].toNat % 128) j (by omega) hI.1 (Nat.mod_lt _ (by decide))
      have hc256 : l[j].toNat < 256 := u8_lt _
      have hdl : l.length - (l.length - (j + 1)) = j + 1 := by omega
      have hdr : (l.drop (j + 1)).length = l.length - (j + 1) := List.length_drop
      generalize l[j]'hjl = cc at *
      have HOR : Hid (bits .or .i64 (a : Int) (wrap64 (((cc.toNat : Nat) : Int) % 128 * 2 ^ (7 * j))) = ((a + 128 ^ j * (cc.toNat % 128) : Nat) : Int)) := by
        show _ = _
        rw [← hor, Int.natCast_emod, wrap_is, show ((128 : Nat) : Int) = 128 from rfl]
      clear hor hcell
      by_cases hc1 : cc.toNat < 128
      · by_cases hc0 : cc.toNat = 0
        · have k2b : (((cc.toNat : Nat) : Int) == 0) = true := by rw [hc0]; rfl
          by_cases hj0 : 0 < j
          · have HN := hide (hn_none (q1 ⟨hc0, hj0⟩))
            have k3 : (0 : Int) < (j : Int) := by omega
            have k3b : decide ((0 : Int) < (j : Int)) = true := decide_eq_true k3
            clear q1 q2 q3 hI hdl hdr hc0
            go_wp2_with fail
            go_ret2
            exact ⟨by rw [HN.out.1, HN.out.2]; rfl, rfl⟩
          · have HN := hide (hn_some (q2 (by omega) hc1))
            rw [hdr, hdl] at HN
            have k3 : ¬ (0 : Int) < (j : Int) := by omega
            have k3b : decide ((0 : Int) < (j : Int)) = false := decide_eq_false k3
            have k1 : ((cc.toNat : Nat) : Int) < 128 := by omega
            clear q1 q2 q3 hI hdl hdr hc0
            go_wp2_with fail
            go_ret2
            refine ⟨?_, rfl⟩
            rw [HN.out.1, HN.out.2, ← HOR.out]
            simp
        · have HN := hide (hn_some (q2 (by omega) hc1))
          rw [hdr, hdl] at HN
          have k2 : ¬ ((cc.toNat : Nat) : Int) = 0 := by omega
          have k2b : (((cc.toNat : Nat) : Int) == 0) = false := beq_false_of_ne k2
          have k1 : ((cc.toNat : Nat) : Int) < 128 := by omega
          clear q1 q2 q3 hI hdl hdr
          go_wp2_with fail
          go_ret2
          refine ⟨?_, rfl⟩
          rw [HN.out.1, HN.out.2, ← HOR.out]
          simp
      · have k1 : ¬ ((cc.toNat : Nat) : Int) < 128 := by omega
        have k2 : ¬ ((cc.toNat : Nat) : Int) = 0 := by omega
        have k2b : (((cc.toNat : Nat) : Int) == 0) = false := beq_false_of_ne k2
        have Q3 := hide (q3 hc1)
        clear q1 q2 q3 hI hdl hdr
        go_wp2_with fail
        refine ⟨⟨j + 1, _, by omega, by go_num, by rw [HOR.out], Q3.out, trivial⟩, by simp [intOf]; omega⟩
    · have HN := hide (hn_none (hi_end hI (by omega)))
      have j1 : ¬ (j : Int) < (9 : Int) := by omega
      clear hI
      go_wp2_with fail
      go_ret2
      exact ⟨by rw [HN.out.1, HN.out.2]; rfl, rfl⟩
theorem headNumber_any (l : List UInt8) (v : Value) (w : World) (h : Rd w v l) (hl : l.length ≤ 4611686018427387904) :
    Calls Tryz.prog 38 #[v] w fun e w' => e = .returned (.tuple #[.int .i64 (hnV l : Int), .int .i64 (hnS l : Int)]) ∧ w' = w := by
  by_cases h9 : l.length ≤ 9
  · exact headA l v w h hl h9
  · exact headB l v w h hl (by omega)
end Go.Proofs.YtocpikgcbibcoaaGreatDoor.rc

namespace Go.Proofs.YtocpikgcbibcoaaGreatDoor.rc
open Go.ChangeShapes Go.WideShapes Go.ChangeAt Go.RowKit Go.Proofs.YtocpikgcbibcoaaGreatDoor.common Go.Proofs.YtocpikgcbibcoaaGreatDoor.dk
attribute [local go_sem ↓] Go.wp_at_zero Go.wp_at_succ

/-- bytes in the memory below K, in a slice whose room holds them -/
def Lo (K : Nat) (w : World) (v : Value) (l : List UInt8) : Prop := ∃ oa cap, v = .slice oa l.length cap ∧ l.length ≤ cap ∧ (0 < l.length → ∃ g o, oa = some ⟨g, o, none⟩ ∧ g < K ∧ g < w.heap.size ∧ w.rangeAt g o (l.map B))
theorem Lo.rd {K : Nat} {w : World} {v : Value} {l : List UInt8} (h : Lo K w v l) : Rd w v l := by
  obtain ⟨oa, cap, rfl, _, h⟩ := h
  exact ⟨oa, cap, rfl, fun hl => by obtain ⟨g, o, h1, _, h3, h4⟩ := h hl; exact ⟨g, o, h1, h3, h4⟩⟩
theorem Lo.keep {K : Nat} {w w' : World} {v : Value} {l : List UInt8} (h : Lo K w v l) (hk : ∀ g, g < K → g < w.heap.size → w'.heap[g]? = w.heap[g]?) (hs : w.heap.size ≤ w'.heap.size) : Lo K w' v l := by
  obtain ⟨oa, cap, rfl, hc, h⟩ := h
  refine ⟨oa, cap, rfl, hc, fun hl => ?_⟩
  obtain ⟨g, o, h1, h2, h3, h4⟩ := h hl
  exact ⟨g, o, h1, h2, Nat.lt_of_lt_of_le h3 hs, range_block h4 (hk g h2 h3)⟩
theorem Lo.fr {K : Nat} {F : List Nat} {w w' : World} {v : Value} {l : List UInt8} (h : Lo K w v l) (hf : Fr F w w') (hF : ∀ k ∈ F, K ≤ k) : Lo K w' v l :=
  h.keep (fun g hg hs => hf.block g hs (fun hm => by have := hF g hm; omega)) hf.size
theorem Lo.from {K : Nat} {w : World} {oa : Option Addr} {cap : Nat} {l : List UInt8} (h : Lo K w (.slice oa l.length cap) l) (k : Nat) (hk : k ≤ l.length) (oa' : Option Addr) (ho : ∀ g o, oa = some ⟨g, o, none⟩ → ¬ cap = k → oa' = some ⟨g, o + k, none⟩) : Lo K w (.slice oa' (l.length - k) (cap - k)) (l.drop k) := by
  obtain ⟨oa2, c2, e, hc, hr⟩ := h
  cases e
  refine ⟨oa', cap - k, by rw [List.length_drop], by rw [List.length_drop]; omega, fun h0 => ?_⟩
  rw [List.length_drop] at h0
  obtain ⟨g, o, rfl, hK, hg, hr⟩ := hr (by omega)
  refine ⟨g, o + k, ho g o rfl (by omega), hK, hg, fun j u hu => ?_⟩
  have := hr (k + j) u (by rw [List.map_drop, List.getElem?_drop] at hu; exact hu)
  rwa [← Nat.add_assoc] at this
theorem Lo.upto {K : Nat} {w : World} {oa : Option Addr} {cap : Nat} {l : List UInt8} (h : Lo K w (.slice oa l.length cap) l) (k : Nat) (hk : k ≤ l.length) : Lo K w (.slice oa k cap) (l.take k) := by
  obtain ⟨oa2, c2, e, hc, hr⟩ := h
  cases e
  have hlen : (l.take k).length = k := by rw [List.length_take]; omega
  refine ⟨oa, cap, by rw [hlen], by omega, fun h0 => ?_⟩
  rw [hlen] at h0
  obtain ⟨g, o, rfl, hK, hg, hr⟩ := hr (by omega)
  refine ⟨g, o, rfl, hK, hg, fun j u hu => hr j u ?_⟩
  rw [List.map_take, List.getElem?_take] at hu
  split at hu
  · exact hu
  · cases hu
theorem lo_nil (K : Nat) (w : World) : Lo K w (.slice none 0 0) [] := ⟨none, 0, rfl, Nat.le_refl _, fun h => absurd h (by decide)⟩

/-- at p lies a reader that has s left -/
def Rs (K p : Nat) (w : World) : St → Prop
  | none => w.heap[p]? = some (.cells #[.slice none 0 0, .bool true] 55 (0, 0))
  | some l => l.length ≤ 1048576 ∧ ∃ v, w.heap[p]? = some (.cells #[v, .bool false] 55 (0, 0)) ∧ Lo K w v l
theorem Rs.keep {K p : Nat} {w w' : World} {s : St} (h : Rs K p w s) (hk : ∀ g, g < K → g < w.heap.size → w'.heap[g]? = w.heap[g]?) (hp : w'.heap[p]? = w.heap[p]?) (hs : w.heap.size ≤ w'.heap.size) : Rs K p w' s := by
  cases s with
  | none => exact hp.trans h
  | some l => obtain ⟨h1, v, h2, h3⟩ := h; exact ⟨h1, v, hp.trans h2, h3.keep hk hs⟩
theorem Rs.lt {K p : Nat} {w : World} {s : St} (h : Rs K p w s) : p < w.heap.size := by
  cases s with
  | none => exact (Array.getElem?_eq_some_iff.1 h).1
  | some l => obtain ⟨_, v, h2, _⟩ := h; exact (Array.getElem?_eq_some_iff.1 h2).1
/-- what lies at p and how -/
theorem Rs.form {K p : Nat} {w : World} {s : St} (h : Rs K p w s) : ∃ oa n c f, w.heap[p]? = some (.cells #[.slice oa n c, .bool f] 55 (0, 0)) := by
  cases s with
  | none => exact ⟨none, 0, 0, true, h⟩
  | some l => obtain ⟨_, v, h2, oa, c, rfl, _⟩ := h; exact ⟨oa, _, c, false, h2⟩
theorem fr_set {F : List Nat} {w w' : World} (h : Fr F w w') (p j : Nat) (u : Value) (hp : p ∈ F) : Fr F w (w'.setCell ⟨p, j, none⟩ u) :=
  ⟨h.os, h.tape, h.output, by rw [size_set]; exact h.size, fun k hk hn => (set_other _ _ _ _ (show k ≠ p from fun e => hn (e ▸ hp))).trans (h.block k hk hn)⟩
theorem at_set {w : World} {p j : Nat} {cs : Array Value} {t : TypeId} (h : w.heap[p]? = some (.cells cs t (0, 0))) (u : Value) : (w.setCell ⟨p, j, none⟩ u).heap[p]? = some (.cells (cs.setIfInBounds j u) t (0, 0)) := by
  simp [World.setCell, Array.getElem?_modify, h]

theorem fail_any (K p : Nat) (oa : Option Addr) (n c : Nat) (f : Bool) (w : World) (h : w.heap[p]? = some (.cells #[.slice oa n c, .bool f] 55 (0, 0))) :
    Calls Tryz.prog 39 #[.pointer (some ⟨p, 0, none⟩)] w fun e w' => e = .returned (.tuple #[]) ∧ Rs K p w' none ∧ Fr [p] w w' := by
  have c0 : w.cell? ⟨p, 0, none⟩ = some (.slice oa n c) := cell_of h 0
  have f0 : w.frozen? ⟨p, 0, none⟩ = false := free_of h 0
  have h1 := at_set (j := 0) h (.slice none 0 0)
  have c1 : (w.setCell ⟨p, 0, none⟩ (.slice none 0 0)).cell? ⟨p, 1, none⟩ = some (.bool f) := cell_of h1 1
  have f1 : (w.setCell ⟨p, 0, none⟩ (.slice none 0 0)).frozen? ⟨p, 1, none⟩ = false := free_of h1 1
  have H2 := hide (at_set (j := 1) h1 (.bool true))
  clear h h1
  go_enter Tryz.func39, Tryz.ntmps39
  go_wp2_with fail
  first | go_end0 | refine bodyPost_end (results_none rfl _ _ _) rfl ?_
  exact ⟨rfl, H2.out, fr_set (fr_set (Fr.refl _ _) p 0 _ (List.mem_singleton.2 rfl)) p 1 _ (List.mem_singleton.2 rfl)⟩
end Go.Proofs.YtocpikgcbibcoaaGreatDoor.rc

namespace Go.Proofs.YtocpikgcbibcoaaGreatDoor.rc
open Go.ChangeShapes Go.WideShapes Go.ChangeAt Go.RowKit Go.Proofs.YtocpikgcbibcoaaGreatDoor.common Go.Proofs.YtocpikgcbibcoaaGreatDoor.dk

/-- within tidy: the box of what is tidied, the answer's cells, the record that is made -/
structure Tq (w : World) (r : Rec) (v : Value) (q : Rec) (u : Value) (W : World) : Prop where
  bl : Below w.heap.size w W
  rb : W.heap[w.heap.size]? = some (.cells (rcs r v) 26 (0, 0))
  zb : W.heap[w.heap.size + 1]? = some (.cells zrec 26 (0, 0))
  qb : W.heap[w.heap.size + 1 + 1]? = some (.cells (rcs q u) 26 (0, 0))
  own : W.ownsRow (w.heap.size + 3) 9 1 u q.ss.length (q.ss.map Value.string)
theorem Tq.lt {w W : World} {r q : Rec} {v u : Value} (h : Tq w r v q u W) : w.heap.size + 2 < W.heap.size := (Array.getElem?_eq_some_iff.1 h.qb).1
theorem Tq.keep {w W W' : World} {r q : Rec} {v u : Value} (h : Tq w r v q u W) (b : Below W.heap.size W W') : Tq w r v q u W' := by
  have hl := h.lt
  exact ⟨keepW h.bl b, (b.block _ (by omega)).trans h.rb, (b.block _ (by omega)).trans h.zb, (b.block _ (by omega)).trans h.qb, own_below h.own b⟩
theorem Tq.start (w : World) (r : Rec) (v : Value) (k : Int) : Tq w r v ⟨k, eB, eB, eB, eB, eB, eB, [], 0⟩ (.slice none 0 0) (((w.alloc (.cells (rcs r v) 26)).alloc (.cells zrec 26)).alloc (.cells #[.int .i64 k, .string eB, .string eB, .string eB, .string eB, .string eB, .string eB, .slice none 0 0, .int .i64 0] 26)) := by
  refine ⟨(((Below.refl _ _).alloc (Nat.le_refl _) _).alloc (by simp) _).alloc (by simp; omega) _, ?_, ?_, ?_, World.ownsRow_nil _ _ _ _⟩
  · exact ((heap_alloc_old _ _ (by simp; omega)).trans (heap_alloc_old _ _ (by simp))).trans (heap_alloc_new w _)
  · have h1 := heap_alloc_new (w.alloc (.cells (rcs r v) 26)) (.cells zrec 26 (0, 0))
    rw [World.size_alloc] at h1
    exact (heap_alloc_old _ _ (by simp)).trans h1
  · have h1 := heap_alloc_new ((w.alloc (.cells (rcs r v) 26)).alloc (.cells zrec 26)) (.cells #[.int .i64 k, .string eB, .string eB, .string eB, .string eB, .string eB, .string eB, .slice none 0 0, .int .i64 0] 26 (0, 0))
    rw [World.size_alloc, World.size_alloc] at h1
    exact h1
theorem Tq.put {w W : World} {r q q' : Rec} {v u u' x : Value} {j : Nat} (h : Tq w r v q u W) (e : (rcs q u).setIfInBounds j x = rcs q' u') (ho : W.ownsRow (w.heap.size + 3) 9 1 u' q'.ss.length (q'.ss.map Value.string)) : Tq w r v q' u' (W.setCell ⟨w.heap.size + 1 + 1, j, none⟩ x) := by
  refine ⟨h.bl.setCell (p := ⟨w.heap.size + 1 + 1, j, none⟩) (show w.heap.size ≤ w.heap.size + 1 + 1 by omega) _, ?_, ?_, ?_, ?_⟩
  · rw [set_other _ _ _ _ (show w.heap.size ≠ w.heap.size + 1 + 1 by omega)]; exact h.rb
  · rw [set_other _ _ _ _ (show w.heap.size + 1 ≠ w.heap.size + 1 + 1 by omega)]; exact h.zb
  · rw [at_set h.qb x, e]
  · exact own_at ho (fun g hg => set_other _ _ _ _ (show g ≠ w.heap.size + 1 + 1 by omega))
theorem Tq.p1 {w W : World} {r : Rec} {v u : Value} {k a : Int} {s1 s2 s3 s4 s5 s6 : ByteArray} {l : List ByteArray} (h : Tq w r v ⟨k, s1, s2, s3, s4, s5, s6, l, a⟩ u W) (s : ByteArray) : Tq w r v ⟨k, s, s2, s3, s4, s5, s6, l, a⟩ u (W.setCell ⟨w.heap.size + 1 + 1, 1, none⟩ (.string s)) := h.put rfl h.own
theorem Tq.p2 {w W : World} {r : Rec} {v u : Value} {k a : Int} {s1 s2 s3 s4 s5 s6 : ByteArray} {l : List ByteArray} (h : Tq w r v ⟨k, s1, s2, s3, s4, s5, s6, l, a⟩ u W) (s : ByteArray) : Tq w r v ⟨k, s1, s, s3, s4, s5, s6, l, a⟩ u (W.setCell ⟨w.heap.size + 1 + 1, 2, none⟩ (.string s)) := h.put rfl h.own
theorem Tq.p3 {w W : World} {r : Rec} {v u : Value} {k a : Int} {s1 s2 s3 s4 s5 s6 : ByteArray} {l : List ByteArray} (h : Tq w r v ⟨k, s1, s2, s3, s4, s5, s6, l, a⟩ u W) (s : ByteArray) : Tq w r v ⟨k, s1, s2, s, s4, s5, s6, l, a⟩ u (W.setCell ⟨w.heap.size + 1 + 1, 3, none⟩ (.string s)) := h.put rfl h.own
theorem Tq.p4 {w W : World} {r : Rec} {v u : Value} {k a : Int} {s1 s2 s3 s4 s5 s6 : ByteArray} {l : List ByteArray} (h : Tq w r v ⟨k, s1, s2, s3, s4, s5, s6, l, a⟩ u W) (s : ByteArray) : Tq w r v ⟨k, s1, s2, s3, s, s5, s6, l, a⟩ u (W.setCell ⟨w.heap.size + 1 + 1, 4, none⟩ (.string s)) := h.put rfl h.own
theorem Tq.p5 {w W : World} {r : Rec} {v u : Value} {k a : Int} {s1 s2 s3 s4 s5 s6 : ByteArray} {l : List ByteArray} (h : Tq w r v ⟨k, s1, s2, s3, s4, s5, s6, l, a⟩ u W) (s : ByteArray) : Tq w r v ⟨k, s1, s2, s3, s4, s, s6, l, a⟩ u (W.setCell ⟨w.heap.size + 1 + 1, 5, none⟩ (.string s)) := h.put rfl h.own
theorem Tq.p6 {w W : World} {r : Rec} {v u : Value} {k a : Int} {s1 s2 s3 s4 s5 s6 : ByteArray} {l : List ByteArray} (h : Tq w r v ⟨k, s1, s2, s3, s4, s5, s6, l, a⟩ u W) (s : ByteArray) : Tq w r v ⟨k, s1, s2, s3, s4, s5, s, l, a⟩ u (W.setCell ⟨w.heap.size + 1 + 1, 6, none⟩ (.string s)) := h.put rfl h.own
theorem Tq.p8 {w W : World} {r : Rec} {v u : Value} {k a : Int} {s1 s2 s3 s4 s5 s6 : ByteArray} {l : List ByteArray} (h : Tq w r v ⟨k, s1, s2, s3, s4, s5, s6, l, a⟩ u W) (b : Int) : Tq w r v ⟨k, s1, s2, s3, s4, s5, s6, l, b⟩ u (W.setCell ⟨w.heap.size + 1 + 1, 8, none⟩ (.int .i64 b)) := h.put rfl h.own
theorem Tq.p7 {w W : World} {r : Rec} {v u u' : Value} {k a : Int} {s1 s2 s3 s4 s5 s6 : ByteArray} {l l' : List ByteArray} (h : Tq w r v ⟨k, s1, s2, s3, s4, s5, s6, l, a⟩ u W) (ho : W.ownsRow (w.heap.size + 3) 9 1 u' l'.length (l'.map Value.string)) : Tq w r v ⟨k, s1, s2, s3, s4, s5, s6, l', a⟩ u' (W.setCell ⟨w.heap.size + 1 + 1, 7, none⟩ u') := h.put rfl ho
/-- what is tidied: texts that a machine can hold -/
structure TidIn (r : Rec) : Prop where
  id : r.id.size ≤ 562949953421312
  us : r.us.size ≤ 4611686018427387904
  cl : r.cl.size ≤ 4611686018427387904
  rd : r.rd.size ≤ 4611686018427387904
  ch : r.ch.size ≤ 562949953421312
  cd : r.cd.size ≤ 562949953421312
  ss : ∀ s ∈ r.ss, s.size ≤ 4611686018427387904
/-- what tidy answers -/
def TidOut (q : Rec) (w : World) (e : Ending) (w' : World) : Prop := ∃ u, e = .returned (.agg (rcs q u)) ∧ w'.ownsRow w.heap.size 9 1 u q.ss.length (q.ss.map Value.string) ∧ Below w.heap.size w w'
theorem rd_add (s : ByteArray) : (⟨hostT.toArray⟩ : ByteArray) ++ (⟨(kpL s.data.toList 97 122 0 0 490).toArray⟩ : ByteArray) = rdT s := by
  unfold rdT
  apply ByteArray.ext
  apply Array.ext'
  simp
end Go.Proofs.YtocpikgcbibcoaaGreatDoor.rc

namespace Go.Proofs.YtocpikgcbibcoaaGreatDoor.kitw
open Go.ChangeShapes Go.WideShapes Go.ChangeAt Go.RowKit Go.Proofs.YtocpikgcbibcoaaGreatDoor.common

abbrev B (c : UInt8) : Value := .int .u8 (c.toNat : Int)

theorem pick_mod (k n : Int) (hn : 1 ≤ n) : (if k.tmod n < 0 then k.tmod n + n else k.tmod n) = k % n := by
  have h1 := Int.emod_nonneg k (show n ≠ 0 by omega)
  have h2 := Int.emod_lt_of_pos k (show 0 < n by omega)
  rw [Int.tmod_eq_emod]
  by_cases hk : 0 ≤ k ∨ n ∣ k
  · rw [if_pos hk]; split <;> omega
  · rw [if_neg hk]
    have : (n.natAbs : Int) = n := by omega
    have h3 : k % n ≠ 0 := by
      intro h0; exact hk (Or.inr (Int.dvd_of_emod_eq_zero h0))
    split <;> omega

/-- a number from 0 to n - 1 -/
def pick (k n : Int) : Int := if n < 1 then 0 else k % n

theorem pick_bounds (k n : Int) : 0 ≤ pick k n ∧ (1 ≤ n → pick k n < n) := by
  unfold pick
  split
  · exact ⟨by omega, fun h => by omega⟩
  · exact ⟨Int.emod_nonneg k (by omega), fun _ => Int.emod_lt_of_pos k (by omega)⟩

theorem tmod_bounds (k n : Int) (hn : 1 ≤ n) : -n ≤ k.tmod n ∧ k.tmod n < n := by
  have h := pick_mod k n hn
  have h1 := Int.emod_nonneg k (show n ≠ 0 by omega)
  have h2 := Int.emod_lt_of_pos k (show 0 < n by omega)
  split at h <;> omega

set_option maxHeartbeats 400000 in
theorem pick_all (k n : Int) (w : World) (hn : n ≤ 4611686018427387904) (hn0 : -4611686018427387904 ≤ n) :
    Calls Tryz.prog 31 #[.int .i64 k, .int .i64 n] w fun e w' => e = .returned (.int .i64 (pick k n)) ∧ w' = w := by
  by_cases h1 : n < 1
  · have hp : Hid (pick k n = 0) := by show pick k n = 0; unfold pick; rw [if_pos h1]
    go_enter Tryz.func31, Tryz.ntmps31
    go_wp2
    go_ret
    rw [hp.out]
    exact ⟨rfl, rfl⟩
  · have hb := tmod_bounds k n (by omega)
    have hm := pick_mod k n (by omega)
    have hp : pick k n = k % n := by unfold pick; rw [if_neg h1]
    rw [← hm] at hp
    by_cases h2 : k.tmod n < 0
    · rw [if_pos h2] at hp
      have HP := hide hp
      clear hp hm
      go_enter Tryz.func31, Tryz.ntmps31
      go_wp2
      go_ret
      rw [HP.out]
      exact ⟨rfl, rfl⟩
    · rw [if_neg h2] at hp
      have HP := hide hp
      clear hp hm
      go_enter Tryz.func31, Tryz.ntmps31
      go_wp2
      go_ret
      rw [HP.out]
      exact ⟨rfl, rfl⟩

end Go.Proofs.YtocpikgcbibcoaaGreatDoor.kitw
