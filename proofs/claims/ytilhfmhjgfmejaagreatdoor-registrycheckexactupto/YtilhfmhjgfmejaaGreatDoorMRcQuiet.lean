import Derived.Test.YtilhfmhjgfmejaaGreatDoorMStrHas
import Derived.Test.YtilhfmhjgfmejaaGreatDoorMByteKit
import Derived.BigQuiet
namespace Go.Proofs.YtilhfmhjgfmejaaGreatDoor.rg
open Go.ChangeShapes Go.WideShapes Go.ChangeAt Go.RowKit Go.Proofs.YtilhfmhjgfmejaaGreatDoor.common Go.Maps
attribute [local go_sem ↓] Go.wp_at_zero Go.wp_at_succ

/-- does a text stand twice among the first k? -/
def repK (l : List ByteArray) (k : Nat) : Bool := (List.range k).any fun i => ss.has (l.getD i ByteArray.empty) (l.take i)
def repB (l : List ByteArray) : Bool := repK l l.length
theorem repK_succ (l : List ByteArray) (k : Nat) : repK l (k + 1) = (repK l k || ss.has (l.getD k ByteArray.empty) (l.take k)) := by
  unfold repK
  rw [List.range_succ, List.any_append]
  simp
theorem repK_up (l : List ByteArray) (k n : Nat) (hk : k ≤ n) (h : repK l k = true) : repK l n = true := by
  unfold repK at h ⊢
  obtain ⟨i, hi, hp⟩ := List.any_eq_true.1 h
  exact List.any_eq_true.2 ⟨i, List.mem_range.2 (by have := List.mem_range.1 hi; omega), hp⟩
theorem lies_head {w : World} {oa : Option Addr} {n cap c : Nat} {l : List ByteArray} (h : ss.Lies w (.slice oa n cap) l) (k : Nat) (hk : k ≤ l.length) : ss.Lies w (.slice oa k c) (l.take k) := by
  obtain ⟨oa', cap', hv, hc⟩ := h
  cases hv
  refine ⟨oa, c, by rw [List.length_take, Nat.min_eq_left hk], fun i hi => ?_⟩
  have hi' : i < l.length := by rw [List.length_take] at hi; omega
  obtain ⟨b, o, h1, h2, h3⟩ := hc i hi'
  exact ⟨b, o, h1, h2, by rw [List.getElem_take]; exact h3⟩

set_option maxRecDepth 100000 in
set_option maxHeartbeats 1600000 in
theorem repeats_any (v : Value) (l : List ByteArray) (w : World) (hL : ss.Lies w v l) (hl : l.length ≤ 4611686018427387904) (hcap : ∀ oa n c, v = .slice oa n c → n ≤ c) :
    Calls Tryz.prog 34 #[v] w fun e w' => e = .returned (.bool (repB l)) ∧ w' = w := by
  have HL := hide hL
  obtain ⟨oa, ca, rfl, hc⟩ := hL
  have hcp := hcap _ _ _ rfl
  have HC := hide hc
  have HD : Hid (repB l = repK l l.length) := rfl
  generalize repB l = t at *
  clear hc hcap
  go_enter Tryz.func34, Tryz.ntmps34
  go_wp2_with fail
  go_loopw [7] (fun i wr => ∃ k : Nat, k ≤ l.length ∧ i = .int .i64 k ∧ Hid (repK l k = false) ∧ Hid (wr = w)) (fun i _ => l.length - (intOf i).toNat)
  case atStart => exact ⟨0, Nat.zero_le _, rfl, rfl, rfl⟩
  case round =>
    obtain ⟨k, hk, rfl, HR, hV⟩ := hrel
    obtain rfl := hV.out.symm
    clear hV
    by_cases hlt : k < l.length
    · have k1 : (k : Int) < (l.length : Int) := by omega
      have k0 : (0 : Int) ≤ (k : Int) := Int.natCast_nonneg _
      have k2 : (k : Int) ≤ (ca : Int) := by omega
      obtain ⟨b, o, rfl, hb, c0⟩ := HC.out k hlt
      have HKS := hide (repK_succ l k)
      have hgd : l.getD k ByteArray.empty = l[k] := by rw [List.getD_eq_getElem?_getD, List.getElem?_eq_getElem hlt]; rfl
      rw [hgd] at HKS
      have HCT := hide (ss.contains_any _ (l.take k) l[k] w (lies_head (c := ca) HL.out k hk) (by rw [List.length_take]; omega))
      generalize l[k] = s at *
      clear hgd
      cases hp : ss.has s (l.take k) with
      | true =>
        rw [hp] at HCT
        have HT : Hid (t = true) := by show _ = _; rw [HD.out]; exact repK_up l (k + 1) l.length hlt (by rw [HKS.out, hp, Bool.or_true])
        clear hp
        go_wp2_with (go_at_call 58; refine HCT.out.mono ?_; rintro x w2 ⟨rfl, h2⟩; obtain rfl := h2.symm; clear h2)
        go_ret
        exact ⟨by rw [HT.out] <;> rfl, rfl⟩
      | false =>
        rw [hp] at HCT
        have HN : Hid (repK l (k + 1) = false) := by show _ = _; rw [HKS.out, HR.out, hp]; rfl
        clear hp
        go_wp2_with (go_at_call 58; refine HCT.out.mono ?_; rintro x w2 ⟨rfl, h2⟩; obtain rfl := h2.symm; clear h2)
        go_roundw
        case rel => exact ⟨k + 1, by omega, by go_num, HN, hide trivial⟩
        case measure => simp [intOf]; omega
    · have k1 : ¬ (k : Int) < (l.length : Int) := by omega
      obtain rfl : k = l.length := by omega
      rw [← HD.out] at HR
      clear hlt hk
      go_wp2_with fail
      go_ret
      exact ⟨by rw [HR.out] <;> rfl, rfl⟩
end Go.Proofs.YtilhfmhjgfmejaaGreatDoor.rg

namespace Go.Proofs.YtilhfmhjgfmejaaGreatDoor.rg
open Go.ChangeShapes Go.WideShapes Go.ChangeAt Go.RowKit Go.Proofs.YtilhfmhjgfmejaaGreatDoor.common Go.Maps
attribute [local go_sem ↓] Go.wp_at_zero Go.wp_at_succ

theorem tooMany_enters : tm.Enters 27 := enters_of Tryz.func27 (by kernel_rfl) rfl
theorem address_enters : tm.Enters 37 := enters_of Tryz.func37 (by kernel_rfl) rfl
/-- is there too much of something? -/
def manyB (cs : List Cli) (us : List Usr) : Bool := decide (64 < cs.length) || (decide (64 < us.length) || cs.any tmB)

set_option maxRecDepth 100000 in
set_option maxHeartbeats 1600000 in
theorem hasTooMany_any (w : World) (t : Ten) (vC vU : Value) (cs : List Cli) (us : List Usr) (hC : LiesC w vC cs) (hU : LiesU w vU us) (hcs : cs.length ≤ 4611686018427387904) :
    Calls Tryz.prog 13 #[.agg #[.int .i64 t.a0, .int .i64 t.a1, .int .i64 t.a2, .int .i64 t.a3, .int .i64 t.a4, .int .i64 t.a5, .int .i64 t.a6, .int .i64 t.a7, .int .i64 t.a8, .int .i64 t.a9, vC, vU]] w fun e w' => e = .returned (.bool (manyB cs us)) ∧ Below w.heap.size w w' := by
  have HCL := hide hC
  obtain ⟨oC, cC, rfl, _⟩ := hC
  obtain ⟨oU, cU, rfl, _⟩ := hU
  have hb := heap_new w (.cells #[.int .i64 t.a0, .int .i64 t.a1, .int .i64 t.a2, .int .i64 t.a3, .int .i64 t.a4, .int .i64 t.a5, .int .i64 t.a6, .int .i64 t.a7, .int .i64 t.a8, .int .i64 t.a9, .slice oC cs.length cC, .slice oU us.length cU] 25)
  have HB : Hid (Below w.heap.size w (w.alloc (.cells #[.int .i64 t.a0, .int .i64 t.a1, .int .i64 t.a2, .int .i64 t.a3, .int .i64 t.a4, .int .i64 t.a5, .int .i64 t.a6, .int .i64 t.a7, .int .i64 t.a8, .int .i64 t.a9, .slice oC cs.length cC, .slice oU us.length cU] 25))) := (Below.refl _ _).alloc (Nat.le_refl _) _
  have p10 : (w.alloc (.cells #[.int .i64 t.a0, .int .i64 t.a1, .int .i64 t.a2, .int .i64 t.a3, .int .i64 t.a4, .int .i64 t.a5, .int .i64 t.a6, .int .i64 t.a7, .int .i64 t.a8, .int .i64 t.a9, .slice oC cs.length cC, .slice oU us.length cU] 25)).cell? ⟨w.heap.size, 10, none⟩ = some (.slice oC cs.length cC) := cell_of hb 10
  have p11 : (w.alloc (.cells #[.int .i64 t.a0, .int .i64 t.a1, .int .i64 t.a2, .int .i64 t.a3, .int .i64 t.a4, .int .i64 t.a5, .int .i64 t.a6, .int .i64 t.a7, .int .i64 t.a8, .int .i64 t.a9, .slice oC cs.length cC, .slice oU us.length cU] 25)).cell? ⟨w.heap.size, 11, none⟩ = some (.slice oU us.length cU) := cell_of hb 11
  have HCC := hide (containsC_any 27 tmB _ cs (w.alloc (.cells #[.int .i64 t.a0, .int .i64 t.a1, .int .i64 t.a2, .int .i64 t.a3, .int .i64 t.a4, .int .i64 t.a5, .int .i64 t.a6, .int .i64 t.a7, .int .i64 t.a8, .int .i64 t.a9, .slice oC cs.length cC, .slice oU us.length cU] 25)) (HCL.out.below HB.out) hcs tooMany_enters (fun x _ W vR vS _ h1 h2 => clientHasTooMany_any x vR vS W h1 h2))
  have HQ : Hid (manyB cs us = (decide (64 < cs.length) || (decide (64 < us.length) || cs.any tmB))) := rfl
  generalize manyB cs us = r at *
  generalize cs.any tmB = q at *
  clear hb
  by_cases h1 : 64 < cs.length
  · have e1 : (64 : Int) < (cs.length : Int) := by omega
    have HT : Hid (r = true) := by show _ = _; rw [HQ.out, decide_eq_true h1]; rfl
    clear h1
    go_enter Tryz.func13, Tryz.ntmps13
    go_wp2
    go_ret
    exact ⟨by rw [HT.out] <;> rfl, HB.out⟩
  · have e1 : ¬ (64 : Int) < (cs.length : Int) := by omega
    by_cases h2 : 64 < us.length
    · have e2 : (64 : Int) < (us.length : Int) := by omega
      have HT : Hid (r = true) := by show _ = _; rw [HQ.out, decide_eq_true h2, Bool.true_or, Bool.or_true]
      clear h1 h2
      go_enter Tryz.func13, Tryz.ntmps13
      go_wp2
      go_ret
      exact ⟨by rw [HT.out] <;> rfl, HB.out⟩
    · have e2 : ¬ (64 : Int) < (us.length : Int) := by omega
      have HT : Hid (r = q) := by show _ = _; rw [HQ.out, decide_eq_false h1, decide_eq_false h2]; rfl
      rw [← HT.out] at HCC
      clear h1 h2
      go_enter Tryz.func13, Tryz.ntmps13
      go_wp2_with (go_at_call 26; refine HCC.out.mono ?_; rintro e w2 ⟨rfl, b2⟩)
      have HB2 := hide (keepW HB.out b2)
      clear b2
      go_ret
      exact ⟨rfl, HB2.out⟩

set_option maxRecDepth 100000 in
set_option maxHeartbeats 1600000 in
theorem repeatsAddress_any (x : Cli) (vR vS : Value) (w : World) (hR : ss.Lies w vR x.to) (hS : ss.Lies w vS x.sc) (hl : x.to.length ≤ 4611686018427387904) (hcap : ∀ oa n c, vR = .slice oa n c → n ≤ c) : Calls Tryz.prog 37 #[.agg #[.string x.id, .bool x.pub, .string x.salt, .string x.dig, vR, vS]] w fun e w' => e = .returned (.bool (repB x.to)) ∧ Below w.heap.size w w' := by
  have HR := hide hR
  obtain ⟨oR, cR, rfl, _⟩ := hR
  obtain ⟨oS, cS, rfl, _⟩ := hS
  obtain ⟨id, pub, salt, dig, tos, sc⟩ := x
  dsimp only at HR hl hcap ⊢
  have hb := heap_new w (cliO ⟨id, pub, salt, dig, tos, sc⟩ (.slice oR tos.length cR) (.slice oS sc.length cS))
  have HB : Hid (Below w.heap.size w (w.alloc (cliO ⟨id, pub, salt, dig, tos, sc⟩ (.slice oR tos.length cR) (.slice oS sc.length cS)))) := (Below.refl _ _).alloc (Nat.le_refl _) _
  have p4 : (w.alloc (cliO ⟨id, pub, salt, dig, tos, sc⟩ (.slice oR tos.length cR) (.slice oS sc.length cS))).cell? ⟨w.heap.size, 4, none⟩ = some (.slice oR tos.length cR) := cell_of hb 4
  have HP := hide (repeats_any _ tos _ (HR.out.below HB.out) hl hcap)
  generalize repB tos = r at *
  clear hb hcap
  go_enter Tryz.func37, Tryz.ntmps37
  go_wp2_with fail
  refine HP.out.mono ?_
  rintro e w2 ⟨rfl, h2⟩
  obtain rfl := h2.symm
  clear h2
  go_wp2_with fail
  go_ret
  exact ⟨rfl, HB.out⟩
end Go.Proofs.YtilhfmhjgfmejaaGreatDoor.rg

namespace Go.Proofs.YtilhfmhjgfmejaaGreatDoor.rg
open Go.ChangeShapes Go.WideShapes Go.ChangeAt Go.RowKit Go.Proofs.YtilhfmhjgfmejaaGreatDoor.common Go.Maps
attribute [local go_sem ↓] Go.wp_at_zero Go.wp_at_succ

set_option maxRecDepth 100000 in
set_option maxHeartbeats 1600000 in
theorem takes_any (s : ByteArray) (lo hi v : Int) (w : World) : Calls Tryz.prog 29 #[.agg #[.string s, .int .i64 lo, .int .i64 hi], .int .i64 v] w fun e w' => e = .returned (.bool (decide (lo ≤ v ∧ v ≤ hi))) ∧ Below w.heap.size w w' := by
  have hb := heap_new w (.cells #[.string s, .int .i64 lo, .int .i64 hi] 64)
  have HB : Hid (Below w.heap.size w (w.alloc (.cells #[.string s, .int .i64 lo, .int .i64 hi] 64))) := (Below.refl _ _).alloc (Nat.le_refl _) _
  have p1 : (w.alloc (.cells #[.string s, .int .i64 lo, .int .i64 hi] 64)).cell? ⟨w.heap.size, 1, none⟩ = some (.int .i64 lo) := cell_of hb 1
  have p2 : (w.alloc (.cells #[.string s, .int .i64 lo, .int .i64 hi] 64)).cell? ⟨w.heap.size, 2, none⟩ = some (.int .i64 hi) := cell_of hb 2
  clear hb
  by_cases h1 : lo ≤ v
  · by_cases h2 : v ≤ hi
    · have HT : Hid (decide (lo ≤ v ∧ v ≤ hi) = true) := decide_eq_true ⟨h1, h2⟩
      rw [HT.out]
      go_enter Tryz.func29, Tryz.ntmps29
      go_wp2
      go_ret
      exact ⟨rfl, HB.out⟩
    · have HT : Hid (decide (lo ≤ v ∧ v ≤ hi) = false) := decide_eq_false (fun h => h2 h.2)
      have e2 : decide (v ≤ hi) = false := decide_eq_false h2
      rw [HT.out]
      go_enter Tryz.func29, Tryz.ntmps29
      go_wp2
      go_ret
      exact ⟨by first | rfl | (rw [← e2] <;> rfl), HB.out⟩
  · have HT : Hid (decide (lo ≤ v ∧ v ≤ hi) = false) := decide_eq_false (fun h => h1 h.1)
    have e1 : decide (lo ≤ v) = false := decide_eq_false h1
    rw [HT.out]
    go_enter Tryz.func29, Tryz.ntmps29
    go_wp2
    go_ret
    exact ⟨by first | rfl | (rw [← e1] <;> rfl), HB.out⟩

set_option maxRecDepth 100000 in
set_option maxHeartbeats 3200000 in
theorem places_any (b : Nat) (w : World) : Calls Tryz.prog 28 #[.pointer (some ⟨b, 0, none⟩)] w fun e w' => e = .returned (.slice (some ⟨w.heap.size, 0, none⟩) 10 10) ∧ (∀ i : Nat, i < 10 → w'.cell? ⟨w.heap.size, i, none⟩ = some (.pointer (some ⟨b, i, none⟩))) ∧ Below w.heap.size w w' := by
  go_enter Tryz.func28, Tryz.ntmps28
  go_wp2_with fail
  go_region_held3 (fun _ => True) (first | trivial | go_keep) (fail)
  go_wp2_with fail
  go_ret
  have hn := heap_new w (.cells #[.pointer (some ⟨b, 0, none⟩), .pointer (some ⟨b, 1, none⟩), .pointer (some ⟨b, 2, none⟩), .pointer (some ⟨b, 3, none⟩), .pointer (some ⟨b, 4, none⟩), .pointer (some ⟨b, 5, none⟩), .pointer (some ⟨b, 6, none⟩), .pointer (some ⟨b, 7, none⟩), .pointer (some ⟨b, 8, none⟩), .pointer (some ⟨b, 9, none⟩)] 62)
  refine ⟨rfl, fun i hi => ?_, ((Below.refl _ _).alloc (Nat.le_refl _) _).drew⟩
  match i, hi with
  | 0, _ => exact cell_of hn 0
  | 1, _ => exact cell_of hn 1
  | 2, _ => exact cell_of hn 2
  | 3, _ => exact cell_of hn 3
  | 4, _ => exact cell_of hn 4
  | 5, _ => exact cell_of hn 5
  | 6, _ => exact cell_of hn 6
  | 7, _ => exact cell_of hn 7
  | 8, _ => exact cell_of hn 8
  | 9, _ => exact cell_of hn 9
end Go.Proofs.YtilhfmhjgfmejaaGreatDoor.rg

namespace Go.Proofs.YtilhfmhjgfmejaaGreatDoor.rc
open Go.ChangeShapes Go.WideShapes Go.ChangeAt Go.RowKit Go.Proofs.YtilhfmhjgfmejaaGreatDoor.common

/-- a region that draws its order, whose operations and callees keep to a class of worlds (those that f gives) -/
theorem wp_region_cls {P : Program} {id : Nat} {Q : Exit → Act → World → Prop} {a : Act} {w : World} {l : List Oper} (f : World → World) (hm : P.follows .mixedOrders = true) (hB : Region.lexB .any l.toArray = true) (w0 : World) (h0 : w.drew = f w0)
    (h : wpQuiet P l.toArray (fun w' => ∃ n, w' = f n) (fun a' => ∀ w', (∃ n, w' = f n) → Q .normal a' w') l a) : (Code.region id l.toArray true).wp P Q a w :=
  wp_region_quiet (C := fun w' => ∃ n, w' = f n) hm hB ⟨w0, h0⟩ (by simpa using h)
/-- the worlds above a base, as a function's values -/
theorem class_of (W : World) : ∃ f : World → World, (∀ X, Below W.heap.size W (f X)) ∧ (∀ X, Below W.heap.size W X → f X = X) := by
  classical
  refine ⟨fun X => if Below W.heap.size W X then X else W, fun X => ?_, fun X h => if_pos h⟩
  show Below W.heap.size W (if Below W.heap.size W X then X else W)
  by_cases h : Below W.heap.size W X
  · rw [if_pos h]; exact h
  · rw [if_neg h]; exact Below.refl _ _
end Go.Proofs.YtilhfmhjgfmejaaGreatDoor.rc
