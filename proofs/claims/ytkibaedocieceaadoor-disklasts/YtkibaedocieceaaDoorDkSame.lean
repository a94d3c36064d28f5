import Derived.Test.YtkibaedocieceaaDoorDkAct
namespace Go.Proofs.YtkibaedocieceaaDoor.dk
open Go.ChangeShapes Go.WideShapes Go.ChangeAt Go.RowKit Go.Proofs.YtkibaedocieceaaDoor.common

theorem Rd.cell {w : World} {oa : Option Addr} {c : Nat} {l : List UInt8} (h : Rd w (.slice oa l.length c) l) (hl : 0 < l.length) : ∃ g o, oa = some ⟨g, o, none⟩ ∧ ∀ k (hk : k < l.length), w.cell? ⟨g, o + k, none⟩ = some (B l[k]) := by
  obtain ⟨oa', c', hv, h⟩ := h
  cases hv
  obtain ⟨g, o, rfl, _, hr⟩ := h hl
  exact ⟨g, o, rfl, fun k hk => hr k _ (by simp [hk])⟩
theorem Rd.drewN {w : World} {v : Value} {l : List UInt8} (h : Rd w v l) (n : Nat) : Rd (w.drewN n) v l := h.keep (fun _ _ _ _ => rfl) (Nat.le_refl _)
theorem Rd.len {w : World} {v : Value} {l : List UInt8} (h : Rd w v l) : ∃ oa c, v = .slice oa l.length c := by
  obtain ⟨oa, c, rfl, _⟩ := h
  exact ⟨oa, c, rfl⟩
theorem bdN {b : Nat} {a c : World} (h : Below b a c) (n : Nat) : Below b a (c.drewN n) := ⟨h.1, h.2, h.3, h.4, h.5⟩

set_option maxRecDepth 100000 in
set_option maxHeartbeats 1600000 in
theorem sameBytes_eq (w : World) (va vb : Value) (l : List UInt8) (ha : Rd w va l) (hb : Rd w vb l) (hl : l.length ≤ 4611686018427387904) :
    Calls Tryd.prog 14 #[va, vb] w fun r' w' => r' = .returned (.bool true) ∧ Below w.heap.size w w' := by
  obtain ⟨oa, ca, rfl⟩ := ha.len
  obtain ⟨ob, cb, rfl⟩ := hb.len
  have HA := hide ha
  have HB := hide hb
  clear ha hb
  go_enter Tryd.func14, Tryd.ntmps14
  go_wp2
  go_loopw [5] (fun i wr => ∃ k : Nat, k ≤ l.length ∧ i = .int .i64 k ∧ ∃ n, wr = w.drewN n) (fun i _ => l.length - (intOf i).toNat)
  case atStart => exact ⟨0, Nat.zero_le _, rfl, 0, rfl⟩
  case round =>
    obtain ⟨k, hk, rfl, n, rfl⟩ := hrel
    by_cases hlt : k < l.length
    · obtain ⟨ga, o1, rfl, h1⟩ := HA.out.cell (by omega)
      obtain ⟨gb, o2, rfl, h2⟩ := HB.out.cell (by omega)
      have c1 : w.cell? ⟨ga, o1 + k, none⟩ = some (B l[k]) := h1 k hlt
      have c2 : w.cell? ⟨gb, o2 + k, none⟩ = some (B l[k]) := h2 k hlt
      have k0 : (0 : Int) ≤ (k : Int) := Int.natCast_nonneg _
      have k1 : (k : Int) < (l.length : Int) := by omega
      clear h1 h2
      generalize l[k] = x at *
      go_wp2_with fail
      go_quiet (fail)
      go_wp2
      go_roundw
      case rel => exact ⟨k + 1, by omega, by go_num, _, rfl⟩
      case measure => simp [intOf]; omega
    · obtain rfl : k = l.length := by omega
      go_wp2
      go_ret
      exact ⟨rfl, bdN (Below.refl _ _) _⟩

theorem sizeStep : (Tryd.prog.info? 34).map (·.size) = some 5 := by kernel_rfl
/-- the step that looks -/
abbrev lk : Sp := ⟨9, 0, 0, 0, ⟨#[]⟩⟩
set_option maxRecDepth 100000 in
set_option maxHeartbeats 800000 in
theorem lookS_any (w : World) : Calls Tryd.prog 13 #[] w fun r' w' => r' = .returned (spv lk) ∧ Below w.heap.size w w' := by
  go_enter Tryd.func13, Tryd.ntmps13
  go_wp2
  have HB := hide ((Below.refl w.heap.size w).alloc (Nat.le_refl _) (.cells #[.int .i64 9, .int .i64 0, .int .i64 0, .int .i64 0, .string ⟨#[]⟩] 34))
  refine bodyPost_ret (results_c rfl _ rfl (range_of (l := spc lk) (heap_alloc_new _ _)) Tryd.underlying34 rfl sizeStep) rfl ?_
  exact ⟨rfl, HB.out⟩

set_option maxRecDepth 100000 in
set_option maxHeartbeats 1600000 in
theorem same_eq (w : World) (va vb : Value) (a : An) (ha : Rd w va a.l) (hb : Rd w vb a.l) (hl : a.l.length ≤ 4611686018427387904) :
    Calls Tryd.prog 17 #[sdv va a.n a.e, sdv vb a.n a.e] w fun r' w' => r' = .returned (.bool true) ∧ Below w.heap.size w w' := by
  obtain ⟨oa, ca, rfl⟩ := ha.len
  obtain ⟨ob, cb, rfl⟩ := hb.len
  obtain ⟨l, n, m⟩ := a
  dsimp only at ha hb hl ⊢
  obtain ⟨V, hV⟩ : ∃ V, V = (w.alloc (.cells #[.slice oa l.length ca, .int .i64 n, .int .i64 (m : Int)] 31)).alloc (.cells #[.slice ob l.length cb, .int .i64 n, .int .i64 (m : Int)] 31) := ⟨_, rfl⟩
  have BV : Below w.heap.size w V := by rw [hV]; exact ((Below.refl _ _).alloc (Nat.le_refl _) _).alloc (by simp) _
  have HS := hide (sameBytes_eq V _ _ l (ha.below BV) (hb.below BV) hl)
  have HBV := hide BV
  have HV := hide hV
  clear ha hb BV hV
  go_enter Tryd.func17, Tryd.ntmps17
  go_wp2_with fail
  rw [← HV.out]
  refine HS.out.mono ?_
  rintro r' w1 ⟨rfl, b1⟩
  have HB1 := hide (keepD HBV.out b1)
  clear b1
  go_wp2
  go_ret
  exact ⟨rfl, HB1.out⟩
end Go.Proofs.YtkibaedocieceaaDoor.dk
