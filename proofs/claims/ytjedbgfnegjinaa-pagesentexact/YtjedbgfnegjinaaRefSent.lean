import Derived.Test.YtjedbgfnegjinaaSentAll
namespace Go.Proofs.Ytjedbgfnegjinaa.sent
open Go.ChangeShapes Go.WideShapes Go.ChangeAt Go.RowKit Go.Proofs.Ytjedbgfnegjinaa.common Go.Proofs.Ytjedbgfnegjinaa.lst Go.Maps
attribute [local go_sem ↓] Go.wp_at_zero Go.wp_at_succ

theorem ne_l {a b : ByteArray} (h : ¬ a = b) : (a.toList == b.toList) = false := by
  refine beq_false_of_ne (fun e => h ?_)
  rw [ByteArray.toList_eq, ByteArray.toList_eq] at e
  cases a; cases b
  simp only [ByteArray.mk.injEq]
  exact Array.toList_inj.1 e
theorem getD_at (l : List PB) (k : Nat) (h : k < l.length) : l.getD k (⟨#[]⟩, ⟨#[]⟩) = l[k] := by simp [List.getD, List.getElem?_eq_getElem h]

set_option maxRecDepth 100000 in
set_option maxHeartbeats 1600000 in
theorem typedFor_any (v : Value) (l : List PB) (n : ByteArray) (w : World) (hl : Lies w v l) (hs : l.length * 32 ≤ 140737488355328) :
    Calls Try.prog 14 #[v, .string n] w fun e w' => e = .returned (.tuple #[.string ((typedOf l n).getD ⟨#[]⟩), .bool (typedOf l n).isSome]) ∧ w' = w := by
  obtain ⟨oa, cap, rfl, hc⟩ := hl
  have HC := hide hc
  clear hc
  go_enter Try.func14, Try.ntmps14
  go_wp2_with fail
  go_loopw [6] (fun i wr => ∃ k : Nat, k ≤ l.length ∧ i = .int .i64 ((k : Int) - 1) ∧ lastIx l n l.length = lastIx l n k ∧ wr = w) (fun i _ => (intOf i + 1).toNat)
  case atStart => exact ⟨l.length, Nat.le_refl _, by go_num, rfl, rfl⟩
  case round =>
    obtain ⟨k, hk, rfl, hix, rfl⟩ := hrel
    cases k with
    | zero =>
      have ht : typedOf l n = none := by unfold typedOf; rw [hix]; rfl
      have HT := hide ht
      clear ht
      have hz : ((0 : Nat) : Int) - 1 = -1 := by omega
      rw [hz]
      go_wp2_with fail
      go_ret2
      refine ⟨?_, rfl⟩
      rw [HT.out]
      rfl
    | succ k =>
      have hlt : k < l.length := by omega
      obtain ⟨b, o, rfl, hb, c0, c1⟩ := HC.out k hlt
      have hz : ((k + 1 : Nat) : Int) - 1 = (k : Int) := by omega
      rw [hz]
      have hki : (k : Int) < (l.length : Int) := by omega
      have hk0 : (0 : Int) ≤ (k : Int) := Int.natCast_nonneg _
      by_cases he : l[k].1 = n
      · have ht : typedOf l n = some l[k].2 := by
          unfold typedOf
          rw [hix, lastIx, if_pos (by rw [getD_at l k hlt]; exact he), Option.map_some, getD_at l k hlt]
        have HT := hide ht
        generalize l[k] = p at *
        subst he
        clear hix ht
        go_wp2_with fail
        go_ret2
        refine ⟨?_, rfl⟩
        rw [HT.out]
        rfl
      · have hnx : lastIx l n l.length = lastIx l n k := by rw [hix, lastIx, if_neg (by rw [getD_at l k hlt]; exact he)]
        generalize l[k] = p at *
        have hne : (p.1.toList == n.toList) = false := ne_l he
        clear hix
        go_wp2_with fail
        go_roundw
        case rel => exact ⟨k, by omega, by go_num, hnx, trivial⟩
        case measure => simp [intOf]

set_option maxRecDepth 100000 in
set_option maxHeartbeats 1600000 in
theorem clicks_any (v : Value) (l : List PB) (x : Inp) (w : World) (hl : Lies w v l) (hs : l.length * 32 ≤ 140737488355328) :
    Calls Try.prog 15 #[v, .agg #[.int .i64 x.kind, .string x.name, .string x.value, .string x.label]] w fun e w' => e = .returned (.int .i64 (cnt l (x.name, x.value) l.length : Nat)) ∧ Below w.heap.size w w' := by
  have B0 : Below w.heap.size w (w.alloc (.cells #[.int .i64 x.kind, .string x.name, .string x.value, .string x.label] 29)) := (Below.refl _ _).alloc (Nat.le_refl _) _
  have hl1 := hl.below B0
  obtain ⟨oa, cap, rfl, hc⟩ := hl1
  have HC := hide hc
  clear hc hl
  have hE : (w.alloc (.cells #[.int .i64 x.kind, .string x.name, .string x.value, .string x.label] 29)).heap[w.heap.size]? = some (.cells #[.int .i64 x.kind, .string x.name, .string x.value, .string x.label] 29) := (MapKept.heap_alloc w _).1
  go_enter Try.func15, Try.ntmps15
  go_wp2_with fail
  generalize w.alloc (.cells #[.int .i64 x.kind, .string x.name, .string x.value, .string x.label] 29) = W at *
  go_loopw [5, 6] (fun n i wr => ∃ k : Nat, k ≤ l.length ∧ i = .int .i64 k ∧ n = .int .i64 (cnt l (x.name, x.value) k : Nat) ∧ Below W.heap.size W wr) (fun _ i _ => l.length - (intOf i).toNat)
  case atStart => exact ⟨0, Nat.zero_le _, rfl, rfl, Below.refl _ _⟩
  case round =>
    obtain ⟨k, hk, rfl, rfl, hnx⟩ := hrel
    have hcl := cnt_le l (x.name, x.value) k
    by_cases hlt : k < l.length
    · have hki : (k : Int) < (l.length : Int) := by omega
      have hk0 : (0 : Int) ≤ (k : Int) := Int.natCast_nonneg _
      obtain ⟨b, o, rfl, hb, c0, c1⟩ := HC.out k hlt
      have d0 := (hnx.cell (p := ⟨b, o + k * 2, none⟩) hb).trans c0
      have d1 := (hnx.cell (p := ⟨b, o + k * 2 + 1, none⟩) hb).trans c1
      have hE1 := (hnx.block _ (Array.getElem?_eq_some_iff.1 hE).1).trans hE
      have e1 : wr.cell? ⟨w.heap.size, 1, none⟩ = some (.string x.name) := by simp [World.cell?, hE1]
      have e2 : wr.cell? ⟨w.heap.size, 2, none⟩ = some (.string x.value) := by simp [World.cell?, hE1]
      have HN : Hid (cnt l (x.name, x.value) (k + 1) = if l[k] = (x.name, x.value) then cnt l (x.name, x.value) k + 1 else cnt l (x.name, x.value) k) := by
        show _ = _
        rw [cnt, getD_at l k hlt]
      have HX := hide hnx
      clear hnx c0 c1 hE1 hE
      generalize cnt l (x.name, x.value) k = n at *
      generalize l[k] = p at *
      by_cases h1 : p.1 = x.name
      · have q1 : (p.1.toList == x.name.toList) = true := by rw [h1]; simp
        by_cases h2 : p.2 = x.value
        · have q2 : (p.2.toList == x.value.toList) = true := by rw [h2]; simp
          rw [if_pos (Prod.ext h1 h2)] at HN
          go_wp2_with fail
          go_quiet (fail)
          go_wp2_with fail
          go_roundw
          case rel => exact ⟨k + 1, by omega, by go_num, by rw [HN.out]; go_num, ⟨HX.out.os, HX.out.tape, HX.out.output, HX.out.size, HX.out.block⟩⟩
          case measure => simp [intOf]; omega
        · have q2 : (p.2.toList == x.value.toList) = false := ne_l h2
          rw [if_neg (fun e => h2 (congrArg Prod.snd e))] at HN
          go_wp2_with fail
          go_quiet (fail)
          go_wp2_with fail
          go_roundw
          case rel => exact ⟨k + 1, by omega, by go_num, by rw [HN.out], ⟨HX.out.os, HX.out.tape, HX.out.output, HX.out.size, HX.out.block⟩⟩
          case measure => simp [intOf]; omega
      · have q1 : (p.1.toList == x.name.toList) = false := ne_l h1
        rw [if_neg (fun e => h1 (congrArg Prod.fst e))] at HN
        go_wp2_with fail
        go_quiet (fail)
        go_wp2_with fail
        go_roundw
        case rel => exact ⟨k + 1, by omega, by go_num, by rw [HN.out], ⟨HX.out.os, HX.out.tape, HX.out.output, HX.out.size, HX.out.block⟩⟩
        case measure => simp [intOf]; omega
    · obtain rfl : k = l.length := by omega
      have H2 := hide hnx
      clear hnx
      go_wp2_with fail
      go_ret
      exact ⟨rfl, B0.trans (H2.out.mono B0.size)⟩

end Go.Proofs.Ytjedbgfnegjinaa.sent
