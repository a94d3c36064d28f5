import Derived.Test.YtkkgngmhdlmgnaaDoorJsonQuoted
import Derived.Test.YtkkgngmhdlmgnaaDoorJsonObj
namespace Go.Proofs.YtkkgngmhdlmgnaaDoor.jw
open Go.ChangeShapes Go.WideShapes Go.ChangeAt Go.RowKit Go.Proofs.YtkkgngmhdlmgnaaDoor.common
attribute [local go_sem ↓] Go.wp_at_zero Go.wp_at_succ

abbrev Mem := Json.Mem
/-- the cells of a member -/
def cm (m : Mem) : List Value := [S m.name, .int .i64 m.kind, S m.text, .int .i64 m.num, .bool m.flag]
def cms : List Mem → List Value
  | [] => []
  | m :: r => cm m ++ cms r
theorem cms_len : ∀ l : List Mem, (cms l).length = l.length * 5
  | [] => rfl
  | m :: r => by
    show (cm m ++ cms r).length = _
    rw [List.length_append, cms_len r, List.length_cons]
    show 5 + _ = _
    omega
theorem cms_app : ∀ l m : List Mem, cms (l ++ m) = cms l ++ cms m
  | [], _ => rfl
  | x :: r, m => by
    show cm x ++ cms (r ++ m) = _
    rw [cms_app r m, ← List.append_assoc]; rfl
theorem cms_get : ∀ (l : List Mem) (i : Nat) (h : i < l.length) (j : Nat), j < 5 → (cms l)[i * 5 + j]? = (cm l[i])[j]?
  | [], i, h, _, _ => absurd h (Nat.not_lt_zero _)
  | x :: r, 0, _, j, hj => by
    show (cm x ++ cms r)[0 * 5 + j]? = _
    rw [Nat.zero_mul, Nat.zero_add, List.getElem?_append_left (by show j < 5; exact hj)]; rfl
  | x :: r, i + 1, h, j, hj => by
    show (cm x ++ cms r)[(i + 1) * 5 + j]? = _
    rw [List.getElem?_append_right (by show 5 ≤ _; omega)]
    have : (i + 1) * 5 + j - (cm x).length = i * 5 + j := by show (i + 1) * 5 + j - 5 = _; omega
    rw [this]
    exact cms_get r i (by simpa using h) j hj

/-- a member lies at o -/
structure At (w : World) (b o : Nat) (m : Mem) : Prop where
  c0 : w.cell? ⟨b, o, none⟩ = some (S m.name)
  c1 : w.cell? ⟨b, o + 1, none⟩ = some (.int .i64 m.kind)
  c2 : w.cell? ⟨b, o + 2, none⟩ = some (S m.text)
  c3 : w.cell? ⟨b, o + 3, none⟩ = some (.int .i64 m.num)
  c4 : w.cell? ⟨b, o + 4, none⟩ = some (.bool m.flag)
theorem At.of {w w' : World} {b o : Nat} {m : Mem} (h : At w b o m) (hb : w'.heap[b]? = w.heap[b]?) : At w' b o m := by
  have e : ∀ k, w'.cell? ⟨b, k, none⟩ = w.cell? ⟨b, k, none⟩ := fun k => World.cell?_of_block hb
  exact ⟨(e _).trans h.c0, (e _).trans h.c1, (e _).trans h.c2, (e _).trans h.c3, (e _).trans h.c4⟩
theorem At.below {w w' : World} {b o n : Nat} {m : Mem} (h : At w b o m) (hb : Below n w w') (hn : b < n) : At w' b o m := h.of (hb.block b hn)

/-- a slice that reads as l -/
def Lies (w : World) (v : Value) (l : List Mem) : Prop :=
  ∃ oa cap, v = .slice oa l.length cap ∧ l.length ≤ cap ∧ ∀ i (h : i < l.length), ∃ b o, oa = some ⟨b, o, none⟩ ∧ b < w.heap.size ∧ At w b (o + i * 5) l[i]
theorem Lies.below {w w' : World} {v : Value} {l : List Mem} (h : Lies w v l) (hb : Below w.heap.size w w') : Lies w' v l := by
  obtain ⟨oa, cap, hv, hcp, hc⟩ := h
  refine ⟨oa, cap, hv, hcp, fun i hi => ?_⟩
  obtain ⟨b, o, ho, hlt, ha⟩ := hc i hi
  exact ⟨b, o, ho, Nat.lt_of_lt_of_le hlt hb.size, ha.below hb hlt⟩

theorem lies_of_own {w : World} {base : Nat} {e : TypeId} {v : Value} {l : List Mem} (h : w.ownsRow base e 5 v l.length (cms l)) : Lies w v l := by
  rcases h.2 with ⟨rfl, h0⟩ | ⟨g, cap, cur, rfl, hg, hh, hn, _, hsz, htk⟩
  · obtain rfl : l = [] := List.eq_nil_of_length_eq_zero h0
    exact ⟨none, 0, rfl, Nat.le_refl _, fun i hi => absurd hi (Nat.not_lt_zero _)⟩
  · refine ⟨_, cap, rfl, hn, fun i hi => ⟨g, 0, rfl, (Array.getElem?_eq_some_iff.1 hh).1, ?_⟩⟩
    have key : ∀ j u, j < 5 → (cm l[i])[j]? = some u → w.cell? ⟨g, 0 + i * 5 + j, none⟩ = some u := by
      intro j u hj hu
      have : (cur.toList.take (l.length * 5))[i * 5 + j]? = (cms l)[i * 5 + j]? := by rw [htk]
      rw [List.getElem?_take_of_lt (by omega), cms_get l i hi j hj, hu] at this
      rw [Nat.zero_add]
      simp only [World.cell?, hh]
      simpa using this
    exact ⟨key 0 _ (by decide) rfl, key 1 _ (by decide) rfl, key 2 _ (by decide) rfl, key 3 _ (by decide) rfl, key 4 _ (by decide) rfl⟩

theorem mem_new (w : World) (m : Mem) (t : TypeId) : At (w.alloc (.cells #[S m.name, .int .i64 m.kind, S m.text, .int .i64 m.num, .bool m.flag] t)) w.heap.size 0 m :=
  ⟨range_new w #[S m.name, .int .i64 m.kind, S m.text, .int .i64 m.num, .bool m.flag] t 0 _ rfl,
   range_new w #[S m.name, .int .i64 m.kind, S m.text, .int .i64 m.num, .bool m.flag] t 1 _ rfl,
   range_new w #[S m.name, .int .i64 m.kind, S m.text, .int .i64 m.num, .bool m.flag] t 2 _ rfl,
   range_new w #[S m.name, .int .i64 m.kind, S m.text, .int .i64 m.num, .bool m.flag] t 3 _ rfl,
   range_new w #[S m.name, .int .i64 m.kind, S m.text, .int .i64 m.num, .bool m.flag] t 4 _ rfl⟩

/-- the four refusals of this layer lie in their variables -/
abbrev X (a : Addr) : Value := .iface 144 (.pointer (some a))
structure Four (w : World) (e : Nat → Addr) : Prop where
  arg : w.cell? ⟨4, 0, none⟩ = some (X (e 0))
  text : w.cell? ⟨1, 0, none⟩ = some (X (e 1))
  many : w.cell? ⟨2, 0, none⟩ = some (X (e 2))
  twice : w.cell? ⟨3, 0, none⟩ = some (X (e 3))
theorem Four.below {w w' : World} {e : Nat → Addr} (h : Four w e) (hb : Below w.heap.size w w') : Four w' e :=
  ⟨(hb.cell (World.block_lt_of_cell? w _ h.arg)).trans h.arg, (hb.cell (World.block_lt_of_cell? w _ h.text)).trans h.text, (hb.cell (World.block_lt_of_cell? w _ h.many)).trans h.many, (hb.cell (World.block_lt_of_cell? w _ h.twice)).trans h.twice⟩
/-- a refusal's number as a value of error -/
def errV (e : Nat → Addr) (c : Nat) : Value := if c = 0 then .nilIface else X (e (c - 1))

theorem twice_iff : ∀ l : List Mem, Json.twice l = true ↔ ∃ i j : Nat, ∃ (hj : j < i) (hi : i < l.length), (l[j]'(Nat.lt_trans hj hi)).name = l[i].name
  | [] => by simp [Json.twice]
  | m :: r => by
    rw [Json.twice, Bool.or_eq_true, twice_iff r, List.any_eq_true]
    constructor
    · rintro (⟨k, hk, he⟩ | ⟨i, j, hj, hi, he⟩)
      · obtain ⟨i, hi, rfl⟩ := List.getElem_of_mem hk
        exact ⟨i + 1, 0, by omega, by simpa using hi, by simpa using (of_decide_eq_true he).symm⟩
      · exact ⟨i + 1, j + 1, by omega, by simpa using hi, by simpa using he⟩
    · rintro ⟨i, j, hj, hi, he⟩
      cases i with
      | zero => omega
      | succ i =>
        cases j with
        | zero =>
          left
          refine ⟨r[i]'(by simpa using hi), List.getElem_mem _, decide_eq_true ?_⟩
          simpa using he.symm
        | succ j => exact Or.inr ⟨i, j, by omega, by simpa using hi, by simpa using he⟩

set_option maxRecDepth 100000 in
set_option maxHeartbeats 1600000 in
theorem someNameTwice_any (v : Value) (l : List Mem) (w : World) (hl : Lies w v l) (hn : l.length ≤ 4611686018427387904) :
    Calls Tryd.prog 19 #[v] w fun e w' => e = .returned (.bool (Json.twice l)) ∧ Below w.heap.size w w' := by
  obtain ⟨R, hR⟩ : ∃ R, Json.twice l = R := ⟨_, rfl⟩
  have HT := hide (twice_iff l)
  rw [hR] at HT
  rw [hR]
  clear hR
  obtain ⟨oa, ca, rfl, hcp, hca⟩ := hl
  have HA := hide hca
  clear hca
  go_enter Tryd.func19, Tryd.ntmps19
  go_wp2_with fail
  go_loopw [2, 9] (fun r i wr => ∃ k : Nat, k ≤ l.length ∧ r = .bool false ∧ i = .int .i64 k ∧ Below w.heap.size w wr ∧ Hid (∀ i j : Nat, ∀ (hj : j < i) (hi : i < l.length), i < k → (l[j]'(Nat.lt_trans hj hi)).name ≠ l[i].name)) (fun _ i _ => l.length - (intOf i).toNat)
  case atStart => exact ⟨0, Nat.zero_le _, rfl, rfl, Below.refl _ _, fun i j _ _ h => by omega⟩
  case round =>
    obtain ⟨k, hk, rfl, rfl, hnx, hno⟩ := hrel
    have hsz := hnx.size
    by_cases hlt : k < l.length
    · have hki : (k : Int) < (l.length : Int) := by omega
      have k0 : (0 : Int) ≤ (k : Int) := Int.natCast_nonneg _
      obtain ⟨b, o, rfl, hb, ha⟩ := HA.out k hlt
      have hA := ha.below hnx hb
      have d0 := hA.c0
      have d1 := hA.c1
      have d2 := hA.c2
      have d3 := hA.c3
      have d4 := hA.c4
      have hcap : (k : Int) ≤ (ca : Int) := by omega
      generalize hm : l[k] = m at *
      have HM := hide hm
      have PN := hide (mem_new wr m 37)
      have X0 := hide (hnx.alloc hsz (.cells #[S m.name, .int .i64 m.kind, S m.text, .int .i64 m.num, .bool m.flag] 37))
      have HSZ : Hid ((wr.alloc (.cells #[S m.name, .int .i64 m.kind, S m.text, .int .i64 m.num, .bool m.flag] 37)).heap.size = wr.heap.size + 1) := by show _ = _; simp
      clear hnx ha hA hm
      go_wp2_with fail
      generalize wr.alloc (.cells #[S m.name, .int .i64 m.kind, S m.text, .int .i64 m.num, .bool m.flag] 37) = W0 at *
      generalize wr.heap.size = P at *
      clear d0 d1 d2 d3 d4
      go_loopw [2, 18] (fun r i wr => ∃ q : Nat, q ≤ k ∧ r = .bool false ∧ i = .int .i64 q ∧ Below W0.heap.size W0 wr ∧ Hid (∀ j : Nat, ∀ (hj : j < l.length), j < q → l[j].name ≠ m.name)) (fun _ i _ => k - (intOf i).toNat)
      case atStart => exact ⟨0, Nat.zero_le _, rfl, rfl, Below.refl _ _, fun j _ h => by omega⟩
      case round =>
        obtain ⟨q, hq, rfl, rfl, hnx2, hno2⟩ := hrel
        have hsz2 := hnx2.size
        by_cases hlt2 : q < k
        · have hqi : (q : Int) < (k : Int) := by omega
          have q0 : (0 : Int) ≤ (q : Int) := Int.natCast_nonneg _
          have hql : q < l.length := by omega
          obtain ⟨b', o', ho', hb', ha'⟩ := HA.out q hql
          simp only [Option.some.injEq, Addr.mk.injEq, and_true] at ho'
          obtain ⟨rfl, rfl⟩ := ho'
          have hB := (ha'.below X0.out hb').below hnx2 (Nat.lt_of_lt_of_le hb' X0.out.size)
          have d0 := hB.c0
          have d1 := hB.c1
          have d2 := hB.c2
          have d3 := hB.c3
          have d4 := hB.c4
          have hM := PN.out.below hnx2 (by have := HSZ.out; omega)
          have e0 := hM.c0
          generalize hn2 : l[q] = m2 at *
          have HN2 := hide hn2
          have PN2 := mem_new wr m2 37
          have f0 := PN2.c0
          have g0 : (wr.alloc (.cells #[S m2.name, .int .i64 m2.kind, S m2.text, .int .i64 m2.num, .bool m2.flag] 37)).cell? ⟨P, 0, none⟩ = some (S m.name) := by
            rw [← e0]; exact ((Below.refl wr.heap.size wr).alloc (Nat.le_refl _) _).cell (show P < wr.heap.size by have := HSZ.out; omega)
          have X2 := hide (hnx2.alloc hsz2 (.cells #[S m2.name, .int .i64 m2.kind, S m2.text, .int .i64 m2.num, .bool m2.flag] 37))
          clear hnx2 ha' hB hM hn2 PN2
          by_cases heq : m2.name = m.name
          · have hbe : (m2.name == m.name) = true := by rw [heq]; simp
            have HRES : Hid (R = true) := HT.out.2 ⟨k, q, hlt2, hlt, by rw [HN2.out, HM.out]; exact heq⟩
            clear heq
            go_wp2
            go_ret
            exact ⟨by rw [HRES.out]; rfl, X0.out.trans (X2.out.mono X0.out.size)⟩
          · have hbe : (m2.name == m.name) = false := beq_false_of_ne heq
            have HNE := hide heq
            clear heq
            go_wp2
            go_roundw
            case rel => exact ⟨q + 1, by omega, by first | rfl | trivial, by go_num, X2.out, fun j hj h => by
              by_cases hjq : j = q
              · subst hjq; rw [HN2.out]; exact HNE.out
              · exact hno2.out j hj (by omega)⟩
            case measure => simp [intOf] <;> omega
        · have hqi : ¬ (q : Int) < (k : Int) := by omega
          have hqk : q = k := by omega
          have HX2 := hide hnx2
          clear hnx2
          go_wp2
          go_roundw
          case rel => exact ⟨k + 1, by omega, by first | rfl | trivial, by go_num, X0.out.trans (HX2.out.mono X0.out.size), fun i j hj hi h => by
            by_cases hik : i = k
            · subst hik; rw [HM.out]; exact hno2.out j (by omega) (by omega)
            · exact hno.out i j hj hi (by omega)⟩
          case measure => simp [intOf] <;> omega
    · obtain rfl : k = l.length := by omega
      have HRES : Hid (R = false) := by
        show _ = _
        cases R with
        | false => rfl
        | true =>
          obtain ⟨i, j, hj, hi, he⟩ := HT.out.1 rfl
          exact absurd he (hno.out i j hj hi hi)
      have HX := hide hnx
      clear hnx
      go_wp2
      go_ret
      exact ⟨by rw [HRES.out]; rfl, HX.out⟩
end Go.Proofs.YtkkgngmhdlmgnaaDoor.jw
