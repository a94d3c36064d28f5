import Derived.Test.YtjalggkhpnfbiaaDoorBListKit
import Derived.Test.YtjalggkhpnfbiaaDoorBSentAll
import Derived.Test.YtjalggkhpnfbiaaDoorBEscWalks
import Derived.Test.YtjalggkhpnfbiaaDoorBFormWalks
import Derived.Test.YtjalggkhpnfbiaaDoorBRdOnly
namespace Go.Proofs.YtjalggkhpnfbiaaDoor.lst
open Go.ChangeShapes Go.WideShapes Go.ChangeAt Go.RowKit Go.Proofs.YtjalggkhpnfbiaaDoor.common
attribute [local go_sem ↓] Go.wp_at_zero Go.wp_at_succ

abbrev emp : ByteArray := ⟨#[]⟩
/-- what a parameter's pairs give, one pair more -/
def step (n : ByteArray) (a : ByteArray × Nat) (p : PB) : ByteArray × Nat := if p.1 = n ∧ p.2 ≠ emp then (if a.2 = 0 then p.2 else a.1, a.2 + 1) else a
def getOf (l : List PB) (n : ByteArray) : ByteArray × Nat := l.foldl (step n) (emp, 0)
theorem getOf_snoc (l : List PB) (n : ByteArray) (p : PB) : getOf (l ++ [p]) n = step n (getOf l n) p := by unfold getOf; rw [List.foldl_append]; rfl
theorem getOf_le (l : List PB) (n : ByteArray) : (getOf l n).2 ≤ l.length := by
  unfold getOf
  have : ∀ (l : List PB) (a : ByteArray × Nat), (l.foldl (step n) a).2 ≤ a.2 + l.length := by
    intro l
    induction l with
    | nil => intro a; exact Nat.le_refl _
    | cons p r ih =>
      intro a
      have h1 := ih (step n a p)
      have h2 : (step n a p).2 ≤ a.2 + 1 := by unfold step; split <;> simp
      rw [List.foldl_cons, List.length_cons]; omega
  have := this l (emp, 0)
  simpa using this

theorem ba_ext {a b : ByteArray} (h : a.data.toList = b.data.toList) : a = b := by
  apply ByteArray.ext; apply Array.toList_inj.1; exact h
theorem ne_list {a b : ByteArray} (h : a ≠ b) : (a.toList == b.toList) = false := by
  rw [ByteArray.toList_eq, ByteArray.toList_eq]
  exact beq_false_of_ne fun e => h (ba_ext e)

set_option maxRecDepth 100000 in
set_option maxHeartbeats 1600000 in
theorem get_any (v : Value) (l : List PB) (n : ByteArray) (w : World) (hl : Lies w v l) (hs : l.length ≤ 4611686018427387904) :
    Calls Tryd.prog 27 #[v, .string n] w fun e w' => e = .returned (.tuple #[.string (getOf l n).1, .int .i64 ((getOf l n).2 : Int)]) ∧ Below w.heap.size w w' := by
  obtain ⟨oa, ca, rfl, hca⟩ := hl
  have HA := hide hca
  clear hca
  go_enter Tryd.func27, Tryd.ntmps27
  go_wp2_with fail
  go_loopw [6, 7, 12] (fun f c i wr => ∃ k : Nat, k ≤ l.length ∧ i = .int .i64 k ∧ f = .string (getOf (l.take k) n).1 ∧ c = .int .i64 ((getOf (l.take k) n).2 : Int) ∧ Below w.heap.size w wr) (fun _ _ i _ => l.length - (intOf i).toNat)
  case atStart => exact ⟨0, Nat.zero_le _, rfl, rfl, rfl, Below.refl _ _⟩
  case round =>
    obtain ⟨k, hk, rfl, rfl, rfl, hnx⟩ := hrel
    have hsz := hnx.size
    have hle := getOf_le (l.take k) n
    have hle2 : (l.take k).length ≤ k := by rw [List.length_take]; exact Nat.min_le_left _ _
    by_cases hlt : k < l.length
    · have hki : (k : Int) < (l.length : Int) := by omega
      obtain ⟨b, o, rfl, hb, c0, c1⟩ := HA.out k hlt
      have d0 := (hnx.cell (p := ⟨b, o + k * 2, none⟩) hb).trans c0
      have d1 := (hnx.cell (p := ⟨b, o + k * 2 + 1, none⟩) hb).trans c1
      have HSN : Hid (getOf (l.take (k + 1)) n = step n (getOf (l.take k) n) l[k]) := by show _ = _; rw [takeP l k hlt, getOf_snoc]
      have HX := hide hnx
      clear hnx c0 c1
      generalize l[k] = p at *
      obtain ⟨pn, pv⟩ := p
      generalize getOf (l.take k) n = a at *
      obtain ⟨af, ac⟩ := a
      simp only [] at d0 d1 hle ⊢
      have k0 : (0 : Int) ≤ (k : Int) := Int.natCast_nonneg _
      by_cases h1 : pn = n
      · subst h1
        by_cases h2 : pv = emp
        · subst h2
          have HS : Hid (getOf (l.take (k + 1)) pn = (af, ac)) := by show _ = _; rw [HSN.out]; unfold step; rw [if_neg (fun h => h.2 rfl)]
          go_wp2_with fail
          go_roundw
          case rel => exact ⟨k + 1, by omega, by go_num, by rw [HS.out], by rw [HS.out], HX.out.alloc hsz _⟩
          case measure => simp [intOf]; omega
        · have HS : Hid (getOf (l.take (k + 1)) pn = (if ac = 0 then pv else af, ac + 1)) := by show _ = _; rw [HSN.out]; unfold step; rw [if_pos ⟨rfl, h2⟩]
          have hne : (pv.toList == (⟨#[]⟩ : ByteArray).toList) = false := ne_list h2
          have hne2 : ¬ pv.toList = [] := fun e => h2 (ba_ext (by rw [ByteArray.toList_eq] at e; rw [e]))
          have hne3 : (pv.toList == []) = false := beq_false_of_ne hne2
          have hne4 : pv.toList.isEmpty = false := by cases hh : pv.toList with
            | nil => exact absurd hh hne2
            | cons _ _ => rfl
          by_cases h3 : ac = 0
          · subst h3
            rw [if_pos rfl] at HS
            go_wp2_with fail
            go_roundw
            case rel => exact ⟨k + 1, by omega, by go_num, by rw [HS.out], by rw [HS.out]; rfl, HX.out.alloc hsz _⟩
            case measure => simp [intOf]; omega
          · have h3i : ¬ (ac : Int) = 0 := by omega
            rw [if_neg h3] at HS
            go_wp2_with fail
            go_roundw
            case rel => exact ⟨k + 1, by omega, by go_num, by rw [HS.out], by rw [HS.out]; rfl, HX.out.alloc hsz _⟩
            case measure => simp [intOf]; omega
      · have HS : Hid (getOf (l.take (k + 1)) n = (af, ac)) := by show _ = _; rw [HSN.out]; unfold step; rw [if_neg (fun h => h1 h.1)]
        have hne : (pn.toList == n.toList) = false := ne_list h1
        go_wp2_with fail
        go_roundw
        case rel => exact ⟨k + 1, by omega, by go_num, by rw [HS.out], by rw [HS.out], HX.out.alloc hsz _⟩
        case measure => simp [intOf]; omega
    · obtain rfl : k = l.length := by omega
      rw [List.take_length]
      have H2 := hide hnx
      clear hnx
      go_wp2_with fail
      go_ret2
      exact ⟨rfl, H2.out⟩

end Go.Proofs.YtjalggkhpnfbiaaDoor.lst

namespace Go.Proofs.YtjalggkhpnfbiaaDoor.lst
open Go.ChangeShapes Go.WideShapes Go.ChangeAt Go.RowKit Go.Proofs.YtjalggkhpnfbiaaDoor.common
attribute [local go_sem ↓] Go.wp_at_zero Go.wp_at_succ

set_option maxRecDepth 100000 in
set_option maxHeartbeats 1600000 in
theorem same_any (va vb : Value) (l : List PB) (w : World) (ha : Lies w va l) (hb : Lies w vb l) (hs : l.length ≤ 4611686018427387904) :
    Calls Tryd.prog 23 #[va, vb] w fun e w' => e = .returned (.bool true) ∧ Below w.heap.size w w' := by
  obtain ⟨oa, ca, rfl, hca⟩ := ha
  obtain ⟨ob, cb, rfl, hcb⟩ := hb
  have HA := hide hca
  have HB := hide hcb
  clear hca hcb
  go_enter Tryd.func23, Tryd.ntmps23
  go_wp2_with fail
  go_loopw [5] (fun i wr => ∃ k : Nat, k ≤ l.length ∧ i = .int .i64 k ∧ Below w.heap.size w wr) (fun i _ => l.length - (intOf i).toNat)
  case atStart => exact ⟨0, Nat.zero_le _, rfl, Below.refl _ _⟩
  case round =>
    obtain ⟨k, hk, rfl, hnx⟩ := hrel
    by_cases hlt : k < l.length
    · have hki : (k : Int) < (l.length : Int) := by omega
      obtain ⟨b, o, rfl, hb, c0, c1⟩ := HA.out k hlt
      obtain ⟨b', o', rfl, hb', c0', c1'⟩ := HB.out k hlt
      have d0 := (hnx.cell (p := ⟨b, o + k * 2, none⟩) hb).trans c0
      have d1 := (hnx.cell (p := ⟨b, o + k * 2 + 1, none⟩) hb).trans c1
      have d0' := (hnx.cell (p := ⟨b', o' + k * 2, none⟩) hb').trans c0'
      have d1' := (hnx.cell (p := ⟨b', o' + k * 2 + 1, none⟩) hb').trans c1'
      have HX := hide hnx
      clear hnx c0 c1 c0' c1'
      generalize l[k] = p at *
      have k0 : (0 : Int) ≤ (k : Int) := Int.natCast_nonneg _
      go_wp2_with fail
      go_region_held3 (fun W => W.cell? ⟨b, o + k * 2, none⟩ = some (.string p.1) ∧ W.cell? ⟨b, o + k * 2 + 1, none⟩ = some (.string p.2) ∧ W.cell? ⟨b', o' + k * 2, none⟩ = some (.string p.1) ∧ W.cell? ⟨b', o' + k * 2 + 1, none⟩ = some (.string p.2)) (go_keep) (fail)
      all_goals
        go_wp2_with fail
        go_roundw
        case rel => exact ⟨k + 1, by omega, by go_num, HX.out.drew⟩
        case measure => simp [intOf]; omega
    · obtain rfl : k = l.length := by omega
      have H2 := hide hnx
      clear hnx
      go_wp2_with fail
      go_ret
      exact ⟨rfl, H2.out⟩

end Go.Proofs.YtjalggkhpnfbiaaDoor.lst

namespace Go.Proofs.YtjalggkhpnfbiaaDoor.br
open Go.ChangeShapes Go.WideShapes Go.ChangeAt Go.RowKit Go.Proofs.YtjalggkhpnfbiaaDoor.common Go.Maps
open Go.Proofs.YtjalggkhpnfbiaaDoor.lst (PB cl Lies getOf)
open Go.Proofs.YtjalggkhpnfbiaaDoor.pg (Inp LiesI mayB)

theorem map_mk (l : List PB) : (l.map pctw.pr).map pctw.mk = l := by
  rw [List.map_map]
  exact List.map_id l
/-- an input, as Sent's walk has it -/
def si (x : Inp) : sent.Inp := ⟨x.kind, x.name, x.value, x.label⟩
theorem liesI_si {w : World} {v : Value} {xs : List Inp} (h : LiesI w v xs) : sent.LiesI w v (xs.map si) := by
  obtain ⟨oa, cap, hv, hc⟩ := h
  refine ⟨oa, cap, by rw [List.length_map]; exact hv, fun i hi => ?_⟩
  have hi' : i < xs.length := by rwa [List.length_map] at hi
  rw [List.getElem_map]
  exact hc i hi'
/-- the pairs of the inputs, as they stand -/
def pv (xs : List Inp) : List PB := xs.map fun x => (x.name, x.value)
theorem may_is {x : Inp} (h : mayB x = true) : (x.kind = 1 ∨ x.kind = 2 ∨ x.kind = 3 ∨ x.kind = 4) ∧ x.name ≠ ⟨#[]⟩ := by
  have hk := pg.mayB_kind h
  refine ⟨by omega, fun e => ?_⟩
  unfold mayB at h
  rw [e] at h
  simp [pg.emp, ByteArray.toList_eq] at h
theorem one_nil (x : Inp) (h : mayB x = true) : sent.one [] (si x) = [(x.name, x.value)] := by
  obtain ⟨hk, hn⟩ := may_is h
  have h1 : sent.valOf [] (si x) = (x.value, true) := by
    unfold sent.valOf
    show (if x.kind = 1 then (x.value, true) else if x.kind = 2 ∨ x.kind = 3 then ((sent.typedOf [] x.name).getD x.value, true) else if x.kind = 4 then (x.value, sent.cnt [] (x.name, x.value) 0 % 2 == 0) else _) = _
    rcases hk with e | e | e | e
    · rw [if_pos e]
    · rw [if_neg (by omega), if_pos (Or.inl e)]; rfl
    · rw [if_neg (by omega), if_pos (Or.inr e)]; rfl
    · rw [if_neg (by omega), if_neg (by omega), if_pos e]; rfl
  unfold sent.one
  rw [h1, if_pos ⟨rfl, hn⟩]
  rfl
theorem sent_nil : ∀ xs : List Inp, xs.all mayB = true → sent.sentL [] (xs.map si) = pv xs
  | [], _ => rfl
  | x :: r, h => by
    rw [List.all_cons, Bool.and_eq_true] at h
    have h2 := sent_nil r h.2
    unfold sent.sentL at h2 ⊢
    rw [List.map_cons, List.flatMap_cons, one_nil x h.1, h2]
    rfl
/-- how often a name stands in a form -/
def cn (xs : List Inp) (n : ByteArray) : Nat := xs.countP fun x => decide (x.name = n)
theorem one_other (l : List PB) (x : Inp) (n : ByteArray) (h : x.name ≠ n) (a : ByteArray × Nat) : (sent.one l (si x)).foldl (lst.step n) a = a := by
  unfold sent.one
  split
  · show lst.step n a (x.name, _) = a
    unfold lst.step
    rw [if_neg (fun h2 => h h2.1)]
  · rfl
theorem fold_other (l : List PB) (n : ByteArray) : ∀ (xs : List Inp) (a : ByteArray × Nat), cn xs n = 0 → (sent.sentL l (xs.map si)).foldl (lst.step n) a = a
  | [], _, _ => rfl
  | x :: r, a, h => by
    unfold cn at h
    rw [List.countP_eq_zero] at h
    have h1 : x.name ≠ n := by have := h x List.mem_cons_self; simpa using this
    have h2 : cn r n = 0 := by
      unfold cn
      rw [List.countP_eq_zero]
      exact fun y hy => h y (List.mem_cons_of_mem _ hy)
    have h3 := fold_other l n r a h2
    unfold sent.sentL at h3 ⊢
    rw [List.map_cons, List.flatMap_cons, List.foldl_append, one_other l x n h1, h3]
theorem sentL_app (l : List PB) (a b : List sent.Inp) : sent.sentL l (a ++ b) = sent.sentL l a ++ sent.sentL l b := by
  unfold sent.sentL
  rw [List.flatMap_append]
/-- what is hidden comes back -/
theorem get_one (l : List PB) (xs : List Inp) (i : Nat) (hi : i < xs.length) (hm : mayB xs[i] = true) (hk : xs[i].kind = 1) (hv : xs[i].value ≠ ⟨#[]⟩) (hc : cn xs xs[i].name = 1) : getOf (sent.sentL l (xs.map si)) xs[i].name = (xs[i].value, 1) := by
  have hs : xs = xs.take i ++ (xs[i] :: xs.drop (i + 1)) := by
    rw [← List.drop_eq_getElem_cons hi, List.take_append_drop]
  generalize xs[i] = x at *
  generalize xs.take i = A at *
  generalize xs.drop (i + 1) = B at *
  subst hs
  have hcc : cn A x.name = 0 ∧ cn B x.name = 0 := by
    unfold cn at hc ⊢
    rw [List.countP_append, List.countP_cons_of_pos (by simp)] at hc
    omega
  unfold getOf
  rw [List.map_append, List.map_cons, sentL_app, List.foldl_append, fold_other l x.name A _ hcc.1]
  have h1 : sent.sentL l (si x :: B.map si) = sent.one l (si x) ++ sent.sentL l (B.map si) := by unfold sent.sentL; rw [List.flatMap_cons]
  have h2 : sent.one l (si x) = [(x.name, x.value)] := by
    unfold sent.one sent.valOf
    rw [if_pos (show (si x).kind = 1 from hk), if_pos ⟨rfl, (may_is hm).2⟩]
    rfl
  rw [h1, h2, List.foldl_append]
  show (sent.sentL l (B.map si)).foldl (lst.step x.name) (lst.step x.name (lst.emp, 0) (x.name, x.value)) = _
  have h3 : lst.step x.name (lst.emp, 0) (x.name, x.value) = (x.value, 1) := by
    unfold lst.step
    rw [if_pos ⟨rfl, hv⟩, if_pos rfl]
  rw [h3, fold_other l x.name B _ hcc.2]
theorem one_tot (l : List PB) (x : Inp) (M : Nat) (h1 : x.name.size + x.value.size ≤ M) (hl : ∀ k, (l.getD k (⟨#[]⟩, ⟨#[]⟩)).2.size ≤ M) : pctw.tot (sent.one l (si x)) ≤ 2 * M + 1 := by
  have hv : (sent.valOf l (si x)).1.size ≤ M := by
    unfold sent.valOf
    split
    · show x.value.size ≤ M; omega
    · split
      · unfold sent.typedOf
        cases e : sent.lastIx l (si x).name l.length with
        | none => show x.value.size ≤ M; omega
        | some k => exact hl k
      · split
        · show x.value.size ≤ M; omega
        · exact Nat.zero_le _
  unfold sent.one
  split
  · show x.name.size + (sent.valOf l (si x)).1.size + 1 + 0 ≤ _
    omega
  · exact Nat.zero_le _
theorem sent_tot (l : List PB) (M : Nat) (hl : ∀ k, (l.getD k (⟨#[]⟩, ⟨#[]⟩)).2.size ≤ M) : ∀ xs : List Inp, (∀ x ∈ xs, x.name.size + x.value.size ≤ M) → pctw.tot (sent.sentL l (xs.map si)) ≤ xs.length * (2 * M + 1)
  | [], _ => Nat.zero_le _
  | x :: r, h => by
    have h1 := one_tot l x M (h x List.mem_cons_self) hl
    have h2 := sent_tot l M hl r (fun y hy => h y (List.mem_cons_of_mem _ hy))
    unfold sent.sentL at h2 ⊢
    rw [List.map_cons, List.flatMap_cons, pctw.tot_app, List.length_cons, Nat.add_mul]
    omega
theorem sent_len (l : List PB) (xs : List Inp) : (sent.sentL l (xs.map si)).length ≤ xs.length := by
  have := sent.sentL_len l (xs.map si)
  rwa [List.length_map] at this
end Go.Proofs.YtjalggkhpnfbiaaDoor.br
