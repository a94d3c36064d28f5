import Derived.Test.YtocpikgcbibcoaaGreatDoorMPickWalk
import Derived.Test.YtocpikgcbibcoaaGreatDoorMStrBase
namespace Go.Proofs.YtocpikgcbibcoaaGreatDoor.rc
open Go.ChangeShapes Go.WideShapes Go.ChangeAt Go.RowKit Go.Proofs.YtocpikgcbibcoaaGreatDoor.common Go.Proofs.YtocpikgcbibcoaaGreatDoor.dk
attribute [local go_sem ↓] Go.wp_at_zero Go.wp_at_succ

theorem rs_next {K p : Nat} {w : World} {l' : List UInt8} {v v' : Value} (hp : w.heap[p]? = some (.cells #[v, .bool false] 55 (0, 0))) (hK : K ≤ p) (hl : l'.length ≤ 1048576) (hv : Lo K w v' l') : Rs K p (w.setCell ⟨p, 0, none⟩ v') (some l') := by
  refine ⟨hl, v', at_set (j := 0) hp v', hv.keep (fun g hg _ => set_other _ _ _ _ (show g ≠ p by omega)) (by rw [size_set]; exact Nat.le_refl _)⟩
/-- where headNumber stands -/
theorem hn_le {l r : List UInt8} {n : Nat} (h : rdN l = some (n, r)) : hnV l = n ∧ 0 < hnS l ∧ hnS l ≤ l.length ∧ l.drop (hnS l) = r := by
  obtain ⟨h1, h2⟩ := hn_some h
  obtain ⟨h3, _⟩ := rdN_is h
  have h4 := (numF_len 9 n).1
  have h5 : l.length = (numL n).length + r.length := by rw [h3, List.length_append]
  have h6 : 0 < (numL n).length := h4
  refine ⟨h1, by omega, by omega, ?_⟩
  rw [h2, show l.length - r.length = (numL n).length by omega, h3, List.drop_left]
theorem set_back {cs : Array Value} {j : Nat} {u : Value} (h : cs[j]? = some u) : cs.setIfInBounds j u = cs := by
  obtain ⟨h1, h2⟩ := Array.getElem?_eq_some_iff.1 h
  rw [Array.setIfInBounds, dif_pos h1, ← h2, Array.set_getElem_self]
theorem rs_off {K p q : Nat} {w : World} {s : St} (h : Rs K p w s) (hpq : p ≠ q) (hKq : K ≤ q) (j : Nat) (u : Value) : Rs K p (w.setCell ⟨q, j, none⟩ u) s :=
  h.keep (fun g hg _ => set_other _ _ _ _ (show g ≠ q by omega)) (set_other _ _ _ _ hpq) (by rw [size_set]; exact Nat.le_refl _)
/-- how number ends -/
def NumOut (K p q j : Nat) (cs : Array Value) (t : TypeId) (n0 : Nat) (s : St) (w : World) (x : Ending) (w' : World) : Prop :=
  x = .returned (.tuple #[]) ∧ ∃ (n : Nat) (s' : St), NStep s n s' ∧ (s' = none → n = n0) ∧ Rs K p w' s' ∧ w'.heap[q]? = some (.cells (cs.setIfInBounds j (.int .i64 (n : Int))) t (0, 0)) ∧ Fr [p, q] w w'

set_option maxRecDepth 100000 in
set_option maxHeartbeats 6400000 in
theorem number_none (K p q j : Nat) (cs : Array Value) (t : TypeId) (n0 : Nat) (s : St) (v : Value) (l : List UInt8) (f : Bool) (w : World) (hp : w.heap[p]? = some (.cells #[v, .bool f] 55 (0, 0))) (hv : Lo K w v l) (hl : l.length ≤ 1048576) (hN : rdN l = none) (hS : NStep s n0 none)
    (hq : w.heap[q]? = some (.cells cs t (0, 0))) (hj : cs[j]? = some (.int .i64 (n0 : Int))) (hpq : p ≠ q) :
    Calls Tryz.prog 23 #[.pointer (some ⟨p, 0, none⟩), .pointer (some ⟨q, j, none⟩)] w (NumOut K p q j cs t n0 s w) := by
  obtain ⟨oa, cap, rfl, hcap, _⟩ := id hv
  have c0 : w.cell? ⟨p, 0, none⟩ = some (.slice oa l.length cap) := cell_of hp 0
  have HH := hide (headNumber_any l _ w hv.rd (by omega))
  rw [(hn_none hN).1, (hn_none hN).2] at HH
  have HF := hide (fail_any K p oa l.length cap f w hp)
  have HQ := hide hq
  have HJ := hide (set_back hj)
  clear hp hv hN hq hj
  unfold NumOut
  go_enter Tryz.func23, Tryz.ntmps23
  go_wp2_with fail
  refine HH.out.mono ?_
  rintro x w1 ⟨rfl, h1⟩
  obtain rfl := h1.symm
  go_wp2_with fail
  refine HF.out.mono ?_
  rintro x w2 ⟨rfl, hR, hfr⟩
  have HR := hide hR
  have HFR := hide hfr
  clear hR hfr
  go_wp2_with fail
  first | go_end0 | refine bodyPost_ret (results_none rfl _ _ _) rfl ?_ | refine bodyPost_end (results_none rfl _ _ _) rfl ?_
  refine ⟨rfl, n0, none, hS, fun _ => rfl, HR.out, ?_, HFR.out.mono (fun k hk => by rw [List.mem_singleton.1 hk]; exact List.mem_cons_self ..)⟩
  rw [HJ.out, ← HQ.out]
  exact HFR.out.block q (Array.getElem?_eq_some_iff.1 HQ.out).1 (fun hm => hpq (List.mem_singleton.1 hm).symm)

set_option maxRecDepth 100000 in
set_option maxHeartbeats 6400000 in
theorem number_some (K p q j : Nat) (cs : Array Value) (t : TypeId) (n0 n : Nat) (l r : List UInt8) (v : Value) (w : World) (hp : w.heap[p]? = some (.cells #[v, .bool false] 55 (0, 0))) (hv : Lo K w v l) (hl : l.length ≤ 1048576) (hN : rdN l = some (n, r))
    (hq : w.heap[q]? = some (.cells cs t (0, 0))) (hj : cs[j]? = some (.int .i64 (n0 : Int))) (hpq : p ≠ q) (hKp : K ≤ p) (hKq : K ≤ q) :
    Calls Tryz.prog 23 #[.pointer (some ⟨p, 0, none⟩), .pointer (some ⟨q, j, none⟩)] w (NumOut K p q j cs t n0 (some l) w) := by
  obtain ⟨oa, cap, rfl, hcap, _⟩ := id hv
  have c0 : w.cell? ⟨p, 0, none⟩ = some (.slice oa l.length cap) := cell_of hp 0
  have f0 : w.frozen? ⟨p, 0, none⟩ = false := free_of hp 0
  obtain ⟨e1, e2, e3, e4⟩ := hn_le hN
  have HH := hide (headNumber_any l _ w hv.rd (by omega))
  rw [e1] at HH
  have HST := hide (nstep_some hN)
  have hrl : r.length ≤ l.length := by rw [← e4, List.length_drop]; omega
  obtain ⟨z, hz⟩ : ∃ z, z = hnS l := ⟨_, rfl⟩
  rw [← hz] at HH e2 e3 e4
  have HNX : Hid (∀ oa', (∀ g o, oa = some ⟨g, o, none⟩ → ¬ cap = z → oa' = some ⟨g, o + z, none⟩) → Rs K p (w.setCell ⟨p, 0, none⟩ (.slice oa' (l.length - z) (cap - z))) (some r)) := fun oa' ho => by
    have h1 := hv.from z e3 oa' ho
    rw [e4] at h1
    exact rs_next hp hKp (by omega) h1
  have HQ : Hid (∀ u : Value, (w.setCell ⟨p, 0, none⟩ u).heap[q]? = some (.cells cs t (0, 0))) := fun u => (set_other _ _ _ _ (show q ≠ p from fun e => hpq e.symm)).trans hq
  have cq : ∀ u : Value, (w.setCell ⟨p, 0, none⟩ u).cell? ⟨q, j, none⟩ = some (.int .i64 (n0 : Int)) := fun u => (cell_of (HQ.out u) j).trans hj
  have fq : ∀ u : Value, (w.setCell ⟨p, 0, none⟩ u).frozen? ⟨q, j, none⟩ = false := fun u => free_of (HQ.out u) j
  have k0 : ¬ (z : Int) = 0 := by omega
  have k0b : ((z : Int) == 0) = false := beq_false_of_ne k0
  have z0 : (0 : Int) ≤ (z : Int) := Int.natCast_nonneg _
  have z1 : (z : Int) ≤ (l.length : Int) := by omega
  have z2 : (l.length : Int) ≤ (cap : Int) := by omega
  clear hp hv hN hq hj e1 e4 hz
  unfold NumOut
  by_cases hce : cap = z
  · subst hce
    have hcc : cap - cap = 0 := Nat.sub_self _
    have hlc : l.length - cap = 0 := by omega
    have HN1 := hide (HNX.out oa (fun g o _ h => absurd rfl h))
    rw [hcc, hlc] at HN1
    have cq1 := cq (.slice oa 0 0)
    have fq1 := fq (.slice oa 0 0)
    clear HNX cq fq
    go_enter Tryz.func23, Tryz.ntmps23
    go_wp2_with fail
    refine HH.out.mono ?_
    rintro x w1 ⟨rfl, h1⟩
    obtain rfl := h1.symm
    go_wp2_with fail
    first | go_end0 | refine bodyPost_end (results_none rfl _ _ _) rfl ?_
    exact ⟨rfl, n, some r, HST.out, fun h => (by cases h), rs_off HN1.out hpq hKq j _, at_set (HQ.out _) _, fr_set (fr_set (Fr.refl _ _) p 0 _ (List.mem_cons_self ..)) q j _ (List.mem_cons_of_mem _ (List.mem_singleton.2 rfl))⟩
  · have hce' : ¬ cap - z = 0 := by omega
    have HN1 := hide (HNX.out (Option.map (fun x : Addr => x.add z) oa) (fun g o h _ => by rw [h]; show some (Addr.add _ _) = _; rw [Addr.add_mid]))
    have cq1 := cq (.slice (Option.map (fun x : Addr => x.add z) oa) (l.length - z) (cap - z))
    have fq1 := fq (.slice (Option.map (fun x : Addr => x.add z) oa) (l.length - z) (cap - z))
    clear HNX cq fq hce
    go_enter Tryz.func23, Tryz.ntmps23
    go_wp2_with fail
    refine HH.out.mono ?_
    rintro x w1 ⟨rfl, h1⟩
    obtain rfl := h1.symm
    go_wp2_with fail
    first | go_end0 | refine bodyPost_end (results_none rfl _ _ _) rfl ?_
    exact ⟨rfl, n, some r, HST.out, fun h => (by cases h), rs_off HN1.out hpq hKq j _, at_set (HQ.out _) _, fr_set (fr_set (Fr.refl _ _) p 0 _ (List.mem_cons_self ..)) q j _ (List.mem_cons_of_mem _ (List.mem_singleton.2 rfl))⟩

theorem number_any (K p q j : Nat) (cs : Array Value) (t : TypeId) (n0 : Nat) (s : St) (w : World) (hr : Rs K p w s) (hq : w.heap[q]? = some (.cells cs t (0, 0))) (hj : cs[j]? = some (.int .i64 (n0 : Int))) (hpq : p ≠ q) (hKp : K ≤ p) (hKq : K ≤ q) :
    Calls Tryz.prog 23 #[.pointer (some ⟨p, 0, none⟩), .pointer (some ⟨q, j, none⟩)] w (NumOut K p q j cs t n0 s w) := by
  cases s with
  | none => exact number_none K p q j cs t n0 none _ [] true w hr (lo_nil K w) (by simp) rdN_nil (step_none _ _ _) hq hj hpq
  | some l =>
    obtain ⟨hl, v, hp, hv⟩ := hr
    cases hN : rdN l with
    | none => exact number_none K p q j cs t n0 _ v l false w hp hv hl hN (nstep_fail hN n0) hq hj hpq
    | some x =>
      obtain ⟨n, r⟩ := x
      exact number_some K p q j cs t n0 n l r v w hp hv hl hN hq hj hpq hKp hKq

/-- what is taken, what is left -/
def tkS (k : Nat) : St → List UInt8 × St
  | none => ([], none)
  | some l => if k ≤ l.length then (l.take k, some (l.drop k)) else ([], none)
def TakeOut (K p k : Nat) (s : St) (w : World) (x : Ending) (w' : World) : Prop := ∃ v', x = .returned v' ∧ Lo K w' v' (tkS k s).1 ∧ Rs K p w' (tkS k s).2 ∧ Fr [p] w w'

set_option maxRecDepth 100000 in
set_option maxHeartbeats 6400000 in
theorem take_over (K p k : Nat) (oa : Option Addr) (n cap : Nat) (f : Bool) (w : World) (hp : w.heap[p]? = some (.cells #[.slice oa n cap, .bool f] 55 (0, 0))) (hk : n < k) :
    Calls Tryz.prog 40 #[.pointer (some ⟨p, 0, none⟩), .int .i64 (k : Int)] w fun x w' => x = .returned (.slice none 0 0) ∧ Rs K p w' none ∧ Fr [p] w w' := by
  have c0 : w.cell? ⟨p, 0, none⟩ = some (.slice oa n cap) := cell_of hp 0
  have HF := hide (fail_any K p oa n cap f w hp)
  have k1 : (n : Int) < (k : Int) := by omega
  clear hp
  go_enter Tryz.func40, Tryz.ntmps40
  go_wp2_with fail
  refine HF.out.mono ?_
  rintro x w2 ⟨rfl, hR, hfr⟩
  have HR := hide hR
  have HFR := hide hfr
  clear hR hfr
  go_wp2_with fail
  go_ret
  exact ⟨rfl, HR.out, HFR.out⟩

def FitOut (p k : Nat) (oa : Option Addr) (n cap : Nat) (w w' : World) : Prop := ∃ oa', (cap = k → oa' = oa) ∧ (∀ g o, oa = some ⟨g, o, none⟩ → ¬ cap = k → oa' = some ⟨g, o + k, none⟩) ∧ w' = w.setCell ⟨p, 0, none⟩ (.slice oa' (n - k) (cap - k))
set_option maxRecDepth 100000 in
set_option maxHeartbeats 6400000 in
theorem take_fit (p k : Nat) (oa : Option Addr) (n cap : Nat) (f : Bool) (w : World) (hp : w.heap[p]? = some (.cells #[.slice oa n cap, .bool f] 55 (0, 0))) (hk : k ≤ n) (hc : n ≤ cap) :
    Calls Tryz.prog 40 #[.pointer (some ⟨p, 0, none⟩), .int .i64 (k : Int)] w fun x w' => x = .returned (.slice oa k cap) ∧ FitOut p k oa n cap w w' := by
  have c0 : w.cell? ⟨p, 0, none⟩ = some (.slice oa n cap) := cell_of hp 0
  have f0 : w.frozen? ⟨p, 0, none⟩ = false := free_of hp 0
  have k1 : ¬ (n : Int) < (k : Int) := by omega
  have z0 : (0 : Int) ≤ (k : Int) := Int.natCast_nonneg _
  have z1 : (k : Int) ≤ (n : Int) := by omega
  have z2 : (n : Int) ≤ (cap : Int) := by omega
  have z3 : (k : Int) ≤ (cap : Int) := by omega
  clear hp
  by_cases hce : cap = k
  · subst hce
    have hcc : cap - cap = 0 := Nat.sub_self _
    have HLC : Hid (n - cap = 0) := by show _ = _; omega
    have hlc := HLC.out
    go_enter Tryz.func40, Tryz.ntmps40
    go_wp2_with fail
    go_ret
    exact ⟨rfl, oa, fun _ => rfl, fun _ _ _ h => absurd rfl h, by rw [HLC.out, Nat.sub_self]⟩
  · have hce' : ¬ cap - k = 0 := by omega
    have HNE := hide hce
    clear hce
    go_enter Tryz.func40, Tryz.ntmps40
    go_wp2_with fail
    go_ret
    exact ⟨rfl, Option.map (fun x : Addr => x.add k) oa, fun h => absurd h HNE.out, fun g o h _ => by rw [h]; show some (Addr.add _ _) = _; rw [Addr.add_mid], rfl⟩

theorem take_any (K p k : Nat) (s : St) (w : World) (hr : Rs K p w s) (hKp : K ≤ p) :
    Calls Tryz.prog 40 #[.pointer (some ⟨p, 0, none⟩), .int .i64 (k : Int)] w (TakeOut K p k s w) := by
  have hset : ∀ u, Fr [p] w (w.setCell ⟨p, 0, none⟩ u) := fun u => fr_set (Fr.refl _ _) p 0 u (List.mem_singleton.2 rfl)
  cases s with
  | none =>
    have hp : w.heap[p]? = some (.cells #[.slice none 0 0, .bool true] 55 (0, 0)) := hr
    by_cases hk : 0 < k
    · refine (take_over K p k none 0 0 true w hp hk).mono ?_
      rintro x w' ⟨rfl, hR, hF⟩
      exact ⟨_, rfl, lo_nil K w', hR, hF⟩
    · obtain rfl : k = 0 := by omega
      refine (take_fit p 0 none 0 0 true w hp (Nat.le_refl _) (Nat.le_refl _)).mono ?_
      rintro x w' ⟨rfl, oa', h1, _, rfl⟩
      rw [h1 rfl]
      exact ⟨_, rfl, lo_nil K _, at_set (j := 0) hp (.slice none 0 0), hset _⟩
  | some l =>
    obtain ⟨hl, v, hp, hv⟩ := hr
    obtain ⟨oa, cap, rfl, hc, _⟩ := id hv
    by_cases hk : k ≤ l.length
    · refine (take_fit p k oa l.length cap false w hp hk hc).mono ?_
      rintro x w' ⟨rfl, oa', _, h2, rfl⟩
      have hlo : ∀ u v' l', Lo K w v' l' → Lo K (w.setCell ⟨p, 0, none⟩ u) v' l' := fun u v' l' h => h.fr (hset u) (fun k hk => by rw [List.mem_singleton.1 hk]; exact hKp)
      have e : tkS k (some l) = (l.take k, some (l.drop k)) := if_pos hk
      refine ⟨_, rfl, ?_, ?_, hset _⟩
      · rw [e]; exact hlo _ _ _ (hv.upto k hk)
      · rw [e]; exact rs_next hp hKp (by rw [List.length_drop]; omega) (hv.from k hk oa' h2)
    · refine (take_over K p k oa l.length cap false w hp (by omega)).mono ?_
      rintro x w' ⟨rfl, hR, hF⟩
      have e : tkS k (some l) = ([], none) := if_neg hk
      exact ⟨_, rfl, by rw [e]; exact lo_nil K w', by rw [e]; exact hR, hF⟩
end Go.Proofs.YtocpikgcbibcoaaGreatDoor.rc

namespace Go.Proofs.YtocpikgcbibcoaaGreatDoor.rc
open Go.ChangeShapes Go.WideShapes Go.ChangeAt Go.RowKit Go.Proofs.YtocpikgcbibcoaaGreatDoor.common Go.Proofs.YtocpikgcbibcoaaGreatDoor.dk
attribute [local go_sem ↓] Go.wp_at_zero Go.wp_at_succ

theorem ba_len (l : List UInt8) : (⟨l.toArray⟩ : ByteArray).size = l.length := by show l.toArray.size = _; simp
theorem tk_step {s s1 : St} {n : Nat} (h : NStep s n s1) (h0 : s1 = none → n = 0) : TStep s ⟨(tkS n s1).1.toArray⟩ (tkS n s1).2 := by
  cases s1 with
  | none =>
    refine ⟨Or.inl rfl, fun y l hy e => ?_⟩
    unfold txL at e
    rw [List.append_assoc] at e
    have := (h.on y.size _ hy e).2
    cases this
  | some r =>
    rcases h.back with h1 | ⟨l, h1, h2⟩
    · cases h1
    · cases h2
      by_cases hn : n ≤ r.length
      · rw [show tkS n (some r) = (r.take n, some (r.drop n)) from if_pos hn]
        refine ⟨Or.inr ⟨r.drop n, ?_, rfl⟩, fun y l hy e => ?_⟩
        · rw [h1]
          unfold txL
          rw [ba_len, List.length_take, Nat.min_eq_left hn]
          simp
        · unfold txL at e
          rw [List.append_assoc] at e
          obtain ⟨a1, a2⟩ := h.on y.size _ hy e
          cases a2
          have hl : y.data.toList.length = y.size := by simp
          rw [a1, ← hl, List.take_left, List.drop_left]
          exact ⟨rfl, rfl⟩
      · rw [show tkS n (some r) = ([], none) from if_neg hn]
        refine ⟨Or.inl rfl, fun y l hy e => ?_⟩
        unfold txL at e
        rw [List.append_assoc] at e
        obtain ⟨a1, a2⟩ := h.on y.size _ hy e
        cases a2
        have hl : y.data.toList.length = y.size := by simp
        rw [a1, List.length_append] at hn
        omega
theorem tk_len {K p n : Nat} {w : World} {s : St} (h : Rs K p w s) : (tkS n s).1.length ≤ 1048576 := by
  cases s with
  | none => exact Nat.zero_le _
  | some l =>
    have hl := h.1
    by_cases hn : n ≤ l.length
    · rw [show tkS n (some l) = (l.take n, some (l.drop n)) from if_pos hn, List.length_take]; omega
    · rw [show tkS n (some l) = ([], none) from if_neg hn]; simp
/-- bytes that lie below K: how long they may be -/
def PieceOut (K p : Nat) (s : St) (w : World) (x : Ending) (w' : World) : Prop := ∃ v' l s', x = .returned v' ∧ Lo K w' v' l ∧ Rs K p w' s' ∧ TStep s ⟨l.toArray⟩ s' ∧ l.length ≤ 1048576 ∧ Fr [p] w w'
theorem lt_ne {p : Nat} {w : World} (h : p < w.heap.size) : p ≠ w.heap.size := by omega

set_option maxRecDepth 100000 in
set_option maxHeartbeats 6400000 in
theorem piece_any (K p : Nat) (s : St) (w : World) (hr : Rs K p w s) (hKp : K ≤ p) :
    Calls Tryz.prog 24 #[.pointer (some ⟨p, 0, none⟩)] w (PieceOut K p s w) := by
  obtain ⟨W, hW⟩ : ∃ W, W = w.alloc (.cells #[.int .i64 0] 3) := ⟨_, rfl⟩
  have hlt := hr.lt
  have hfr : Fr [p] w W := by rw [hW]; exact ⟨rfl, rfl, rfl, by simp, fun k hk _ => Below.heap_alloc w _ k hk⟩
  have hrW : Rs K p W s := hr.keep (fun g _ hs => by rw [hW]; exact Below.heap_alloc w _ g hs) (by rw [hW]; exact Below.heap_alloc w _ p hlt) hfr.size
  have hq : W.heap[w.heap.size]? = some (.cells #[.int .i64 0] 3 (0, 0)) := by rw [hW]; exact heap_alloc_new w _
  have HN := hide (number_any K p w.heap.size 0 #[.int .i64 0] 3 0 s W hrW hq rfl (lt_ne hlt) hKp (by omega))
  have HF := hide hfr
  have HW := hide hW
  clear hr hfr hrW hq hW
  unfold PieceOut
  go_enter Tryz.func24, Tryz.ntmps24
  go_wp2_with fail
  rw [← HW.out]
  refine HN.out.mono ?_
  rintro x w1 ⟨rfl, n, s1, hst, h0, hR, hc, hF1⟩
  have c0 : w1.cell? ⟨w.heap.size, 0, none⟩ = some (.int .i64 (n : Int)) := cell_of hc 0
  have HT := hide (take_any K p n s1 w1 hR hKp)
  have HST := hide (tk_step hst h0)
  have HTL : Hid ((tkS n s1).1.length ≤ 1048576) := tk_len hR
  have HF1 := hide hF1
  clear hst h0 hR hc hF1
  go_wp2_with fail
  refine HT.out.mono ?_
  rintro x w2 ⟨v', rfl, hlo, hR2, hF2⟩
  have HL := hide hlo
  have HR := hide hR2
  have HF2 : Hid (Fr [p] w w2) := by
    refine (HF.out.trans HF1.out (fun i hi => ?_)).trans hF2 (fun i hi => Or.inl hi)
    rcases List.mem_cons.1 hi with rfl | h
    · exact Or.inl (List.mem_singleton.2 rfl)
    · exact Or.inr (Nat.le_of_eq (List.mem_singleton.1 h).symm)
  clear hlo hR2 hF2
  go_wp2_with fail
  go_ret
  exact ⟨_, _, _, rfl, HL.out, HR.out, HST.out, HTL.out, HF2.out⟩

/-- how text ends -/
def TextOut (K p q j : Nat) (cs : Array Value) (t : TypeId) (s : St) (w : World) (x : Ending) (w' : World) : Prop :=
  x = .returned (.tuple #[]) ∧ ∃ (y : ByteArray) (s' : St), TStep s y s' ∧ y.size ≤ 1048576 ∧ Rs K p w' s' ∧ w'.heap[q]? = some (.cells (cs.setIfInBounds j (.string y)) t (0, 0)) ∧ Fr [p, q] w w'
set_option maxRecDepth 100000 in
set_option maxHeartbeats 6400000 in
theorem rtext_any (K p q j : Nat) (cs : Array Value) (t : TypeId) (u : ByteArray) (s : St) (w : World) (hr : Rs K p w s) (hq : w.heap[q]? = some (.cells cs t (0, 0))) (hj : cs[j]? = some (.string u)) (hpq : p ≠ q) (hKp : K ≤ p) (hKq : K ≤ q) :
    Calls Tryz.prog 211 #[.pointer (some ⟨p, 0, none⟩), .pointer (some ⟨q, j, none⟩)] w (TextOut K p q j cs t s w) := by
  have HP := hide (piece_any K p s w hr hKp)
  have HQ := hide hq
  clear hr hq
  unfold TextOut
  go_enter Tryz.func211, Tryz.ntmps211
  go_wp2_with fail
  refine HP.out.mono ?_
  rintro x w1 ⟨v', l, s', rfl, hlo, hR, hst, hll, hF⟩
  have hcv := conv_rd hlo.rd
  obtain ⟨oa, c, rfl⟩ := Rd.len hlo.rd
  have hq1 : w1.heap[q]? = some (.cells cs t (0, 0)) := (hF.block q (Array.getElem?_eq_some_iff.1 HQ.out).1 (fun hm => hpq (List.mem_singleton.1 hm).symm)).trans HQ.out
  have c0 : w1.cell? ⟨q, j, none⟩ = some (.string u) := (cell_of hq1 j).trans hj
  have f0 : w1.frozen? ⟨q, j, none⟩ = false := free_of hq1 j
  have HY : Hid ((⟨l.toArray⟩ : ByteArray).size ≤ 1048576) := by show _ ≤ _; rw [ba_len]; exact hll
  have HST := hide hst
  have HR := hide hR
  have HF := hide hF
  have HQ1 := hide hq1
  generalize (⟨l.toArray⟩ : ByteArray) = y at *
  clear hlo hR hst hF hq1 hll
  go_wp2_with fail
  first | go_end0 | refine bodyPost_end (results_none rfl _ _ _) rfl ?_
  exact ⟨rfl, y, s', HST.out, HY.out, rs_off HR.out hpq hKq j _, at_set HQ1.out _, fr_set (HF.out.mono (fun k hk => by rw [List.mem_singleton.1 hk]; exact List.mem_cons_self ..)) q j _ (List.mem_cons_of_mem _ (List.mem_singleton.2 rfl))⟩
end Go.Proofs.YtocpikgcbibcoaaGreatDoor.rc

namespace Go.Proofs.YtocpikgcbibcoaaGreatDoor.rc
open Go.ChangeShapes Go.WideShapes Go.ChangeAt Go.RowKit Go.Proofs.YtocpikgcbibcoaaGreatDoor.common Go.Proofs.YtocpikgcbibcoaaGreatDoor.dk
attribute [local go_sem ↓] Go.wp_at_zero Go.wp_at_succ

theorem lstep_from {s s1 s2 : St} {n : Nat} {x : List ByteArray} (h : NStep s n s1) (hl : x.length = n) (hx : TsStep n s1 x s2) : LStep s x s2 := by
  refine ⟨?_, fun y t hy e => ?_⟩
  · rcases hx.back with h0 | ⟨r', h2, h3⟩
    · exact Or.inl h0
    · rcases h.back with h0 | ⟨r, h4, h5⟩
      · rw [h0] at h2; cases h2
      · rw [h5] at h2
        cases h2
        exact Or.inr ⟨r', by rw [h4]; unfold lsL; rw [hl, List.append_assoc], h3⟩
  · unfold lsL at e
    rw [List.append_assoc] at e
    obtain ⟨a1, a2⟩ := h.on y.length _ (by have := hy.1; omega) e
    exact hx.on y t ⟨a1.symm, hy.2⟩ a2
theorem lstep_over {s s1 : St} {n : Nat} (h : NStep s n s1) (hn : 16 < n) (x : List ByteArray) : LStep s x none := by
  refine ⟨Or.inl rfl, fun y t hy e => ?_⟩
  unfold lsL at e
  rw [List.append_assoc] at e
  have a1 := (h.on y.length _ (by have := hy.1; omega) e).1
  have := hy.1
  omega
abbrev eS : Value := .string ⟨#[]⟩
/-- texts that are read so far, the rest empty -/
def txA (n : Nat) (xs : List ByteArray) : Array Value := (xs.map Value.string ++ List.replicate (n - xs.length) eS).toArray
theorem txA_get (n : Nat) (xs : List ByteArray) (h : xs.length < n) : (txA n xs)[xs.length]? = some eS := by
  unfold txA
  rw [List.getElem?_toArray, List.getElem?_append_right (by rw [List.length_map]; exact Nat.le_refl _), List.length_map, Nat.sub_self, List.getElem?_replicate, if_pos (by omega)]
theorem txA_set (n : Nat) (xs : List ByteArray) (y : ByteArray) (h : xs.length < n) : (txA n xs).setIfInBounds xs.length (.string y) = txA n (xs ++ [y]) := by
  unfold txA
  have e : n - xs.length = (n - (xs ++ [y]).length) + 1 := by simp; omega
  rw [e, List.replicate_succ]
  simp only [List.setIfInBounds_toArray]
  congr 1
  rw [List.set_append_right _ _ (by simp)]
  simp
theorem txA_full (xs : List ByteArray) : txA xs.length xs = (xs.map Value.string).toArray := by unfold txA; rw [Nat.sub_self]; simp
theorem made_strs (n : Nat) : madeCells #[eS] n = txA n [] := by
  have h : (madeCells #[eS] n).toList = List.replicate n eS := by
    unfold madeCells
    apply List.ext_getElem
    · simp
    · intro i h1 h2
      simp [Nat.mod_one]
  unfold txA
  rw [List.map_nil, List.nil_append, List.length_nil, Nat.sub_zero, ← h]
/-- how list ends -/
def ListOut (K p q j : Nat) (cs : Array Value) (t : TypeId) (s : St) (w : World) (x : Ending) (w' : World) : Prop :=
  x = .returned (.tuple #[]) ∧ ∃ (xs : List ByteArray) (v' : Value) (s' : St), LStep s xs s' ∧ (xs.length ≤ 16 ∧ ∀ y ∈ xs, y.size ≤ 1048576) ∧ Rs K p w' s' ∧ w'.heap[q]? = some (.cells (cs.setIfInBounds j v') t (0, 0)) ∧ w'.ownsRow w.heap.size 9 1 v' xs.length (xs.map Value.string) ∧ Fr [p, q] w w'
theorem infoSt : (Tryz.prog.info? 9).map (fun i => (i.zero, i.size, i.bytes)) = some (some (.string ⟨#[]⟩), 1, 16) := by kernel_rfl
set_option maxRecDepth 100000 in
set_option maxHeartbeats 6400000 in
theorem rlist_any (K p q j : Nat) (cs : Array Value) (t : TypeId) (s : St) (w : World) (hr : Rs K p w s) (hq : w.heap[q]? = some (.cells cs t (0, 0))) (hj : cs[j]? = some (.slice none 0 0)) (hpq : p ≠ q) (hKp : K ≤ p) (hKq : K ≤ q) :
    Calls Tryz.prog 210 #[.pointer (some ⟨p, 0, none⟩), .pointer (some ⟨q, j, none⟩)] w (ListOut K p q j cs t s w) := by
  obtain ⟨i0, hi, hz0, hz1, hz2⟩ := info_parts infoSt
  obtain ⟨W, hW⟩ : ∃ W, W = w.alloc (.cells #[.int .i64 0] 3) := ⟨_, rfl⟩
  have hlt := hr.lt
  have hqlt := (Array.getElem?_eq_some_iff.1 hq).1
  have hfr : Fr [p] w W := by rw [hW]; exact ⟨rfl, rfl, rfl, by simp, fun k hk _ => Below.heap_alloc w _ k hk⟩
  have hrW : Rs K p W s := hr.keep (fun g _ hs => by rw [hW]; exact Below.heap_alloc w _ g hs) (by rw [hW]; exact Below.heap_alloc w _ p hlt) hfr.size
  have hc : W.heap[w.heap.size]? = some (.cells #[.int .i64 0] 3 (0, 0)) := by rw [hW]; exact heap_alloc_new w _
  have HN := hide (number_any K p w.heap.size 0 #[.int .i64 0] 3 0 s W hrW hc rfl (lt_ne hlt) hKp (by omega))
  have HF := hide hfr
  have HQ := hide hq
  have HW := hide hW
  have HQL : Hid (q < w.heap.size) := hqlt
  have HPL : Hid (p < w.heap.size) := hlt
  clear hr hfr hrW hc hW hq hlt hqlt
  unfold ListOut
  go_enter Tryz.func210, Tryz.ntmps210
  go_wp2_with fail
  rw [← HW.out]
  refine HN.out.mono ?_
  rintro x w1 ⟨rfl, n, s1, hst, -, hR, hc, hF1⟩
  have c0 : w1.cell? ⟨w.heap.size, 0, none⟩ = some (.int .i64 (n : Int)) := cell_of hc 0
  have HF1 : Hid (Fr [p] w w1) := HF.out.trans hF1 (fun i hi => by
    rcases List.mem_cons.1 hi with rfl | h
    · exact Or.inl (List.mem_singleton.2 rfl)
    · exact Or.inr (Nat.le_of_eq (List.mem_singleton.1 h).symm))
  have HST := hide hst
  have HR := hide hR
  clear hst hR hc hF1 HN
  have HQ1 : Hid (w1.heap[q]? = some (.cells cs t (0, 0))) := (HF1.out.block q HQL.out (fun hm => hpq (List.mem_singleton.1 hm).symm)).trans HQ.out
  by_cases hn : 16 < n
  · have k1 : (16 : Int) < (n : Int) := by omega
    obtain ⟨oa, m, c, f, hp⟩ := HR.out.form
    have HFA := hide (fail_any K p oa m c f w1 hp)
    clear hp
    go_wp2_with fail
    refine HFA.out.mono ?_
    rintro x w2 ⟨rfl, hR2, hF2⟩
    have HR2 := hide hR2
    have HF2 := hide hF2
    clear hR2 hF2
    go_wp2_with fail
    first | go_end0 | refine bodyPost_ret (results_none rfl _ _ _) rfl ?_ | refine bodyPost_end (results_none rfl _ _ _) rfl ?_
    refine ⟨rfl, [], .slice none 0 0, none, lstep_over HST.out hn [], ⟨Nat.zero_le _, (fun y hy => by cases hy)⟩, HR2.out, ?_, World.ownsRow_nil _ _ _ _, (HF1.out.trans HF2.out (fun i hi => Or.inl hi)).mono (fun k hk => by rw [List.mem_singleton.1 hk]; exact List.mem_cons_self ..)⟩
    rw [set_back hj]
    exact (HF2.out.block q (Array.getElem?_eq_some_iff.1 HQ1.out).1 (fun hm => hpq (List.mem_singleton.1 hm).symm)).trans HQ1.out
  · have k1 : ¬ (16 : Int) < (n : Int) := by omega
    have n0 : (0 : Int) ≤ (n : Int) := Int.natCast_nonneg _
    obtain ⟨X, hX⟩ : ∃ X, X = w1.alloc (.cells (madeCells #[eS] n) 9) := ⟨_, rfl⟩
    have hg : X.heap[w1.heap.size]? = some (.cells (txA n []) 9 (0, 0)) := by rw [hX, made_strs]; exact heap_alloc_new w1 _
    have hFX : Fr [p] w1 X := by rw [hX]; exact ⟨rfl, rfl, rfl, by simp, fun k hk _ => Below.heap_alloc w1 _ k hk⟩
    have HRX : Hid (Rs K p X s1) := HR.out.keep (fun g _ hs => by rw [hX]; exact Below.heap_alloc w1 _ g hs) (by rw [hX]; exact Below.heap_alloc w1 _ p HR.out.lt) hFX.size
    have HG := hide hg
    have HFX : Hid (Fr [p] w X) := HF1.out.trans hFX (fun i hi => Or.inl hi)
    have HX := hide hX
    have hw1 : w.heap.size ≤ w1.heap.size := HF1.out.size
    clear hg hFX hX
    go_wp2_with (refine wpList_make_row _ rfl _ _ 24 rfl 9 i0 eS Tryz.underlying24 hi hz0 hz1 rfl .i64 .i64 n ?c1 ?c2 ?c3 ?c4 ?_)
    case c1 => rfl
    case c2 => rfl
    case c3 => rw [hz2]; omega
    case c4 => omega
    rw [← HX.out]
    go_wp2_with fail
    go_loopw [17] (fun i wr => ∃ (xs : List ByteArray) (s' : St), xs.length ≤ n ∧ i = .int .i64 (xs.length : Int) ∧ TsStep xs.length s1 xs s' ∧ (∀ y ∈ xs, y.size ≤ 1048576) ∧ Rs K p wr s' ∧ wr.heap[w1.heap.size]? = some (.cells (txA n xs) 9 (0, 0)) ∧ Fr [p] w wr) (fun i _ => n - (intOf i).toNat)
    case atStart => exact ⟨[], s1, Nat.zero_le _, rfl, tsstep_nil s1, (fun y hy => by cases hy), HRX.out, HG.out, HFX.out⟩
    case round =>
      obtain ⟨xs, s', hxn, rfl, hts, hall, hRr, hgr, hFr⟩ := hrel
      by_cases hlt : xs.length < n
      · have j0 : (0 : Int) ≤ (xs.length : Int) := Int.natCast_nonneg _
        have j1 : (xs.length : Int) < (n : Int) := by omega
        have HT := hide (rtext_any K p w1.heap.size xs.length (txA n xs) 9 ⟨#[]⟩ s' wr hRr hgr (txA_get n xs hlt) (by have := HPL.out; omega) hKp (by have := HPL.out; omega))
        have HTS := hide hts
        have HAL := hide hall
        have HFR := hide hFr
        obtain ⟨L, hL⟩ : ∃ L, L = xs.length := ⟨_, rfl⟩
        rw [← hL] at j0 j1 HT ⊢
        have HLL := hide hL
        have hLn : L ≤ 16 := by omega
        clear hts hall hRr hgr hFr hxn hlt hL
        go_wp2_with fail
        refine HT.out.mono ?_
        rintro x w2 ⟨rfl, y, s2, hst2, hy, hR2, hg2, hF2⟩
        have HN2 : Hid (∃ (xs' : List ByteArray) (s' : St), xs'.length = L + 1 ∧ TsStep xs'.length s1 xs' s' ∧ (∀ y ∈ xs', y.size ≤ 1048576) ∧ Rs K p w2 s' ∧ w2.heap[w1.heap.size]? = some (.cells (txA n xs') 9 (0, 0)) ∧ Fr [p] w w2) := by
          have hl2 : (xs ++ [y]).length = L + 1 := by rw [List.length_append, HLL.out]; rfl
          refine ⟨xs ++ [y], s2, hl2, ?_, ?_, hR2, ?_, ?_⟩
          · rw [hl2, HLL.out]; exact tsstep_snoc HTS.out hst2
          · intro z hz
            rcases List.mem_append.1 hz with h | h
            · exact HAL.out z h
            · rw [List.mem_singleton.1 h]; exact hy
          · rw [hg2, HLL.out, txA_set n xs y (by rw [← HLL.out]; omega)]
          · exact HFR.out.trans hF2 (fun i hi => by
              rcases List.mem_cons.1 hi with rfl | h
              · exact Or.inl (List.mem_singleton.2 rfl)
              · exact Or.inr (by rw [List.mem_singleton.1 h]; exact hw1))
        clear hst2 hy hR2 hg2 hF2
        go_wp2_with fail
        obtain ⟨xs', s3, hl3, a1, a2, a3, a4, a5⟩ := HN2.out
        go_roundw
        case rel => exact ⟨xs', s3, by omega, by rw [hl3]; go_num, a1, a2, a3, a4, a5⟩
        case measure => simp [intOf]; omega
      · obtain rfl : n = xs.length := by omega
        have hq2 : wr.heap[q]? = some (.cells cs t (0, 0)) := (hFr.block q HQL.out (fun hm => hpq (List.mem_singleton.1 hm).symm)).trans HQ.out
        have cq : wr.cell? ⟨q, j, none⟩ = some (.slice none 0 0) := (cell_of hq2 j).trans hj
        have fq : wr.frozen? ⟨q, j, none⟩ = false := free_of hq2 j
        rw [txA_full] at hgr
        have HG2 := hide hgr
        have HQ2 := hide hq2
        have HLS := hide (lstep_from HST.out rfl hts)
        have HAL := hide hall
        have HRR := hide hRr
        have HFR := hide hFr
        have hqg : w1.heap.size ≠ q := by have := HQL.out; omega
        obtain ⟨L, hL⟩ : ∃ L, L = xs.length := ⟨_, rfl⟩
        rw [← hL]
        have HLL := hide hL
        have j1 : ¬ (L : Int) < (L : Int) := by omega
        have hLn : L ≤ 16 := by omega
        clear hts hall hRr hgr hFr hxn hlt hq2 hL hn k1 n0
        go_wp2_with fail
        first | go_end0 | refine bodyPost_end (results_none rfl _ _ _) rfl ?_
        refine ⟨rfl, xs, .slice (some ⟨w1.heap.size, 0, none⟩) L L, s', HLS.out, ⟨by rw [← HLL.out]; exact hLn, HAL.out⟩, rs_off HRR.out hpq hKq j _, at_set HQ2.out _, ?_, fr_set (HFR.out.mono (fun k hk => by rw [List.mem_singleton.1 hk]; exact List.mem_cons_self ..)) q j _ (List.mem_cons_of_mem _ (List.mem_singleton.2 rfl))⟩
        have h1 := (set_other wr ⟨q, j, none⟩ (.slice (some ⟨w1.heap.size, 0, none⟩) L L) w1.heap.size hqg).trans HG2.out
        rw [HLL.out] at h1 ⊢
        exact ⟨by simp, Or.inr ⟨w1.heap.size, xs.length, _, rfl, hw1, h1, Nat.le_refl _, by have := HLL.out; unfold maxLen; omega, by simp, by simp only [Nat.mul_one]; exact List.take_of_length_le (by simp)⟩⟩
end Go.Proofs.YtocpikgcbibcoaaGreatDoor.rc

namespace Go.Proofs.YtocpikgcbibcoaaGreatDoor.rc
open Go.ChangeShapes Go.WideShapes Go.ChangeAt Go.RowKit Go.Proofs.YtocpikgcbibcoaaGreatDoor.common Go.Proofs.YtocpikgcbibcoaaGreatDoor.dk
attribute [local go_sem ↓] Go.wp_at_zero Go.wp_at_succ

/-- how kind ends, at the head of l -/
def KindOut (K p q : Nat) (cs : Array Value) (t : TypeId) (l : List UInt8) (w : World) (x : Ending) (w' : World) : Prop :=
  x = .returned (.tuple #[]) ∧ Fr [p, q] w w' ∧ ((l = [] ∧ Rs K p w' none ∧ w'.heap[q]? = some (.cells cs t (0, 0))) ∨ ∃ b r, l = b :: r ∧ Rs K p w' (some r) ∧ w'.heap[q]? = some (.cells (cs.setIfInBounds 0 (.int .i64 ((b.toNat : Nat) : Int))) t (0, 0)))
set_option maxRecDepth 100000 in
set_option maxHeartbeats 6400000 in
theorem rkind_any (K p q : Nat) (cs : Array Value) (t : TypeId) (n0 : Int) (l : List UInt8) (w : World) (hr : Rs K p w (some l)) (hq : w.heap[q]? = some (.cells cs t (0, 0))) (hj : cs[0]? = some (.int .i64 n0)) (hpq : p ≠ q) (hKp : K ≤ p) (hKq : K ≤ q) :
    Calls Tryz.prog 209 #[.pointer (some ⟨p, 0, none⟩), .pointer (some ⟨q, 0, none⟩)] w (KindOut K p q cs t l w) := by
  have HT := hide (take_any K p 1 (some l) w hr hKp)
  unfold TakeOut at HT
  have HQ := hide hq
  clear hr hq
  unfold KindOut
  cases l with
  | nil =>
    rw [show tkS 1 (some []) = ([], none) by simp [tkS]] at HT
    go_enter Tryz.func209, Tryz.ntmps209
    go_wp2_with fail
    refine HT.out.mono ?_
    rintro x w1 ⟨v', rfl, hlo, hR, hF⟩
    obtain ⟨oa, c, rfl⟩ := Rd.len hlo.rd
    have HR := hide hR
    have HF := hide hF
    clear hlo hR hF
    go_wp2_with fail
    first | go_end0 | refine bodyPost_end (results_none rfl _ _ _) rfl ?_
    exact ⟨rfl, HF.out.mono (fun k hk => by rw [List.mem_singleton.1 hk]; exact List.mem_cons_self ..), Or.inl ⟨by trivial, HR.out, (HF.out.block q (Array.getElem?_eq_some_iff.1 HQ.out).1 (fun hm => hpq (List.mem_singleton.1 hm).symm)).trans HQ.out⟩⟩
  | cons b r =>
    rw [show tkS 1 (some (b :: r)) = ([b], some r) by simp [tkS]] at HT
    go_enter Tryz.func209, Tryz.ntmps209
    go_wp2_with fail
    refine HT.out.mono ?_
    rintro x w1 ⟨v', rfl, hlo, hR, hF⟩
    obtain ⟨oa, c, rfl⟩ := Rd.len hlo.rd
    obtain ⟨g, o, rfl, hcell⟩ := Rd.cell (c := c) hlo.rd (by simp)
    have cb := hcell 0 (by simp)
    have cb' : w1.cell? ⟨g, o, none⟩ = some (.int .u8 ((b.toNat : Nat) : Int)) := cb
    have hq1 : w1.heap[q]? = some (.cells cs t (0, 0)) := (hF.block q (Array.getElem?_eq_some_iff.1 HQ.out).1 (fun hm => hpq (List.mem_singleton.1 hm).symm)).trans HQ.out
    have c0 : w1.cell? ⟨q, 0, none⟩ = some (.int .i64 n0) := (cell_of hq1 0).trans hj
    have f0 : w1.frozen? ⟨q, 0, none⟩ = false := free_of hq1 0
    have HR := hide hR
    have HF := hide hF
    have HQ1 := hide hq1
    have hb := u8_lt b
    clear hlo hR hF hcell cb hq1
    go_wp2_with fail
    first | go_end0 | refine bodyPost_end (results_none rfl _ _ _) rfl ?_
    exact ⟨rfl, fr_set (HF.out.mono (fun k hk => by rw [List.mem_singleton.1 hk]; exact List.mem_cons_self ..)) q 0 _ (List.mem_cons_of_mem _ (List.mem_singleton.2 rfl)), Or.inr ⟨b, r, rfl, rs_off HR.out hpq hKq 0 _, at_set HQ1.out _⟩⟩

def isEnd : St → Bool
  | some [] => true
  | _ => false
set_option maxRecDepth 100000 in
theorem isDone_any (K p : Nat) (s : St) (w : World) (hr : Rs K p w s) :
    Calls Tryz.prog 25 #[.pointer (some ⟨p, 0, none⟩)] w fun x w' => x = .returned (.bool (isEnd s)) ∧ w' = w := by
  cases s with
  | none =>
    have hp : w.heap[p]? = some (.cells #[.slice none 0 0, .bool true] 55 (0, 0)) := hr
    have c1 : w.cell? ⟨p, 1, none⟩ = some (.bool true) := cell_of hp 1
    clear hr hp
    go_enter Tryz.func25, Tryz.ntmps25
    go_wp2_with fail
    go_ret
    exact ⟨rfl, rfl⟩
  | some l =>
    obtain ⟨_, v, hp, oa, cap, rfl, _⟩ := hr
    have c0 : w.cell? ⟨p, 0, none⟩ = some (.slice oa l.length cap) := cell_of hp 0
    have c1 : w.cell? ⟨p, 1, none⟩ = some (.bool false) := cell_of hp 1
    cases l with
    | nil =>
      clear hp
      go_enter Tryz.func25, Tryz.ntmps25
      go_wp2_with fail
      go_ret
      exact ⟨rfl, rfl⟩
    | cons b r =>
      obtain ⟨n, hn⟩ : ∃ n, n = (b :: r).length := ⟨_, rfl⟩
      have hn0 : ¬ (n : Int) = 0 := by rw [hn]; simp; omega
      have hnb : ((n : Int) == 0) = false := beq_false_of_ne hn0
      rw [← hn] at c0
      clear hp hn
      go_enter Tryz.func25, Tryz.ntmps25
      go_wp2_with fail
      go_ret
      exact ⟨rfl, rfl⟩
end Go.Proofs.YtocpikgcbibcoaaGreatDoor.rc
