import Derived.Test.YtimbhneegphhbaaGreatDoorRcRd3
import Derived.Test.YtimbhneegphhbaaGreatDoorStrBase
import Derived.Test.YtimbhneegphhbaaGreatDoorRcRdM
namespace Go.Proofs.YtimbhneegphhbaaGreatDoor.rc
open Go.ChangeShapes Go.WideShapes Go.ChangeAt Go.RowKit Go.Proofs.YtimbhneegphhbaaGreatDoor.common Go.Proofs.YtimbhneegphhbaaGreatDoor.dk
attribute [local go_sem ↓] Go.wp_at_zero Go.wp_at_succ

theorem lstep_from {s s1 s2 : St} {n : Nat} {x : List ByteArray} (h : NStep s n s1) (hl : x.length = n) (hx : TsStep n s1 x s2) : LStep s x s2 := by
  refine ⟨?_, fun y t hy e => ?_⟩
  · rcases hx.back with h0 | ⟨r', h2, h3⟩
    · exact Or.inl h0
    · rcases h.back with h0 | ⟨r, h4, h5⟩
      · rw [h0] at h2; cases h2
      · rw [h5] at h2
        cases h2
        exact Or.inr ⟨r', by rw [h4]; unfold lsL; rw [hl, List.append_assoc], h3⟩
  · unfold lsL at e
    rw [List.append_assoc] at e
    obtain ⟨a1, a2⟩ := h.on y.length _ (by have := hy.1; omega) e
    exact hx.on y t ⟨a1.symm, hy.2⟩ a2
theorem lstep_over {s s1 : St} {n : Nat} (h : NStep s n s1) (hn : 16 < n) (x : List ByteArray) : LStep s x none := by
  refine ⟨Or.inl rfl, fun y t hy e => ?_⟩
  unfold lsL at e
  rw [List.append_assoc] at e
  have a1 := (h.on y.length _ (by have := hy.1; omega) e).1
  have := hy.1
  omega
abbrev eS : Value := .string ⟨#[]⟩
/-- texts that are read so far, the rest empty -/
def txA (n : Nat) (xs : List ByteArray) : Array Value := (xs.map Value.string ++ List.replicate (n - xs.length) eS).toArray
theorem txA_get (n : Nat) (xs : List ByteArray) (h : xs.length < n) : (txA n xs)[xs.length]? = some eS := by
  unfold txA
  rw [List.getElem?_toArray, List.getElem?_append_right (by rw [List.length_map]; exact Nat.le_refl _), List.length_map, Nat.sub_self, List.getElem?_replicate, if_pos (by omega)]
theorem txA_set (n : Nat) (xs : List ByteArray) (y : ByteArray) (h : xs.length < n) : (txA n xs).setIfInBounds xs.length (.string y) = txA n (xs ++ [y]) := by
  unfold txA
  have e : n - xs.length = (n - (xs ++ [y]).length) + 1 := by simp; omega
  rw [e, List.replicate_succ]
  simp only [List.setIfInBounds_toArray]
  congr 1
  rw [List.set_append_right _ _ (by simp)]
  simp
theorem txA_full (xs : List ByteArray) : txA xs.length xs = (xs.map Value.string).toArray := by unfold txA; rw [Nat.sub_self]; simp
theorem made_strs (n : Nat) : madeCells #[eS] n = txA n [] := by
  have h : (madeCells #[eS] n).toList = List.replicate n eS := by
    unfold madeCells
    apply List.ext_getElem
    · simp
    · intro i h1 h2
      simp [Nat.mod_one]
  unfold txA
  rw [List.map_nil, List.nil_append, List.length_nil, Nat.sub_zero, ← h]
/-- how list ends -/
def ListOut (K p q j : Nat) (cs : Array Value) (t : TypeId) (s : St) (w : World) (x : Ending) (w' : World) : Prop :=
  x = .returned (.tuple #[]) ∧ ∃ (xs : List ByteArray) (v' : Value) (s' : St), LStep s xs s' ∧ (xs.length ≤ 16 ∧ ∀ y ∈ xs, y.size ≤ 1048576) ∧ Rs K p w' s' ∧ w'.heap[q]? = some (.cells (cs.setIfInBounds j v') t (0, 0)) ∧ w'.ownsRow w.heap.size 9 1 v' xs.length (xs.map Value.string) ∧ Fr [p, q] w w'
theorem infoSt : (Tryz.prog.info? 9).map (fun i => (i.zero, i.size, i.bytes)) = some (some (.string ⟨#[]⟩), 1, 16) := by kernel_rfl
set_option maxRecDepth 100000 in
set_option maxHeartbeats 6400000 in
theorem rlist_any (K p q j : Nat) (cs : Array Value) (t : TypeId) (s : St) (w : World) (hr : Rs K p w s) (hq : w.heap[q]? = some (.cells cs t (0, 0))) (hj : cs[j]? = some (.slice none 0 0)) (hpq : p ≠ q) (hKp : K ≤ p) (hKq : K ≤ q) :
    Calls Tryz.prog 223 #[.pointer (some ⟨p, 0, none⟩), .pointer (some ⟨q, j, none⟩)] w (ListOut K p q j cs t s w) := by
  obtain ⟨i0, hi, hz0, hz1, hz2⟩ := info_parts infoSt
  obtain ⟨W, hW⟩ : ∃ W, W = w.alloc (.cells #[.int .i64 0] 3) := ⟨_, rfl⟩
  have hlt := hr.lt
  have hqlt := (Array.getElem?_eq_some_iff.1 hq).1
  have hfr : Fr [p] w W := by rw [hW]; exact ⟨rfl, rfl, rfl, by simp, fun k hk _ => Below.heap_alloc w _ k hk⟩
  have hrW : Rs K p W s := hr.keep (fun g _ hs => by rw [hW]; exact Below.heap_alloc w _ g hs) (by rw [hW]; exact Below.heap_alloc w _ p hlt) hfr.size
  have hc : W.heap[w.heap.size]? = some (.cells #[.int .i64 0] 3 (0, 0)) := by rw [hW]; exact heap_alloc_new w _
  have HN := hide (number_any K p w.heap.size 0 #[.int .i64 0] 3 0 s W hrW hc rfl (lt_ne hlt) hKp (by omega))
  have HF := hide hfr
  have HQ := hide hq
  have HW := hide hW
  have HQL : Hid (q < w.heap.size) := hqlt
  have HPL : Hid (p < w.heap.size) := hlt
  clear hr hfr hrW hc hW hq hlt hqlt
  unfold ListOut
  go_enter Tryz.func223, Tryz.ntmps223
  go_wp2_with fail
  rw [← HW.out]
  refine HN.out.mono ?_
  rintro x w1 ⟨rfl, n, s1, hst, -, hR, hc, hF1⟩
  have c0 : w1.cell? ⟨w.heap.size, 0, none⟩ = some (.int .i64 (n : Int)) := cell_of hc 0
  have HF1 : Hid (Fr [p] w w1) := HF.out.trans hF1 (fun i hi => by
    rcases List.mem_cons.1 hi with rfl | h
    · exact Or.inl (List.mem_singleton.2 rfl)
    · exact Or.inr (Nat.le_of_eq (List.mem_singleton.1 h).symm))
  have HST := hide hst
  have HR := hide hR
  clear hst hR hc hF1 HN
  have HQ1 : Hid (w1.heap[q]? = some (.cells cs t (0, 0))) := (HF1.out.block q HQL.out (fun hm => hpq (List.mem_singleton.1 hm).symm)).trans HQ.out
  by_cases hn : 16 < n
  · have k1 : (16 : Int) < (n : Int) := by omega
    obtain ⟨oa, m, c, f, hp⟩ := HR.out.form
    have HFA := hide (fail_any K p oa m c f w1 hp)
    clear hp
    go_wp2_with fail
    refine HFA.out.mono ?_
    rintro x w2 ⟨rfl, hR2, hF2⟩
    have HR2 := hide hR2
    have HF2 := hide hF2
    clear hR2 hF2
    go_wp2_with fail
    first | go_end0 | refine bodyPost_ret (results_none rfl _ _ _) rfl ?_ | refine bodyPost_end (results_none rfl _ _ _) rfl ?_
    refine ⟨rfl, [], .slice none 0 0, none, lstep_over HST.out hn [], ⟨Nat.zero_le _, (fun y hy => by cases hy)⟩, HR2.out, ?_, World.ownsRow_nil _ _ _ _, (HF1.out.trans HF2.out (fun i hi => Or.inl hi)).mono (fun k hk => by rw [List.mem_singleton.1 hk]; exact List.mem_cons_self ..)⟩
    rw [set_back hj]
    exact (HF2.out.block q (Array.getElem?_eq_some_iff.1 HQ1.out).1 (fun hm => hpq (List.mem_singleton.1 hm).symm)).trans HQ1.out
  · have k1 : ¬ (16 : Int) < (n : Int) := by omega
    have n0 : (0 : Int) ≤ (n : Int) := Int.natCast_nonneg _
    obtain ⟨X, hX⟩ : ∃ X, X = w1.alloc (.cells (madeCells #[eS] n) 9) := ⟨_, rfl⟩
    have hg : X.heap[w1.heap.size]? = some (.cells (txA n []) 9 (0, 0)) := by rw [hX, made_strs]; exact heap_alloc_new w1 _
    have hFX : Fr [p] w1 X := by rw [hX]; exact ⟨rfl, rfl, rfl, by simp, fun k hk _ => Below.heap_alloc w1 _ k hk⟩
    have HRX : Hid (Rs K p X s1) := HR.out.keep (fun g _ hs => by rw [hX]; exact Below.heap_alloc w1 _ g hs) (by rw [hX]; exact Below.heap_alloc w1 _ p HR.out.lt) hFX.size
    have HG := hide hg
    have HFX : Hid (Fr [p] w X) := HF1.out.trans hFX (fun i hi => Or.inl hi)
    have HX := hide hX
    have hw1 : w.heap.size ≤ w1.heap.size := HF1.out.size
    clear hg hFX hX
    go_wp2_with (refine wpList_make_row _ rfl _ _ 24 rfl 9 i0 eS Tryz.underlying24 hi hz0 hz1 rfl .i64 .i64 n ?c1 ?c2 ?c3 ?c4 ?_)
    case c1 => rfl
    case c2 => rfl
    case c3 => rw [hz2]; omega
    case c4 => omega
    rw [← HX.out]
    go_wp2_with fail
    go_loopw [17] (fun i wr => ∃ (xs : List ByteArray) (s' : St), xs.length ≤ n ∧ i = .int .i64 (xs.length : Int) ∧ TsStep xs.length s1 xs s' ∧ (∀ y ∈ xs, y.size ≤ 1048576) ∧ Rs K p wr s' ∧ wr.heap[w1.heap.size]? = some (.cells (txA n xs) 9 (0, 0)) ∧ Fr [p] w wr) (fun i _ => n - (intOf i).toNat)
    case atStart => exact ⟨[], s1, Nat.zero_le _, rfl, tsstep_nil s1, (fun y hy => by cases hy), HRX.out, HG.out, HFX.out⟩
    case round =>
      obtain ⟨xs, s', hxn, rfl, hts, hall, hRr, hgr, hFr⟩ := hrel
      by_cases hlt : xs.length < n
      · have j0 : (0 : Int) ≤ (xs.length : Int) := Int.natCast_nonneg _
        have j1 : (xs.length : Int) < (n : Int) := by omega
        have HT := hide (rtext_any K p w1.heap.size xs.length (txA n xs) 9 ⟨#[]⟩ s' wr hRr hgr (txA_get n xs hlt) (by have := HPL.out; omega) hKp (by have := HPL.out; omega))
        have HTS := hide hts
        have HAL := hide hall
        have HFR := hide hFr
        obtain ⟨L, hL⟩ : ∃ L, L = xs.length := ⟨_, rfl⟩
        rw [← hL] at j0 j1 HT ⊢
        have HLL := hide hL
        have hLn : L ≤ 16 := by omega
        clear hts hall hRr hgr hFr hxn hlt hL
        go_wp2_with fail
        refine HT.out.mono ?_
        rintro x w2 ⟨rfl, y, s2, hst2, hy, hR2, hg2, hF2⟩
        have HN2 : Hid (∃ (xs' : List ByteArray) (s' : St), xs'.length = L + 1 ∧ TsStep xs'.length s1 xs' s' ∧ (∀ y ∈ xs', y.size ≤ 1048576) ∧ Rs K p w2 s' ∧ w2.heap[w1.heap.size]? = some (.cells (txA n xs') 9 (0, 0)) ∧ Fr [p] w w2) := by
          have hl2 : (xs ++ [y]).length = L + 1 := by rw [List.length_append, HLL.out]; rfl
          refine ⟨xs ++ [y], s2, hl2, ?_, ?_, hR2, ?_, ?_⟩
          · rw [hl2, HLL.out]; exact tsstep_snoc HTS.out hst2
          · intro z hz
            rcases List.mem_append.1 hz with h | h
            · exact HAL.out z h
            · rw [List.mem_singleton.1 h]; exact hy
          · rw [hg2, HLL.out, txA_set n xs y (by rw [← HLL.out]; omega)]
          · exact HFR.out.trans hF2 (fun i hi => by
              rcases List.mem_cons.1 hi with rfl | h
              · exact Or.inl (List.mem_singleton.2 rfl)
              · exact Or.inr (by rw [List.mem_singleton.1 h]; exact hw1))
        clear hst2 hy hR2 hg2 hF2
        go_wp2_with fail
        obtain ⟨xs', s3, hl3, a1, a2, a3, a4, a5⟩ := HN2.out
        go_roundw
        case rel => exact ⟨xs', s3, by omega, by rw [hl3]; go_num, a1, a2, a3, a4, a5⟩
        case measure => simp [intOf]; omega
      · obtain rfl : n = xs.length := by omega
        have hq2 : wr.heap[q]? = some (.cells cs t (0, 0)) := (hFr.block q HQL.out (fun hm => hpq (List.mem_singleton.1 hm).symm)).trans HQ.out
        have cq : wr.cell? ⟨q, j, none⟩ = some (.slice none 0 0) := (cell_of hq2 j).trans hj
        have fq : wr.frozen? ⟨q, j, none⟩ = false := free_of hq2 j
        rw [txA_full] at hgr
        have HG2 := hide hgr
        have HQ2 := hide hq2
        have HLS := hide (lstep_from HST.out rfl hts)
        have HAL := hide hall
        have HRR := hide hRr
        have HFR := hide hFr
        have hqg : w1.heap.size ≠ q := by have := HQL.out; omega
        obtain ⟨L, hL⟩ : ∃ L, L = xs.length := ⟨_, rfl⟩
        rw [← hL]
        have HLL := hide hL
        have j1 : ¬ (L : Int) < (L : Int) := by omega
        have hLn : L ≤ 16 := by omega
        clear hts hall hRr hgr hFr hxn hlt hq2 hL hn k1 n0
        go_wp2_with fail
        first | go_end0 | refine bodyPost_end (results_none rfl _ _ _) rfl ?_
        refine ⟨rfl, xs, .slice (some ⟨w1.heap.size, 0, none⟩) L L, s', HLS.out, ⟨by rw [← HLL.out]; exact hLn, HAL.out⟩, rs_off HRR.out hpq hKq j _, at_set HQ2.out _, ?_, fr_set (HFR.out.mono (fun k hk => by rw [List.mem_singleton.1 hk]; exact List.mem_cons_self ..)) q j _ (List.mem_cons_of_mem _ (List.mem_singleton.2 rfl))⟩
        have h1 := (set_other wr ⟨q, j, none⟩ (.slice (some ⟨w1.heap.size, 0, none⟩) L L) w1.heap.size hqg).trans HG2.out
        rw [HLL.out] at h1 ⊢
        exact ⟨by simp, Or.inr ⟨w1.heap.size, xs.length, _, rfl, hw1, h1, Nat.le_refl _, by have := HLL.out; unfold maxLen; omega, by simp, by simp only [Nat.mul_one]; exact List.take_of_length_le (by simp)⟩⟩
end Go.Proofs.YtimbhneegphhbaaGreatDoor.rc

namespace Go.Proofs.YtimbhneegphhbaaGreatDoor.rc
open Go.ChangeShapes Go.WideShapes Go.ChangeAt Go.RowKit Go.Proofs.YtimbhneegphhbaaGreatDoor.common Go.Proofs.YtimbhneegphhbaaGreatDoor.dk
attribute [local go_sem ↓] Go.wp_at_zero Go.wp_at_succ

/-- how kind ends, at the head of l -/
def KindOut (K p q : Nat) (cs : Array Value) (t : TypeId) (l : List UInt8) (w : World) (x : Ending) (w' : World) : Prop :=
  x = .returned (.tuple #[]) ∧ Fr [p, q] w w' ∧ ((l = [] ∧ Rs K p w' none ∧ w'.heap[q]? = some (.cells cs t (0, 0))) ∨ ∃ b r, l = b :: r ∧ Rs K p w' (some r) ∧ w'.heap[q]? = some (.cells (cs.setIfInBounds 0 (.int .i64 ((b.toNat : Nat) : Int))) t (0, 0)))
set_option maxRecDepth 100000 in
set_option maxHeartbeats 6400000 in
theorem rkind_any (K p q : Nat) (cs : Array Value) (t : TypeId) (n0 : Int) (l : List UInt8) (w : World) (hr : Rs K p w (some l)) (hq : w.heap[q]? = some (.cells cs t (0, 0))) (hj : cs[0]? = some (.int .i64 n0)) (hpq : p ≠ q) (hKp : K ≤ p) (hKq : K ≤ q) :
    Calls Tryz.prog 222 #[.pointer (some ⟨p, 0, none⟩), .pointer (some ⟨q, 0, none⟩)] w (KindOut K p q cs t l w) := by
  have HT := hide (take_any K p 1 (some l) w hr hKp)
  unfold TakeOut at HT
  have HQ := hide hq
  clear hr hq
  unfold KindOut
  cases l with
  | nil =>
    rw [show tkS 1 (some []) = ([], none) by simp [tkS]] at HT
    go_enter Tryz.func222, Tryz.ntmps222
    go_wp2_with fail
    refine HT.out.mono ?_
    rintro x w1 ⟨v', rfl, hlo, hR, hF⟩
    obtain ⟨oa, c, rfl⟩ := Rd.len hlo.rd
    have HR := hide hR
    have HF := hide hF
    clear hlo hR hF
    go_wp2_with fail
    first | go_end0 | refine bodyPost_end (results_none rfl _ _ _) rfl ?_
    exact ⟨rfl, HF.out.mono (fun k hk => by rw [List.mem_singleton.1 hk]; exact List.mem_cons_self ..), Or.inl ⟨by trivial, HR.out, (HF.out.block q (Array.getElem?_eq_some_iff.1 HQ.out).1 (fun hm => hpq (List.mem_singleton.1 hm).symm)).trans HQ.out⟩⟩
  | cons b r =>
    rw [show tkS 1 (some (b :: r)) = ([b], some r) by simp [tkS]] at HT
    go_enter Tryz.func222, Tryz.ntmps222
    go_wp2_with fail
    refine HT.out.mono ?_
    rintro x w1 ⟨v', rfl, hlo, hR, hF⟩
    obtain ⟨oa, c, rfl⟩ := Rd.len hlo.rd
    obtain ⟨g, o, rfl, hcell⟩ := Rd.cell (c := c) hlo.rd (by simp)
    have cb := hcell 0 (by simp)
    have cb' : w1.cell? ⟨g, o, none⟩ = some (.int .u8 ((b.toNat : Nat) : Int)) := cb
    have hq1 : w1.heap[q]? = some (.cells cs t (0, 0)) := (hF.block q (Array.getElem?_eq_some_iff.1 HQ.out).1 (fun hm => hpq (List.mem_singleton.1 hm).symm)).trans HQ.out
    have c0 : w1.cell? ⟨q, 0, none⟩ = some (.int .i64 n0) := (cell_of hq1 0).trans hj
    have f0 : w1.frozen? ⟨q, 0, none⟩ = false := free_of hq1 0
    have HR := hide hR
    have HF := hide hF
    have HQ1 := hide hq1
    have hb := u8_lt b
    clear hlo hR hF hcell cb hq1
    go_wp2_with fail
    first | go_end0 | refine bodyPost_end (results_none rfl _ _ _) rfl ?_
    exact ⟨rfl, fr_set (HF.out.mono (fun k hk => by rw [List.mem_singleton.1 hk]; exact List.mem_cons_self ..)) q 0 _ (List.mem_cons_of_mem _ (List.mem_singleton.2 rfl)), Or.inr ⟨b, r, rfl, rs_off HR.out hpq hKq 0 _, at_set HQ1.out _⟩⟩

def isEnd : St → Bool
  | some [] => true
  | _ => false
set_option maxRecDepth 100000 in
theorem isDone_any (K p : Nat) (s : St) (w : World) (hr : Rs K p w s) :
    Calls Tryz.prog 26 #[.pointer (some ⟨p, 0, none⟩)] w fun x w' => x = .returned (.bool (isEnd s)) ∧ w' = w := by
  cases s with
  | none =>
    have hp : w.heap[p]? = some (.cells #[.slice none 0 0, .bool true] 55 (0, 0)) := hr
    have c1 : w.cell? ⟨p, 1, none⟩ = some (.bool true) := cell_of hp 1
    clear hr hp
    go_enter Tryz.func26, Tryz.ntmps26
    go_wp2_with fail
    go_ret
    exact ⟨rfl, rfl⟩
  | some l =>
    obtain ⟨_, v, hp, oa, cap, rfl, _⟩ := hr
    have c0 : w.cell? ⟨p, 0, none⟩ = some (.slice oa l.length cap) := cell_of hp 0
    have c1 : w.cell? ⟨p, 1, none⟩ = some (.bool false) := cell_of hp 1
    cases l with
    | nil =>
      clear hp
      go_enter Tryz.func26, Tryz.ntmps26
      go_wp2_with fail
      go_ret
      exact ⟨rfl, rfl⟩
    | cons b r =>
      obtain ⟨n, hn⟩ : ∃ n, n = (b :: r).length := ⟨_, rfl⟩
      have hn0 : ¬ (n : Int) = 0 := by rw [hn]; simp; omega
      have hnb : ((n : Int) == 0) = false := beq_false_of_ne hn0
      rw [← hn] at c0
      clear hp hn
      go_enter Tryz.func26, Tryz.ntmps26
      go_wp2_with fail
      go_ret
      exact ⟨rfl, rfl⟩
end Go.Proofs.YtimbhneegphhbaaGreatDoor.rc

namespace Go.Proofs.YtimbhneegphhbaaGreatDoor.rc
open Go.ChangeShapes Go.WideShapes Go.ChangeAt Go.RowKit Go.Proofs.YtimbhneegphhbaaGreatDoor.common Go.Proofs.YtimbhneegphhbaaGreatDoor.dk

end Go.Proofs.YtimbhneegphhbaaGreatDoor.rc
