import Derived.Test.YtocpikgcbibcoaaGreatDoorMRcWqA
import Derived.Test.YtocpikgcbibcoaaGreatDoorMRcWqD
import Derived.Test.YtocpikgcbibcoaaGreatDoorMRcRows
import Derived.Test.YtocpikgcbibcoaaGreatDoorMRdKit
import Derived.BigQuiet
import Derived.Test.YtocpikgcbibcoaaGreatDoorMErrWalks
import Derived.Test.YtocpikgcbibcoaaGreatDoorMTmRed
import Derived.LaidLaws
import Derived.Stop.LaidErr
import Derived.Lib.LaidU8
import Derived.Test.YtocpikgcbibcoaaGreatDoorMRcWk
import Derived.Test.YtocpikgcbibcoaaGreatDoorMRefScopes9
import Derived.Test.YtocpikgcbibcoaaGreatDoorMRefLetters
import Derived.LaidMore
import Derived.Lib.LaidTab
import Derived.Lib.SmallJoins
import Derived.Deep.DeepHandedRow
import Derived.Lay
import Derived.Deep.DeepWitnessRowRef
namespace Go.Proofs.YtocpikgcbibcoaaGreatDoor.rc
open Go.ChangeShapes Go.WideShapes Go.ChangeAt Go.RowKit Go.Proofs.YtocpikgcbibcoaaGreatDoor.common Go.Proofs.YtocpikgcbibcoaaGreatDoor.dk
attribute [local go_sem ↓] Go.wp_at_zero Go.wp_at_succ

theorem walkR_any (K p q : Nat) (l : List UInt8) (w : World) (hr : Rs K p w (some l)) (hq : w.heap[q]? = some (.cells zrec 26 (0, 0))) (hT : KTab w) (hG : 7 < K) (hpq : p ≠ q) (hKp : K ≤ p) (hKq : K ≤ q) :
    Calls Tryz.prog 22 #[.pointer (some ⟨q, 0, none⟩), .iface 60 (.pointer (some ⟨p, 0, none⟩))] w (WalkOut K p q l w) := by
  cases l with
  | nil => exact walkR_nil K p q w hr hq hT hG hpq hKp hKq
  | cons b r0 =>
    by_cases hk : 0 < b.toNat ∧ b.toNat < 12
    · have hc : b.toNat = 1 ∨ b.toNat = 2 ∨ b.toNat = 3 ∨ b.toNat = 4 ∨ b.toNat = 5 ∨ b.toNat = 6 ∨ b.toNat = 7 ∨ b.toNat = 8 ∨ b.toNat = 9 ∨ b.toNat = 10 ∨ b.toNat = 11 := by omega
      rcases hc with h | h | h | h | h | h | h | h | h | h | h
      · exact walkR_1 K p q b r0 w h hr hq hT hG hpq hKp hKq
      · exact walkR_2 K p q b r0 w h hr hq hT hG hpq hKp hKq
      · exact walkR_3 K p q b r0 w h hr hq hT hG hpq hKp hKq
      · exact walkR_4 K p q b r0 w h hr hq hT hG hpq hKp hKq
      · exact walkR_5 K p q b r0 w h hr hq hT hG hpq hKp hKq
      · exact walkR_6 K p q b r0 w h hr hq hT hG hpq hKp hKq
      · exact walkR_7 K p q b r0 w h hr hq hT hG hpq hKp hKq
      · exact walkR_8 K p q b r0 w h hr hq hT hG hpq hKp hKq
      · exact walkR_9 K p q b r0 w h hr hq hT hG hpq hKp hKq
      · exact walkR_10 K p q b r0 w h hr hq hT hG hpq hKp hKq
      · exact walkR_11 K p q b r0 w h hr hq hT hG hpq hKp hKq
    · exact walkR_else K p q b r0 w hk hr hq hT hG hpq hKp hKq
/-- what Decode says -/
def zR : Rec := ⟨0, ⟨#[]⟩, ⟨#[]⟩, ⟨#[]⟩, ⟨#[]⟩, ⟨#[]⟩, ⟨#[]⟩, [], 0⟩
structure DecR (l : List UInt8) (o : Option Rec) : Prop where
  is : ∀ r, o = some r → mayB r = true ∧ r.Low ∧ r.ss.length ≤ 16 ∧ recL r = l
  on : ∀ y, mayB y = true → y.Low → recL y = l → o = some y
theorem DecR.one {l : List UInt8} {o o' : Option Rec} (h : DecR l o) (h' : DecR l o') : o = o' := by
  cases o with
  | some r => obtain ⟨a, b, _, c⟩ := h.is r rfl; exact (h'.on r a b c).symm
  | none =>
    cases o' with
    | none => rfl
    | some r => obtain ⟨a, b, _, c⟩ := h'.is r rfl; exact h.on r a b c
theorem dec_yes {l : List UInt8} {r : Rec} {s : St} (h : Fin l r s) (hl : r.Low) (h16 : r.ss.length ≤ 16) (he : isEnd s = true) (hm : mayB r = true) : DecR l (some r) := by
  refine ⟨fun y hy => ?_, fun y a b c => ?_⟩
  · cases hy
    refine ⟨hm, hl, h16, ?_⟩
    have hk : isK r.k = true := by unfold mayB at hm; simp only [Bool.and_eq_true] at hm; exact hm.1
    rcases h.back hk with h0 | ⟨t, h1, h2⟩
    · rw [h0] at he; cases he
    · rw [h1] at he
      cases t with
      | nil => rw [h2, List.append_nil]
      | cons _ _ => cases he
  · rw [(h.on y a b c.symm).1]
theorem dec_no {l : List UInt8} {r : Rec} {s : St} (h : Fin l r s) (hn : isEnd s = false ∨ mayB r = false) : DecR l none := by
  refine ⟨fun y hy => (by cases hy), fun y a b c => ?_⟩
  obtain ⟨h1, h2⟩ := h.on y a b c.symm
  rcases hn with h3 | h3
  · rw [h2] at h3; cases h3
  · rw [h1, a] at h3; cases h3
def DecOut (l : List UInt8) (Y N : Value) (w : World) (x : Ending) (w' : World) : Prop :=
  ∃ (o : Option Rec) (v' : Value), x = .returned (.tuple #[.agg (rcs (o.getD zR) v'), if o.isSome then Y else N]) ∧ w'.ownsRow w.heap.size 9 1 v' (o.getD zR).ss.length ((o.getD zR).ss.map Value.string) ∧ Below w.heap.size w w' ∧ DecR l o
theorem results_ct {fn : Func} {p t : Tmp} {ty : TypeId} {P : Program} {w : World} {b o : Nat} {cs : List Value} {d : TypeDesc} {u : Value} (h : fn.results = #[.cell p ty, .tmp t]) (tmps : Array Value) (hx : tmps.getD p undef = .pointer (some ⟨b, o, none⟩))
    (hu0 : tmps.getD t undef = u) (hc : w.rangeAt b o cs) (hu : P.underlying ty = some d) (hd : d.isRow = true) (hi : (P.info? ty).map (·.size) = some cs.length) : (results fn tmps).run P w = .ok (.tuple #[.agg cs.toArray, u]) w := by
  have hx' : tmps[p]?.getD undef = .pointer (some ⟨b, o, none⟩) := by simpa using hx
  have hu' : tmps[t]?.getD undef = u := by simpa using hu0
  simp [results, h, hx', hu', asAddr, run_loadVar_mid w b o ty cs d hc hu hd hi]

theorem same_set {w : World} {R j : Nat} {u : Value} {cs : Array Value} {t : TypeId} (h : w.heap[R]? = some (.cells cs t (0, 0))) (hj : cs[j]? = some u) : (w.setCell ⟨R, j, none⟩ u).heap[R]? = some (.cells cs t (0, 0)) := by
  have := at_set (j := j) h u
  rwa [set_back hj] at this
/-- zeros over zeros -/
theorem nine_set {w : World} {R : Nat} {t : TypeId} (h : w.heap[R]? = some (.cells zrec t (0, 0))) : (((((((((w.setCell ⟨R, 0, none⟩ (.int .i64 0)).setCell ⟨R, 1, none⟩ (.string ⟨#[]⟩)).setCell ⟨R, 2, none⟩ (.string ⟨#[]⟩)).setCell ⟨R, 3, none⟩ (.string ⟨#[]⟩)).setCell ⟨R, 4, none⟩ (.string ⟨#[]⟩)).setCell ⟨R, 5, none⟩ (.string ⟨#[]⟩)).setCell ⟨R, 6, none⟩ (.string ⟨#[]⟩)).setCell ⟨R, 7, none⟩ (.slice none 0 0)).setCell ⟨R, 8, none⟩ (.int .i64 0)).drew.rangeAt R 0 zrec.toList ∧ Below R w (((((((((w.setCell ⟨R, 0, none⟩ (.int .i64 0)).setCell ⟨R, 1, none⟩ (.string ⟨#[]⟩)).setCell ⟨R, 2, none⟩ (.string ⟨#[]⟩)).setCell ⟨R, 3, none⟩ (.string ⟨#[]⟩)).setCell ⟨R, 4, none⟩ (.string ⟨#[]⟩)).setCell ⟨R, 5, none⟩ (.string ⟨#[]⟩)).setCell ⟨R, 6, none⟩ (.string ⟨#[]⟩)).setCell ⟨R, 7, none⟩ (.slice none 0 0)).setCell ⟨R, 8, none⟩ (.int .i64 0)).drew := by
  have b := Below.refl R w
  have a0 := same_set (j := 0) (u := .int .i64 0) h rfl
  have b0 : Below R w (w.setCell ⟨R, 0, none⟩ (.int .i64 0)) := b.setCell (p := ⟨R, 0, none⟩) (Nat.le_refl _) _
  generalize w.setCell ⟨R, 0, none⟩ (.int .i64 0) = x0 at *
  have a1 := same_set (j := 1) (u := .string ⟨#[]⟩) a0 rfl
  have b1 : Below R w (x0.setCell ⟨R, 1, none⟩ (.string ⟨#[]⟩)) := b0.setCell (p := ⟨R, 1, none⟩) (Nat.le_refl _) _
  generalize x0.setCell ⟨R, 1, none⟩ (.string ⟨#[]⟩) = x1 at *
  have a2 := same_set (j := 2) (u := .string ⟨#[]⟩) a1 rfl
  have b2 : Below R w (x1.setCell ⟨R, 2, none⟩ (.string ⟨#[]⟩)) := b1.setCell (p := ⟨R, 2, none⟩) (Nat.le_refl _) _
  generalize x1.setCell ⟨R, 2, none⟩ (.string ⟨#[]⟩) = x2 at *
  have a3 := same_set (j := 3) (u := .string ⟨#[]⟩) a2 rfl
  have b3 : Below R w (x2.setCell ⟨R, 3, none⟩ (.string ⟨#[]⟩)) := b2.setCell (p := ⟨R, 3, none⟩) (Nat.le_refl _) _
  generalize x2.setCell ⟨R, 3, none⟩ (.string ⟨#[]⟩) = x3 at *
  have a4 := same_set (j := 4) (u := .string ⟨#[]⟩) a3 rfl
  have b4 : Below R w (x3.setCell ⟨R, 4, none⟩ (.string ⟨#[]⟩)) := b3.setCell (p := ⟨R, 4, none⟩) (Nat.le_refl _) _
  generalize x3.setCell ⟨R, 4, none⟩ (.string ⟨#[]⟩) = x4 at *
  have a5 := same_set (j := 5) (u := .string ⟨#[]⟩) a4 rfl
  have b5 : Below R w (x4.setCell ⟨R, 5, none⟩ (.string ⟨#[]⟩)) := b4.setCell (p := ⟨R, 5, none⟩) (Nat.le_refl _) _
  generalize x4.setCell ⟨R, 5, none⟩ (.string ⟨#[]⟩) = x5 at *
  have a6 := same_set (j := 6) (u := .string ⟨#[]⟩) a5 rfl
  have b6 : Below R w (x5.setCell ⟨R, 6, none⟩ (.string ⟨#[]⟩)) := b5.setCell (p := ⟨R, 6, none⟩) (Nat.le_refl _) _
  generalize x5.setCell ⟨R, 6, none⟩ (.string ⟨#[]⟩) = x6 at *
  have a7 := same_set (j := 7) (u := .slice none 0 0) a6 rfl
  have b7 : Below R w (x6.setCell ⟨R, 7, none⟩ (.slice none 0 0)) := b6.setCell (p := ⟨R, 7, none⟩) (Nat.le_refl _) _
  generalize x6.setCell ⟨R, 7, none⟩ (.slice none 0 0) = x7 at *
  have a8 := same_set (j := 8) (u := .int .i64 0) a7 rfl
  have b8 : Below R w (x7.setCell ⟨R, 8, none⟩ (.int .i64 0)) := b7.setCell (p := ⟨R, 8, none⟩) (Nat.le_refl _) _
  generalize x7.setCell ⟨R, 8, none⟩ (.int .i64 0) = x8 at *
  exact ⟨range_of (t := t) (show x8.drew.heap[R]? = some (.cells zrec t (0, 0)) from a8), b8.drew⟩
set_option maxRecDepth 100000 in
set_option maxHeartbeats 12800000 in
theorem decode_any (l : List UInt8) (v : Value) (ea em : Addr) (e : Nat → Addr) (w : World) (hv : Lo w.heap.size w v l) (hl : l.length ≤ 1048576) (he : Env ea em (errw.E e 0) w) (ht : w.cell? ⟨2, 0, none⟩ = some (errw.E e 1)) :
    Calls Tryz.prog 10 #[v] w (DecOut l .nilIface (errw.E e 1) w) := by
  obtain ⟨ov, cv, hvv⟩ : ∃ ov cv, v = .slice ov l.length cv := by obtain ⟨a, b, h, _⟩ := hv; exact ⟨a, b, h⟩
  obtain ⟨W, hW⟩ : ∃ W, W = ((w.alloc (.cells zrec 26)).alloc (.cells #[v, .bool false] 55)).alloc (.cells zrec 26) := ⟨_, rfl⟩
  have hbW : Below w.heap.size w W := by rw [hW]; exact (((Below.refl _ _).alloc (Nat.le_refl _) _).alloc (by simp) _).alloc (by simp; omega) _
  have hzW : W.heap.size = w.heap.size + 3 := by rw [hW]; simp
  have h0 : W.heap[w.heap.size]? = some (.cells zrec 26 (0, 0)) := by
    rw [hW]
    exact ((heap_alloc_old _ _ (by simp; omega)).trans (heap_alloc_old _ _ (by simp))).trans (heap_alloc_new w _)
  have h1 : W.heap[w.heap.size + 1]? = some (.cells #[v, .bool false] 55 (0, 0)) := by
    rw [hW]
    have := heap_alloc_new (w.alloc (.cells zrec 26)) (.cells #[v, .bool false] 55 (0, 0))
    rw [World.size_alloc] at this
    exact (heap_alloc_old _ _ (by simp)).trans this
  have h2 : W.heap[w.heap.size + 1 + 1]? = some (.cells zrec 26 (0, 0)) := by
    rw [hW]
    have := heap_alloc_new ((w.alloc (.cells zrec 26)).alloc (.cells #[v, .bool false] 55)) (.cells zrec 26 (0, 0))
    rw [World.size_alloc, World.size_alloc] at this
    exact this
  have hGl : 7 < w.heap.size := World.block_lt_of_cell? w _ (he.kt 0 (by decide))
  have hrs : Rs w.heap.size (w.heap.size + 1) W (some l) := ⟨hl, v, h1, hv.keep (fun g hg _ => hbW.block g hg) hbW.size⟩
  have HWK := hide (walkR_any w.heap.size (w.heap.size + 1) (w.heap.size + 1 + 1) l W hrs h2 (he.kt.below hbW) hGl (by omega) (by omega) (by omega))
  have HENV : Hid (∀ X, Below w.heap.size w X → Env ea em (errw.E e 0) X ∧ X.cell? ⟨2, 0, none⟩ = some (errw.E e 1)) := fun X hX => ⟨he.below hX, (hX.cell (p := ⟨2, 0, none⟩) (World.block_lt_of_cell? w _ ht)).trans ht⟩
  have hGT : 2 ≠ w.heap.size := Nat.ne_of_lt (World.block_lt_of_cell? w _ ht)
  have HBW := hide hbW
  have HH0 := hide h0
  have HZW := hide hzW
  have HW := hide hW
  subst hvv
  clear hv he ht hbW h0 h1 h2 hrs hW hzW hGl
  unfold DecOut
  go_enter Tryz.func10, Tryz.ntmps10
  go_wp2_with fail
  rw [← HW.out]
  refine HWK.out.mono ?_
  rintro x w1 ⟨rfl, r, vr, s, hq, hown, hR, hF, hlow, hfin⟩
  obtain ⟨osl, csl, rfl⟩ := own_slice hown
  have HB1 : Hid (Below w.heap.size w w1) := HBW.out.trans (hF.below (fun k hk => by
    rcases List.mem_cons.1 hk with h | h
    · omega
    · have := List.mem_singleton.1 h; omega) HBW.out.size)
  have HO1 : Hid (w1.ownsRow W.heap.size 9 1 (.slice osl r.ss.length csl) r.ss.length (r.ss.map Value.string)) := hown
  have HD := hide (isDone_any _ _ s w1 hR)
  have HMY := hide (mayBe_any r (.slice osl r.ss.length csl) ea em (errw.E e 0) w1 (ss.lies_of_own hown) (by
    have := hlow.1
    have hr : 1048576 ≤ reachBytes := by unfold reachBytes; decide
    exact ⟨Nat.le_trans this.id hr, Nat.le_trans this.us hr, Nat.le_trans this.cl hr, Nat.le_trans this.rd hr, Nat.le_trans this.ch hr, Nat.le_trans this.cd hr, by have := hlow.2; omega, fun s hs => by have := hlow.1.ss s hs; omega⟩) (HENV.out w1 HB1.out).1)
  have d0 : w1.cell? ⟨w.heap.size + 1 + 1, 0, none⟩ = some (.int .i64 r.k) := cell_of hq 0
  have d1 : w1.cell? ⟨w.heap.size + 1 + 1, 1, none⟩ = some (.string r.id) := cell_of hq 1
  have d2 : w1.cell? ⟨w.heap.size + 1 + 1, 2, none⟩ = some (.string r.us) := cell_of hq 2
  have d3 : w1.cell? ⟨w.heap.size + 1 + 1, 3, none⟩ = some (.string r.cl) := cell_of hq 3
  have d4 : w1.cell? ⟨w.heap.size + 1 + 1, 4, none⟩ = some (.string r.rd) := cell_of hq 4
  have d5 : w1.cell? ⟨w.heap.size + 1 + 1, 5, none⟩ = some (.string r.ch) := cell_of hq 5
  have d6 : w1.cell? ⟨w.heap.size + 1 + 1, 6, none⟩ = some (.string r.cd) := cell_of hq 6
  have d7 : w1.cell? ⟨w.heap.size + 1 + 1, 7, none⟩ = some (.slice osl r.ss.length csl) := cell_of hq 7
  have d8 : w1.cell? ⟨w.heap.size + 1 + 1, 8, none⟩ = some (.int .i64 r.at_) := cell_of hq 8
  have HQ := hide hq
  have HRQ : Hid (w1.rangeAt (w.heap.size + 1 + 1) 0 (rcl9 r (.slice osl r.ss.length csl))) := range_of (t := 26) hq
  have HH1 : Hid (w1.heap[w.heap.size]? = some (.cells zrec 26 (0, 0))) := (hF.block _ (by have := HZW.out; omega) (fun hm => by
    rcases List.mem_cons.1 hm with h | h
    · omega
    · have := List.mem_singleton.1 h; omega)).trans HH0.out
  have HLOW := hide hlow
  have HFIN := hide hfin
  clear hq hown hR hF hlow hfin HWK
  cases hE : isEnd s with
  | false =>
    rw [hE] at HD
    have HDN := hide (dec_no HFIN.out (Or.inl hE))
    have ct := (HENV.out w1 HB1.out).2
    have HGT : Hid (2 ≠ w.heap.size) := hGT
    have ct2 : (w1.setCell ⟨w.heap.size, 0, none⟩ (.int .i64 0)).cell? ⟨2, 0, none⟩ = some (errw.E e 1) := (World.cell?_of_block (set_other _ _ _ _ HGT.out)).trans ct
    have z0 : w1.cell? ⟨w.heap.size, 0, none⟩ = some (.int .i64 0) := cell_of HH1.out 0
    have zf0 : w1.frozen? ⟨w.heap.size, 0, none⟩ = false := free_of HH1.out 0
    have z1 : w1.cell? ⟨w.heap.size, 1, none⟩ = some (.string ⟨#[]⟩) := cell_of HH1.out 1
    have zf1 : w1.frozen? ⟨w.heap.size, 1, none⟩ = false := free_of HH1.out 1
    have z2 : w1.cell? ⟨w.heap.size, 2, none⟩ = some (.string ⟨#[]⟩) := cell_of HH1.out 2
    have zf2 : w1.frozen? ⟨w.heap.size, 2, none⟩ = false := free_of HH1.out 2
    have z3 : w1.cell? ⟨w.heap.size, 3, none⟩ = some (.string ⟨#[]⟩) := cell_of HH1.out 3
    have zf3 : w1.frozen? ⟨w.heap.size, 3, none⟩ = false := free_of HH1.out 3
    have z4 : w1.cell? ⟨w.heap.size, 4, none⟩ = some (.string ⟨#[]⟩) := cell_of HH1.out 4
    have zf4 : w1.frozen? ⟨w.heap.size, 4, none⟩ = false := free_of HH1.out 4
    have z5 : w1.cell? ⟨w.heap.size, 5, none⟩ = some (.string ⟨#[]⟩) := cell_of HH1.out 5
    have zf5 : w1.frozen? ⟨w.heap.size, 5, none⟩ = false := free_of HH1.out 5
    have z6 : w1.cell? ⟨w.heap.size, 6, none⟩ = some (.string ⟨#[]⟩) := cell_of HH1.out 6
    have zf6 : w1.frozen? ⟨w.heap.size, 6, none⟩ = false := free_of HH1.out 6
    have z7 : w1.cell? ⟨w.heap.size, 7, none⟩ = some (.slice none 0 0) := cell_of HH1.out 7
    have zf7 : w1.frozen? ⟨w.heap.size, 7, none⟩ = false := free_of HH1.out 7
    have z8 : w1.cell? ⟨w.heap.size, 8, none⟩ = some (.int .i64 0) := cell_of HH1.out 8
    have zf8 : w1.frozen? ⟨w.heap.size, 8, none⟩ = false := free_of HH1.out 8
    clear hE d0 d1 d2 d3 d4 d5 d6 d7 d8
    go_wp2_with (go_at_call 25; refine HD.out.mono ?_; rintro x w9 ⟨rfl, h9⟩; obtain rfl := h9.symm)
    go_region
    all_goals
      go_wp2_with fail
      refine bodyPost_ret (results_ct rfl _ rfl rfl (nine_set HH1.out).1 Tryz.underlying26 rfl sizeRec) rfl ?_
      exact ⟨none, .slice none 0 0, rfl, World.ownsRow_nil _ _ _ _, HB1.out.trans (nine_set HH1.out).2, HDN.out⟩
  | true =>
    rw [hE] at HD
    have HEE := hide hE
    cases hm : mayB r with
    | false =>
      rw [hm] at HMY
      have HDN := hide (dec_no HFIN.out (Or.inr hm))
      have HGT : Hid (2 ≠ w.heap.size) := hGT
      clear hE hm
      go_wp2_with (first
        | (go_at_call 25; refine HD.out.mono ?_; rintro x w9 ⟨rfl, h9⟩; obtain rfl := h9.symm)
        | (go_at_call 26; refine HMY.out.mono ?_; rintro x w2 ⟨rfl, b2⟩))
      have hlt2 := World.block_lt_of_cell? w1 _ d0
      have HH2 : Hid (w2.heap[w.heap.size]? = some (.cells zrec 26 (0, 0))) := (b2.block _ (by have : w.heap.size + 1 + 1 < w1.heap.size := hlt2; omega)).trans HH1.out
      have HB2 := hide (keepW HB1.out b2)
      have ct := (HENV.out w2 HB2.out).2
      have ct2 : (w2.setCell ⟨w.heap.size, 0, none⟩ (.int .i64 0)).cell? ⟨2, 0, none⟩ = some (errw.E e 1) := (World.cell?_of_block (set_other _ _ _ _ HGT.out)).trans ct
      have z0 : w2.cell? ⟨w.heap.size, 0, none⟩ = some (.int .i64 0) := cell_of HH2.out 0
      have zf0 : w2.frozen? ⟨w.heap.size, 0, none⟩ = false := free_of HH2.out 0
      have z1 : w2.cell? ⟨w.heap.size, 1, none⟩ = some (.string ⟨#[]⟩) := cell_of HH2.out 1
      have zf1 : w2.frozen? ⟨w.heap.size, 1, none⟩ = false := free_of HH2.out 1
      have z2 : w2.cell? ⟨w.heap.size, 2, none⟩ = some (.string ⟨#[]⟩) := cell_of HH2.out 2
      have zf2 : w2.frozen? ⟨w.heap.size, 2, none⟩ = false := free_of HH2.out 2
      have z3 : w2.cell? ⟨w.heap.size, 3, none⟩ = some (.string ⟨#[]⟩) := cell_of HH2.out 3
      have zf3 : w2.frozen? ⟨w.heap.size, 3, none⟩ = false := free_of HH2.out 3
      have z4 : w2.cell? ⟨w.heap.size, 4, none⟩ = some (.string ⟨#[]⟩) := cell_of HH2.out 4
      have zf4 : w2.frozen? ⟨w.heap.size, 4, none⟩ = false := free_of HH2.out 4
      have z5 : w2.cell? ⟨w.heap.size, 5, none⟩ = some (.string ⟨#[]⟩) := cell_of HH2.out 5
      have zf5 : w2.frozen? ⟨w.heap.size, 5, none⟩ = false := free_of HH2.out 5
      have z6 : w2.cell? ⟨w.heap.size, 6, none⟩ = some (.string ⟨#[]⟩) := cell_of HH2.out 6
      have zf6 : w2.frozen? ⟨w.heap.size, 6, none⟩ = false := free_of HH2.out 6
      have z7 : w2.cell? ⟨w.heap.size, 7, none⟩ = some (.slice none 0 0) := cell_of HH2.out 7
      have zf7 : w2.frozen? ⟨w.heap.size, 7, none⟩ = false := free_of HH2.out 7
      have z8 : w2.cell? ⟨w.heap.size, 8, none⟩ = some (.int .i64 0) := cell_of HH2.out 8
      have zf8 : w2.frozen? ⟨w.heap.size, 8, none⟩ = false := free_of HH2.out 8
      clear b2 d0 d1 d2 d3 d4 d5 d6 d7 d8 hlt2
      go_region
      all_goals
        go_wp2_with fail
        refine bodyPost_ret (results_ct rfl _ rfl rfl (nine_set HH2.out).1 Tryz.underlying26 rfl sizeRec) rfl ?_
        exact ⟨none, .slice none 0 0, rfl, World.ownsRow_nil _ _ _ _, HB2.out.trans (nine_set HH2.out).2, HDN.out⟩
    | true =>
      rw [hm] at HMY
      have HMM := hide hm
      clear hE hm
      go_wp2_with (first
        | (go_at_call 25; refine HD.out.mono ?_; rintro x w9 ⟨rfl, h9⟩; obtain rfl := h9.symm)
        | (go_at_call 26; refine HMY.out.mono ?_; rintro x w2 ⟨rfl, b2⟩; have hlt2 := World.block_lt_of_cell? w1 _ d0; have HQ2 := hide ((b2.block _ hlt2).trans HQ.out); have HRQ2 : Hid (w2.rangeAt (w.heap.size + 1 + 1) 0 (rcl9 r (.slice osl r.ss.length csl))) := range_of (t := 26) HQ2.out; have HH2 : Hid (w2.heap[w.heap.size]? = some (.cells zrec 26 (0, 0))) := (b2.block _ (by have : w.heap.size + 1 + 1 < w1.heap.size := hlt2; omega)).trans HH1.out; have HT2 : Hid (w2.there w.heap.size 0 9) := there_of (cur := zrec.toList) HH2.out 0 9 (by simp); have HB2 := hide (keepW HB1.out b2); have HO2 := hide (own_below HO1.out b2); clear b2 d0 d1 d2 d3 d4 d5 d6 d7 d8)
        | (refine wpList_load_mid rfl 26 (.tmp 5) rfl (w.heap.size + 1 + 1) 0 rfl _ _ HRQ2.out Tryz.underlying26 rfl sizeRec ?_)
        | (refine wpList_store_mid rfl 26 (.tmp 2) (.tmp 19) rfl w.heap.size 0 (rcs r (.slice osl r.ss.length csl)) rfl rfl HT2.out sizeRec (rcs_one _ _ _ _) ?_))
      refine bodyPost_ret (results_ct rfl _ rfl rfl (World.rangeAt_setCells_same _ w.heap.size 0 (rcs r (.slice osl r.ss.length csl)).toList HT2.out) Tryz.underlying26 rfl sizeRec) rfl ?_
      refine ⟨some r, .slice osl r.ss.length csl, rfl, ?_, ?_, dec_yes HFIN.out HLOW.out.1 HLOW.out.2 HEE.out HMM.out⟩
      · exact own_least (own_at HO2.out (fun g hg => sets_other _ _ _ _ _ (by have := HZW.out; omega))) HBW.out.size
      · exact HB2.out.trans (((Fr.refl [w.heap.size] w2).sets w.heap.size 0 _ (Or.inl (List.mem_singleton.2 rfl))).below (fun k hk => by rw [List.mem_singleton.1 hk]; exact Nat.le_refl _) HB2.out.size)
end Go.Proofs.YtocpikgcbibcoaaGreatDoor.rc

namespace Go.Proofs.YtocpikgcbibcoaaGreatDoor.dk
open Go.ChangeShapes Go.WideShapes Go.ChangeAt Go.RowKit Go.Proofs.YtocpikgcbibcoaaGreatDoor.common
set_option maxRecDepth 100000 in
set_option maxHeartbeats 1600000 in
theorem sameBytes_eq (w : World) (va vb : Value) (l : List UInt8) (ha : Rd w va l) (hb : Rd w vb l) (hl : l.length ≤ 4611686018427387904) :
    Calls Tryz.prog 11 #[va, vb] w fun r' w' => r' = .returned (.bool true) ∧ Below w.heap.size w w' := by
  obtain ⟨oa, ca, rfl⟩ := ha.len
  obtain ⟨ob, cb, rfl⟩ := hb.len
  have HA := hide ha
  have HB := hide hb
  clear ha hb
  go_enter Tryz.func11, Tryz.ntmps11
  go_wp2
  go_loopw [5] (fun i wr => ∃ k : Nat, k ≤ l.length ∧ i = .int .i64 k ∧ ∃ n, wr = w.drewN n) (fun i _ => l.length - (intOf i).toNat)
  case atStart => exact ⟨0, Nat.zero_le _, rfl, 0, rfl⟩
  case round =>
    obtain ⟨k, hk, rfl, n, rfl⟩ := hrel
    by_cases hlt : k < l.length
    · obtain ⟨ga, o1, rfl, h1⟩ := HA.out.cell (by omega)
      obtain ⟨gb, o2, rfl, h2⟩ := HB.out.cell (by omega)
      have c1 : w.cell? ⟨ga, o1 + k, none⟩ = some (B l[k]) := h1 k hlt
      have c2 : w.cell? ⟨gb, o2 + k, none⟩ = some (B l[k]) := h2 k hlt
      have k0 : (0 : Int) ≤ (k : Int) := Int.natCast_nonneg _
      have k1 : (k : Int) < (l.length : Int) := by omega
      clear h1 h2
      generalize l[k] = x at *
      go_wp2_with fail
      go_quiet (fail)
      go_wp2
      go_roundw
      case rel => exact ⟨k + 1, by omega, by go_num, _, rfl⟩
      case measure => simp [intOf]; omega
    · obtain rfl : k = l.length := by omega
      go_wp2
      go_ret
      exact ⟨rfl, bdN (Below.refl _ _) _⟩

end Go.Proofs.YtocpikgcbibcoaaGreatDoor.dk

namespace Go.Proofs.YtocpikgcbibcoaaGreatDoor.tm
open Go.ChangeShapes Go.WideShapes Go.ChangeAt Go.RowKit Go.Proofs.YtocpikgcbibcoaaGreatDoor.common Go.Proofs.YtocpikgcbibcoaaGreatDoor.bk
open Go.Shelf Go.Lib

theorem rngG : Tryz.prog.globalNamed "strconv.ErrRange" = some 21 := by kernel_rfl
theorem rngT : (Tryz.prog.globals[21]?).map (·.type) = some 29 := by kernel_rfl
theorem synG : Tryz.prog.globalNamed "strconv.ErrSyntax" = some 20 := by kernel_rfl
theorem synT : (Tryz.prog.globals[20]?).map (·.type) = some 29 := by kernel_rfl
theorem nums_of_laid {W : World} {rest : List (String × DataW Unit)} (h : laidMet Tryz.prog (("strconv.ErrRange", Rows.laid_strconv_ErrRange) :: ("strconv.ErrSyntax", Rows.laid_strconv_ErrSyntax) :: rest) W) : Nums W := by
  obtain ⟨ps, h0, _, hrows⟩ := h
  obtain ⟨a0, q0, c0, h1, rfl⟩ := errw.peel h0 (fun b off hm => hrows b off (by simp [hm])) rngG rngT Tryz.underlying29 errw.rowErr Tryz.underlying195 Tryz.underlying197 rfl rfl Tryz.underlying9 errw.cellsErr errw.cellsStr
  obtain ⟨a1, q1, c1, h2, rfl⟩ := errw.peel h1 (fun b off hm => hrows b off (by simp [hm])) synG synT Tryz.underlying29 errw.rowErr Tryz.underlying195 Tryz.underlying197 rfl rfl Tryz.underlying9 errw.cellsErr errw.cellsStr
  exact ⟨⟨_, _, c1⟩, ⟨_, _, c0⟩⟩
theorem locG : Tryz.prog.globalNamed "usher/terms.localHosts" = some 16 := by kernel_rfl
theorem locTy : (Tryz.prog.globals[16]?).map (·.type) = some 128 := by kernel_rfl
theorem loc_is : (Rows.laid_usher_terms_localHosts : DataW Unit) = .agg ((List.range 3).map fun i => .lit (.string (tH i))) := by kernel_rfl
theorem loc_of_laid {w : World} {l : List (String × DataW Unit)} (h : laidMet Tryz.prog l w) (h1 : ("usher/terms.localHosts", Rows.laid_usher_terms_localHosts) ∈ l) : Loc w := by
  have a := laidMet.reads h h1
  rw [loc_is] at a
  have key : ∀ i, i < 3 → w.cell? ⟨16, i, none⟩ = some (S (tH i)) := by
    intro i hi
    obtain ⟨g, t, cs, fuel, p, hg, hty, hvar, hd⟩ := a
    obtain rfl := Option.some.inj (locG.symm.trans hg)
    obtain rfl := Option.some.inj (locTy.symm.trans hty)
    obtain ⟨fuel', d, q, hdi, he⟩ := array_elem Tryz.underlying128 hd i hi
    simp only [List.getElem?_map, List.getElem?_range hi, Option.map_some, Option.some.injEq] at hdi
    subst hdi
    rw [errw.cellsStr] at he
    obtain ⟨z, e0, f0⟩ := DataW.trod_string Tryz.underlying9 he
    have f1 : (DataW.lit (.string (tH i)) : DataW Unit) = _ := congrArg Prod.fst f0.1
    simp only [DataW.lit.injEq, Lit.string.injEq] at f1
    have e0 := congrArg (·[0]?) e0
    simp only [List.getElem?_take, List.getElem?_drop] at e0
    rw [World.var?_cell hg hvar i, ← Array.getElem?_toList]
    have : S (tH i) = .string z := congrArg Value.string (ba_ext f1)
    rw [this]
    simpa using e0
  intro j v hv
  have hj : j < 3 := by
    have := (List.getElem?_eq_some_iff.1 hv).1
    exact this
  match j, hj with
  | 0, _ => rw [← hv]; exact key 0 (by decide)
  | 1, _ => rw [← hv]; exact key 1 (by decide)
  | 2, _ => rw [← hv]; exact key 2 (by decide)

end Go.Proofs.YtocpikgcbibcoaaGreatDoor.tm

namespace Go.Proofs.YtocpikgcbibcoaaGreatDoor.rc
open Go.ChangeShapes Go.WideShapes Go.ChangeAt Go.RowKit Go.Joins Go.Deep Go.WideElems Go.Maps Go.Proofs.YtocpikgcbibcoaaGreatDoor.common Go.Proofs.YtocpikgcbibcoaaGreatDoor.ss

theorem kfG : Tryz.prog.globalNamed "usher/record.kindFields" = some 7 := by kernel_rfl
theorem kfT : (Tryz.prog.globals[7]?).map (·.type) = some 84 := by kernel_rfl
theorem kfC : Tryz.prog.cellsOf 84 = 12 := by kernel_rfl
theorem intC : Tryz.prog.cellsOf 3 = 1 := by kernel_rfl
theorem ktab_of {W : World} {rest : List (String × DataW Unit)} (h : laidMet Tryz.prog (("usher/record.kindFields", Rows.laid_usher_record_kindFields) :: rest) W) : KTab W := by
  have t : Lib.TabIs Tryz.prog W "usher/record.kindFields" .i64 kf := Lib.tabIs_of_head (rest := rest) kfG kfT Tryz.underlying84 Tryz.underlying3 intC kfC h
  intro i hi
  rw [t.cell kfG i (by simpa [kf] using hi)]
end Go.Proofs.YtocpikgcbibcoaaGreatDoor.rc

namespace Go.Proofs.YtocpikgcbibcoaaGreatDoor.errw
open Go.ChangeShapes Go.WideShapes Go.ChangeAt Go.RowKit Go.Proofs.YtocpikgcbibcoaaGreatDoor.common
end Go.Proofs.YtocpikgcbibcoaaGreatDoor.errw

namespace Go.Proofs.YtocpikgcbibcoaaGreatDoor.wl
open Go.ChangeShapes Go.WideShapes Go.ChangeAt Go.RowKit Go.Joins Go.Deep Go.Proofs.YtocpikgcbibcoaaGreatDoor.common Go.Proofs.YtocpikgcbibcoaaGreatDoor.dk

end Go.Proofs.YtocpikgcbibcoaaGreatDoor.wl

namespace Go.Proofs.YtocpikgcbibcoaaGreatDoor.fd
open Go
section
variable {H : Type} {enc : TypeId × Value → H}
/-- there is an input that fits, at a world whose shape is told in one pass -/
theorem witness_row_zip {C : Checked} {os : Os} {f : FuncId} {fn : Func} {s : OpenSpec} {conds : List PathCond} {apart : Bool} {laid : List (String × DataW Unit)} (modest : Bool) (w0 : World) (args : Array Value) (hos : w0.os = os)
    (hv : (w0.forCall (fun _ _ => 0) ⟨#[], args, []⟩).variablesZipB C.prog = true)
    (hr : ((w0.forCall (fun _ _ => 0) ⟨#[], args, []⟩).heap.toList.drop C.prog.globals.size).take ((begin C.prog (fun _ _ => 0) default).world.heap.size - C.prog.globals.size) =
      (begin C.prog (fun _ _ => 0) default).world.heap.toList.drop C.prog.globals.size)
    (hok : Input.okWideB C.prog (w0.forCall (fun _ _ => 0) ⟨#[], args, []⟩) f ⟨#[], args, []⟩ = true)
    (hrow : s.preRow enc C.prog fn conds apart laid (w0.forCall (fun _ _ => 0) ⟨#[], args, []⟩).memory args) :
    ∃ (w : World) (tape : Tape) (i : Input), w.os = os ∧ (w.forCall tape i).Shaped C.prog ∧ i.vars = [] ∧ Input.okWide C.prog (w.forCall tape i) .any w.heap.size f i ∧
      s.preRow enc C.prog fn conds apart laid (w.forCall tape i).memory i.args ∧ ({ modest := modest } : Assume).holds C.prog (lone (Frame.enter C.prog f i.args .normal) [] (w.forCall tape i)) :=
  ⟨w0, fun _ _ => 0, ⟨#[], args, []⟩, hos, World.shaped_of_ZipB hv hr, (Input.okWide_of_okWideB (base := 0) hok).1, (Input.okWide_of_okWideB hok).2, hrow, by
    simp only [Assume.holds]
    exact ⟨by simp, by simp, fun _ => Modest.zero, by simp, by simp⟩⟩
end
end Go.Proofs.YtocpikgcbibcoaaGreatDoor.fd

namespace Go.Proofs.YtocpikgcbibcoaaGreatDoor.rc
open Go.Proofs.YtocpikgcbibcoaaGreatDoor.common

/-- records that may be, as they are read -/
def GoodL (l : List Rec) : Prop := ∀ r ∈ l, mayB r = true ∧ r.Low ∧ r.ss.length ≤ 16
structure UnR (p : List UInt8) (o : Option (List Rec)) : Prop where
  is : ∀ l, o = some l → 0 < l.length ∧ l.length ≤ 4 ∧ GoodL l ∧ numL l.length ++ l.flatMap oneL = p
  on : ∀ y, 0 < y.length → y.length ≤ 4 → GoodL y → numL y.length ++ y.flatMap oneL = p → o = some y
theorem UnR.one {p : List UInt8} {o o' : Option (List Rec)} (h : UnR p o) (h' : UnR p o') : o = o' := by
  cases o with
  | some l => obtain ⟨a, b, c, d⟩ := h.is l rfl; exact (h'.on l a b c d).symm
  | none =>
    cases o' with
    | none => rfl
    | some l => obtain ⟨a, b, c, d⟩ := h'.is l rfl; exact h.on l a b c d
/-- the bytes of a record as a text -/
def rtx (r : Rec) : ByteArray := ⟨(recL r).toArray⟩
theorem one_tx (r : Rec) : oneL r = txL (rtx r) := by
  unfold oneL txL rtx
  have h : (⟨(recL r).toArray⟩ : ByteArray).size = (recL r).length := by show (recL r).toArray.size = _; simp
  rw [h]
/-- what was written is read, record by record: the first i -/
def UOn (i : Nat) (s : St) (xs : List Rec) (s' : St) : Prop := ∀ y t, GoodL y → i ≤ y.length → s = some (y.flatMap oneL ++ t) → xs = y.take i ∧ s' = some ((y.drop i).flatMap oneL ++ t)
theorem uon_zero (s : St) : UOn 0 s [] s := fun y t _ _ e => ⟨by simp, by simpa using e⟩
/-- what the text at the head of them is -/
theorem uon_head {i : Nat} {s s' : St} {xs y : List Rec} {t : List UInt8} (h : UOn i s xs s') (hy : GoodL y) (hi : i < y.length) (e : s = some (y.flatMap oneL ++ t)) : s' = some (txL (rtx y[i]) ++ ((y.drop (i + 1)).flatMap oneL ++ t)) := by
  rw [(h y t hy (by omega) e).2, List.drop_eq_getElem_cons hi, List.flatMap_cons, one_tx, List.append_assoc]
theorem uon_next {i : Nat} {s s1 s2 : St} {xs : List Rec} {x : ByteArray} {r : Rec} (h : UOn i s xs s1) (hx : ∀ y l, y.size ≤ 30000000 → s1 = some (txL y ++ l) → x = y ∧ s2 = some l) (hd : DecR x.data.toList (some r)) : UOn (i + 1) s (xs ++ [r]) s2 := fun y t hy hi e => by
  have hs1 := uon_head h hy (by omega) e
  have hg := hy y[i] (List.getElem_mem (by omega))
  have hsz : (rtx y[i]).size ≤ 30000000 := by
    have h1 : (rtx y[i]).size = (recL y[i]).length := by unfold rtx; show (recL y[i]).toArray.size = _; simp
    rw [h1]
    exact recL_len hg.2.1 hg.2.2
  obtain ⟨a1, a2⟩ := hx _ _ hsz hs1
  have hx1 : x.data.toList = recL y[i] := by rw [a1]; unfold rtx; simp
  have hr := hd.on y[i] hg.1 hg.2.1 hx1.symm
  refine ⟨?_, a2⟩
  rw [(h y t hy (by omega) e).1, List.take_succ_eq_append_getElem (by omega), Option.some.inj hr]
/-- nothing is read where a record is none -/
theorem uon_none {i n : Nat} {p : List UInt8} {s1 s2 : St} {xs : List Rec} {x : ByteArray} (hn : ∀ y, 0 < y.length → y.length ≤ 4 → GoodL y → numL y.length ++ y.flatMap oneL = p → n = y.length ∧ s1 = some (y.flatMap oneL ++ []))
    (h : UOn i s1 xs s2) (hi : i < n) (hx : ∀ y l, y.size ≤ 30000000 → s2 = some (txL y ++ l) → x = y) (hd : DecR x.data.toList none) : UnR p none := by
  refine ⟨fun l hl => (by cases hl), fun y h0 h4 hy e => ?_⟩
  obtain ⟨h1, h2⟩ := hn y h0 h4 hy e
  have hs1 := uon_head h hy (by omega) h2
  have hg := hy y[i] (List.getElem_mem (by omega))
  have hsz : (rtx y[i]).size ≤ 30000000 := by
    have h1 : (rtx y[i]).size = (recL y[i]).length := by unfold rtx; show (recL y[i]).toArray.size = _; simp
    rw [h1]
    exact recL_len hg.2.1 hg.2.2
  have a1 := hx _ _ hsz hs1
  have hx1 : x.data.toList = recL y[i] := by rw [a1]; unfold rtx; simp
  have hr := hd.on y[i] hg.1 hg.2.1 hx1.symm
  cases hr
end Go.Proofs.YtocpikgcbibcoaaGreatDoor.rc

namespace Go.Proofs.YtocpikgcbibcoaaGreatDoor.rc
open Go.ChangeShapes Go.WideShapes Go.ChangeAt Go.RowKit Go.Proofs.YtocpikgcbibcoaaGreatDoor.common Go.Proofs.YtocpikgcbibcoaaGreatDoor.dk
attribute [local go_sem ↓] Go.wp_at_zero Go.wp_at_succ

theorem wpList_make_sz (w : World) {P : Program} {ops : Array Oper} {rest : List Oper} {o : Oper} {a : Act} {Q : Exit → Act → World → Prop}
    (hg : o.guard = none) (l c : Operand) (t : TypeId) (hop : o.op = Op.makeSlice t l c)
    (e : TypeId) (i : TypeInfo) (z : Value) (ht : P.underlying t = some (.slice e)) (hi : P.info? e = some i) (hz : i.zero = some z)
    (kl kc : IntKind) (n : Nat) (hl : a.eval l = .int kl (n : Int)) (hc : a.eval c = .int kc (n : Int)) (hbytes : (i.bytes : Int) * (n : Int) ≤ 281474976710656) (h63 : (n : Int) ≤ 9223372036854775807)
    (hK : wpList P ops Q rest (a.put o.dst (.slice (some ⟨w.heap.size, 0, none⟩) n n)) (w.alloc (.cells (madeCells z.cells (n * i.size)) e))) :
    wpList P ops Q (o :: rest) a w := by
  refine wpList_plain hg fun K hK' => ?_
  have hrun := run_make (P := P) w t e i z ht hi hz kl kc n n (Int.natCast_nonneg _) (Int.le_refl _) hbytes h63
  simp only [Int.toNat_natCast] at hrun
  unfold Oper.wp
  simp [execOp, hop, hl, hc, hrun, Result.andThen]
  exact hK' _ _ hK
theorem Lo.wide {K : Nat} {w : World} {v : Value} {l : List UInt8} (h : Lo K w v l) : Lo w.heap.size w v l := by
  obtain ⟨oa, cap, e, hc, h2⟩ := h
  exact ⟨oa, cap, e, hc, fun h0 => by obtain ⟨g, o, e1, _, e3, e4⟩ := h2 h0; exact ⟨g, o, e1, e3, e3, e4⟩⟩
/-- the row of records that is filled, the reader beside it -/
structure Un (P g n : Nat) (w : World) (xs : List Rec) (s : St) (X : World) : Prop where
  rs : Rs w.heap.size P X s
  box : ∃ cur : List Value, X.heap[g]? = some (.cells cur.toArray 26 (0, 0)) ∧ cur.length = n * 9
  each : ∀ j (h : j < xs.length), ∃ vj, X.rangeAt g (j * 9) (rcl9 xs[j] vj) ∧ X.ownsRow (g + 1) 9 1 vj xs[j].ss.length (xs[j].ss.map Value.string)
  low : Below w.heap.size w X
  pg : P < g ∧ w.heap.size ≤ P
theorem Un.lt {P g n : Nat} {w : World} {xs : List Rec} {s : St} {X : World} (h : Un P g n w xs s X) : g < X.heap.size := by
  obtain ⟨cur, h1, _⟩ := h.box
  exact (Array.getElem?_eq_some_iff.1 h1).1
theorem Un.lies {P g n : Nat} {w : World} {xs : List Rec} {s : St} {X : World} (h : Un P g n w xs s X) (cap : Nat) : LiesR X (.slice (some ⟨g, 0, none⟩) xs.length cap) xs := by
  refine ⟨_, cap, rfl, fun i hi => ?_⟩
  obtain ⟨vj, h1, h2⟩ := h.each i hi
  exact ⟨g, 0, vj, rfl, h.lt, by rw [Nat.zero_add]; exact h1, ss.lies_of_own h2⟩
/-- the reader has read on, and what is new lies above -/
theorem Un.step {P g n : Nat} {w : World} {xs : List Rec} {s s' : St} {X Y Z : World} (h : Un P g n w xs s X) (hf : Fr [P] X Y) (hr : Rs w.heap.size P Y s') (hb : Below Y.heap.size Y Z) : Un P g n w xs s' Z := by
  have hpg := h.pg
  have hgX := h.lt
  have e1 : ∀ k, k < X.heap.size → k ≠ P → Z.heap[k]? = X.heap[k]? := fun k hk hn => (hb.block k (Nat.lt_of_lt_of_le hk hf.size)).trans (hf.block k hk (fun hm => hn (List.mem_singleton.1 hm)))
  refine ⟨hr.keep (fun g' _ hs => hb.block g' hs) (hb.block P hr.lt) hb.size, ?_, fun j hj => ?_, ?_, hpg⟩
  · obtain ⟨cur, h1, h2⟩ := h.box
    exact ⟨cur, (e1 g hgX (by omega)).trans h1, h2⟩
  · obtain ⟨vj, h1, h2⟩ := h.each j hj
    refine ⟨vj, range_block h1 (e1 g hgX (by omega)), ?_⟩
    exact own_below (own_pq h2 (p := P) (q := P) (hf.mono (fun k hk => by rw [List.mem_singleton.1 hk]; exact List.mem_cons_self ..)) (by omega) (by omega)) hb
  · exact (h.low.trans (hf.below (fun k hk => by rw [List.mem_singleton.1 hk]; exact hpg.2) h.low.size)).trans (hb.mono (Nat.le_trans h.low.size hf.size))
/-- a record is laid into the row -/
theorem Un.put {P g n : Nat} {w : World} {xs : List Rec} {s : St} {X : World} (h : Un P g n w xs s X) (r : Rec) (v : Value) (hv : X.ownsRow (g + 1) 9 1 v r.ss.length (r.ss.map Value.string)) (hi : xs.length < n) : Un P g n w (xs ++ [r]) s (X.setCells g (xs.length * 9) (rcl9 r v)) := by
  have hpg := h.pg
  have hgX := h.lt
  obtain ⟨cur, h1, h2⟩ := h.box
  have h9 : (rcl9 r v).length = 9 := rfl
  have hth : X.there g (xs.length * 9) 9 := there_of h1 _ _ (by omega)
  have hb : Below g X (X.setCells g (xs.length * 9) (rcl9 r v)) := ((Fr.refl [g] X).sets g (xs.length * 9) _ (Or.inl (List.mem_singleton.2 rfl))).below (fun k hk => by rw [List.mem_singleton.1 hk]; exact Nat.le_refl _) (by omega)
  have ho : ∀ {z : Value} {m : Nat} {ys : List Value}, X.ownsRow (g + 1) 9 1 z m ys → (X.setCells g (xs.length * 9) (rcl9 r v)).ownsRow (g + 1) 9 1 z m ys := fun hz => own_at hz (fun k hk => sets_other _ _ _ _ _ (by omega))
  refine ⟨h.rs.keep (fun k hk _ => sets_other _ _ _ _ _ (by omega)) (sets_other _ _ _ _ _ (by omega)) hb.size, ?_, fun j hj => ?_, h.low.trans (hb.mono (by omega)), hpg⟩
  · refine ⟨_, sets_here h1 (rcl9 r v) (xs.length * 9) (by omega), ?_⟩
    simp only [List.length_append, List.length_take, List.length_drop]
    omega
  · by_cases hjl : j < xs.length
    · have e : (xs ++ [r])[j] = xs[j] := List.getElem_append_left hjl
      obtain ⟨vj, q1, q2⟩ := h.each j hjl
      rw [e]
      refine ⟨vj, World.rangeAt_setCells_apart q1 _ _ _ (Or.inr (Or.inl ?_)), ho q2⟩
      show j * 9 + 9 ≤ xs.length * 9
      omega
    · have e : j = xs.length := by simp at hj; omega
      subst e
      have e2 : (xs ++ [r])[xs.length] = r := List.getElem_concat_length rfl _
      rw [e2]
      exact ⟨v, World.rangeAt_setCells_same _ _ _ _ (by rw [h9]; exact hth), ho hv⟩
def UnOut (p : List UInt8) (Y N : Value) (w : World) (x : Ending) (w' : World) : Prop :=
  ∃ (o : Option (List Rec)) (v' : Value), x = .returned (.tuple #[v', if o.isSome then Y else N]) ∧ LiesR w' v' (o.getD []) ∧ Below w.heap.size w w' ∧ UnR p o
theorem liesR_nil (w : World) : LiesR w (.slice none 0 0) [] := ⟨none, 0, rfl, fun _ hi => absurd hi (Nat.not_lt_zero _)⟩
end Go.Proofs.YtocpikgcbibcoaaGreatDoor.rc
