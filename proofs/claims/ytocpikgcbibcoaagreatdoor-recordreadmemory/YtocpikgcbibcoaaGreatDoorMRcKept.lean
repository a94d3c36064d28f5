import Derived.Test.YtocpikgcbibcoaaGreatDoorMRcWk
import Derived.Test.YtocpikgcbibcoaaGreatDoorMRdKit
import Derived.Test.YtocpikgcbibcoaaGreatDoorMRcWkB
import Derived.Test.YtocpikgcbibcoaaGreatDoorMRcWkD
import Derived.Test.YtocpikgcbibcoaaGreatDoorMErrWalks
import Derived.Test.YtocpikgcbibcoaaGreatDoorMTermLays
import Derived.Lib.SlicesCompact
namespace Go.Proofs.YtocpikgcbibcoaaGreatDoor.rc
open Go.ChangeShapes Go.WideShapes Go.ChangeAt Go.RowKit Go.Proofs.YtocpikgcbibcoaaGreatDoor.common Go.Proofs.YtocpikgcbibcoaaGreatDoor.ss
attribute [local go_sem ↓] Go.wp_at_zero Go.wp_at_succ

set_option maxRecDepth 100000 in
set_option maxHeartbeats 3200000 in
theorem check_any (r : Rec) (v : Value) (ea em : Addr) (eA : Value) (w : World) (hv : Lies w v r.ss) (hz : r.Small) (he : Env ea em eA w) :
    Calls Tryz.prog 21 #[.agg (rcs r v)] w fun e w' => e = .returned (if mayB r then .nilIface else eA) ∧ Below w.heap.size w w' := by
  obtain ⟨W0, hW0⟩ : ∃ W0, W0 = w.alloc (.cells (rcs r v) 26) := ⟨_, rfl⟩
  have hb0 : Below w.heap.size w W0 := by rw [hW0]; exact (Below.refl _ _).alloc (Nat.le_refl _) _
  have HM := hide (mayBe_any r v ea em eA W0 (hv.below hb0) hz (he.below hb0))
  have HE := hide (he.below hb0)
  have HB0 := hide hb0
  have HR : Hid (W0.rangeAt w.heap.size 0 (rcs r v).toList) := by
    show World.rangeAt _ _ _ _
    rw [hW0]
    exact dk.range_of (heap_alloc_new w _)
  have HW0 := hide hW0
  obtain ⟨R, hR⟩ : ∃ R, R = (if mayB r then Value.nilIface else eA) := ⟨_, rfl⟩
  rw [← hR]
  have HRR := hide hR
  clear hv hz he hb0 hW0 hR
  cases hm : mayB r with
  | true =>
    rw [hm] at HM HRR
    clear hm
    go_enter Tryz.func21, Tryz.ntmps21
    go_wp2_with fail
    rw [← HW0.out]
    refine HM.out.mono ?_
    rintro x w2 ⟨rfl, b2⟩
    have HB := hide (keepW HB0.out b2)
    clear b2
    go_wp2_with fail
    go_ret
    exact ⟨by rw [HRR.out]; rfl, HB.out⟩
  | false =>
    rw [hm] at HM HRR
    clear hm
    go_enter Tryz.func21, Tryz.ntmps21
    go_wp2_with fail
    rw [← HW0.out]
    refine HM.out.mono ?_
    rintro x w2 ⟨rfl, b2⟩
    have HB := hide (keepW HB0.out b2)
    have ca := (HE.out.below b2).arg
    clear b2
    go_wp2_with fail
    go_ret
    exact ⟨by rw [HRR.out]; rfl, HB.out⟩

theorem own_at {W W' : World} {base : Nat} {e : TypeId} {size : Nat} {v : Value} {n : Nat} {xs : List Value} (h : W.ownsRow base e size v n xs) (hk : ∀ g, base ≤ g → W'.heap[g]? = W.heap[g]?) : W'.ownsRow base e size v n xs := by
  refine ⟨h.1, ?_⟩
  rcases h.2 with hh | ⟨g, cap, cur, rfl, hg, hh, hn⟩
  · exact Or.inl hh
  · exact Or.inr ⟨g, cap, cur, rfl, hg, (hk g hg).trans hh, hn⟩
theorem own_least {W : World} {base base' : Nat} {e : TypeId} {size : Nat} {v : Value} {n : Nat} {xs : List Value} (h : W.ownsRow base e size v n xs) (hb : base' ≤ base) : W.ownsRow base' e size v n xs := by
  refine ⟨h.1, ?_⟩
  rcases h.2 with hh | ⟨g, cap, cur, rfl, hg, hn⟩
  · exact Or.inl hh
  · exact Or.inr ⟨g, cap, cur, rfl, Nat.le_trans hb hg, hn⟩
theorem own_slice {w : World} {base : Nat} {e : TypeId} {size : Nat} {v : Value} {n : Nat} {xs : List Value} (h : w.ownsRow base e size v n xs) : ∃ oa cap, v = .slice oa n cap := by
  rcases h.2 with ⟨rfl, h0⟩ | ⟨g, cap, cur, rfl, _⟩
  · exact ⟨none, 0, by rw [h0]⟩
  · exact ⟨_, cap, rfl⟩
theorem grown_blk {w w' : World} {row : Option Nat} (hg : w.grownBy w' row) {b : Nat} {o : Obj} (h : w.heap[b]? = some o) (hr : ∀ k, row = some k → k ≠ b) : w'.heap[b]? = some o :=
  (hg.block b (Array.getElem?_eq_some_iff.1 h).1 (fun e => hr b e.symm rfl)).trans h
theorem sizeRec : (Tryz.prog.info? 26).map (·.size) = some 9 := by kernel_rfl
abbrev zrec : Array Value := #[.int .i64 0, .string ⟨#[]⟩, .string ⟨#[]⟩, .string ⟨#[]⟩, .string ⟨#[]⟩, .string ⟨#[]⟩, .string ⟨#[]⟩, .slice none 0 0, .int .i64 0]
theorem rcs_one (r : Rec) (oa : Option Addr) (n c : Nat) : (rcs r (.slice oa n c)).all (·.oneCell') = true := by simp [Value.oneCell']

end Go.Proofs.YtocpikgcbibcoaaGreatDoor.rc

namespace Go.Proofs.YtocpikgcbibcoaaGreatDoor.rc
open Go.ChangeShapes Go.WideShapes Go.ChangeAt Go.RowKit Go.Proofs.YtocpikgcbibcoaaGreatDoor.common Go.Proofs.YtocpikgcbibcoaaGreatDoor.dk

theorem kindsI (k : Int) (h0 : 0 < k) (h1 : k < 12) : k = 1 ∨ k = 2 ∨ k = 3 ∨ k = 4 ∨ k = 5 ∨ k = 6 ∨ k = 7 ∨ k = 8 ∨ k = 9 ∨ k = 10 ∨ k = 11 := by omega
theorem walkW_any (b p : Nat) (r : Rec) (v : Value) (w : World) (h0 : 0 < r.k) (h1 : r.k < 12) (hw : Wr p w []) (hS : Src b p r v w) (hF : r.Fine) :
    Calls Tryz.prog 22 #[.pointer (some ⟨b, 0, none⟩), .iface 53 (.pointer (some ⟨p, 0, none⟩))] w fun e w' => e = .returned (.tuple #[]) ∧ Wr p w' (recL r) ∧ Below p w w' := by
  rcases kindsI r.k h0 h1 with h | h | h | h | h | h | h | h | h | h | h
  · exact walkW_1 b p r v w h hw hS hF
  · exact walkW_2 b p r v w h hw hS hF
  · exact walkW_3 b p r v w h hw hS hF
  · exact walkW_4 b p r v w h hw hS hF
  · exact walkW_5 b p r v w h hw hS hF
  · exact walkW_6 b p r v w h hw hS hF
  · exact walkW_7 b p r v w h hw hS hF
  · exact walkW_8 b p r v w h hw hS hF
  · exact walkW_9 b p r v w h hw hS hF
  · exact walkW_10 b p r v w h hw hS hF
  · exact walkW_11 b p r v w h hw hS hF
/-- no text is long -/
structure Rec.Low (r : Rec) : Prop where
  id : r.id.size ≤ 1048576
  us : r.us.size ≤ 1048576
  cl : r.cl.size ≤ 1048576
  rd : r.rd.size ≤ 1048576
  ch : r.ch.size ≤ 1048576
  cd : r.cd.size ≤ 1048576
  ss : ∀ s ∈ r.ss, s.size ≤ 1048576
theorem fine_of {r : Rec} (h : mayB r = true) (hl : r.Low) : 0 < r.k ∧ r.k < 12 ∧ r.Fine := by
  unfold mayB isK at h
  simp only [Bool.and_eq_true, decide_eq_true_eq] at h
  obtain ⟨⟨k0, k1⟩, _, _, _, _, _, _, hL, hT⟩ := h
  have hlen : r.ss.length ≤ 16 := by
    unfold fitL at hL
    split at hL
    · simp only [Bool.and_eq_true, decide_eq_true_eq] at hL
      exact hL.1.1.2
    · simp only [decide_eq_true_eq] at hL
      omega
  have hat : 0 ≤ r.at_ ∧ r.at_ ≤ 1099511627776 := by
    unfold fitT at hT
    split at hT
    · simpa only [Bool.and_eq_true, decide_eq_true_eq] using hT
    · simp only [decide_eq_true_eq] at hT
      omega
  have hid := hl.id
  have hus := hl.us
  have hcl := hl.cl
  have hrd := hl.rd
  have hch := hl.ch
  have hcd := hl.cd
  exact ⟨k0, k1, by omega, by omega, by omega, by omega, by omega, by omega, hlen, fun s hs => by have := hl.ss s hs; omega, hat.1, by omega⟩
theorem recL_len {r : Rec} (hl : r.Low) (hn : r.ss.length ≤ 16) : (recL r).length ≤ 30000000 := by
  have t1 := txL_len r.id
  have t2 := txL_len r.us
  have t3 := txL_len r.cl
  have t4 := txL_len r.rd
  have t5 := txL_len r.ch
  have t6 := txL_len r.cd
  have hid := hl.id
  have hus := hl.us
  have hcl := hl.cl
  have hrd := hl.rd
  have hch := hl.ch
  have hcd := hl.cd
  have n1 : (numL r.at_.toNat).length ≤ 10 := (numF_len 9 r.at_.toNat).2
  have s1 : (lsL r.ss).length ≤ 10 + 16 * (1048576 + 10) := by
    unfold lsL
    have h3 := flat_len r.ss 1048576 hl.ss
    have h4 : (numL r.ss.length).length ≤ 10 := (numF_len 9 r.ss.length).2
    have h5 := Nat.mul_le_mul_right (1048576 + 10) hn
    rw [List.length_append]
    omega
  have i1 : (idL r).length ≤ 1048586 := by unfold idL; split <;> (try simp) <;> omega
  have i2 : (midL r).length ≤ 2097172 := by unfold midL; split <;> (try split) <;> (try simp) <;> omega
  have i3 : (endL r).length ≤ 20000000 := by unfold endL; split <;> (try split) <;> (try split) <;> (try simp) <;> omega
  unfold recL
  simp only [List.length_append, List.length_cons, List.length_nil]
  omega

/-- what is answered: a row of one's own, no error; or nothing, and the refusal -/
def EncOut (r : Rec) (eA : Value) (w : World) (x : Ending) (w' : World) : Prop :=
  ∃ v', x = .returned (.tuple #[v', if mayB r then .nilIface else eA]) ∧ (∃ n, w.heap.size ≤ n ∧ w'.ownsRow n 5 1 v' (if mayB r then recL r else []).length ((if mayB r then recL r else []).map B)) ∧ Below w.heap.size w w'

set_option maxRecDepth 100000 in
set_option maxHeartbeats 3200000 in
theorem encode_any (r : Rec) (v : Value) (ea em : Addr) (e : Nat → Addr) (w : World) (hv : Go.Proofs.YtocpikgcbibcoaaGreatDoor.ss.Lies w v r.ss) (hz : r.Small) (hl : r.Low) (he : Env ea em (errw.E e 0) w) :
    Calls Tryz.prog 7 #[.agg (rcs r v)] w (EncOut r (errw.E e 0) w) := by
  obtain ⟨W0, hW0⟩ : ∃ W0, W0 = w.alloc (.cells (rcs r v) 26) := ⟨_, rfl⟩
  have hb0 : Below w.heap.size w W0 := by rw [hW0]; exact (Below.refl _ _).alloc (Nat.le_refl _) _
  have hs0 : W0.heap.size = w.heap.size + 1 := by rw [hW0]; simp
  have HC : Hid (BoxR W0 w.heap.size r v) := by show BoxR _ _ _ _; rw [hW0]; exact boxR w r v _
  have HM := hide (check_any r v ea em (errw.E e 0) W0 (hv.below hb0) hz (he.below hb0))
  have HE : Hid (∀ X, Below w.heap.size w X → KTab X) := fun X hX => (he.below hX).kt
  have HV : Hid (∀ X, Below w.heap.size w X → Go.Proofs.YtocpikgcbibcoaaGreatDoor.ss.Lies X v r.ss) := fun X hX => hv.below hX
  have HB0 := hide hb0
  have HR : Hid (W0.rangeAt w.heap.size 0 [.int .i64 r.k, .string r.id, .string r.us, .string r.cl, .string r.rd, .string r.ch, .string r.cd, v, .int .i64 r.at_]) := by
    show World.rangeAt _ _ _ _
    rw [hW0]
    exact range_of (heap_alloc_new w _)
  have HS0 := hide hs0
  have HW0 := hide hW0
  clear hv he hb0 hW0 hs0
  unfold EncOut
  cases hm : mayB r with
  | false =>
    rw [hm] at HM
    simp only [Bool.false_eq_true, if_false]
    clear hm
    go_enter Tryz.func7, Tryz.ntmps7
    rw [HW0.out] at HR
    go_wp2_with (refine wpList_load_mid rfl 26 (.tmp 1) rfl w.heap.size 0 rfl _ _ HR.out Tryz.underlying26 rfl sizeRec ?_)
    rw [← HW0.out]
    refine HM.out.mono ?_
    rintro x w2 ⟨rfl, b2⟩
    have HB := hide (keepW HB0.out b2)
    clear b2
    go_wp2_with fail
    go_ret2
    exact ⟨_, rfl, ⟨_, Nat.le_refl _, World.ownsRow_nil _ _ _ _⟩, HB.out⟩
  | true =>
    rw [hm] at HM
    obtain ⟨k0, k1, hF⟩ := fine_of hm hl
    have HK0 := hide k0
    have HK1 := hide k1
    have HF := hide hF
    simp only [if_true]
    clear hm k0 k1 hF
    go_enter Tryz.func7, Tryz.ntmps7
    rw [HW0.out] at HR
    go_wp2_with (refine wpList_load_mid rfl 26 (.tmp 1) rfl w.heap.size 0 rfl _ _ HR.out Tryz.underlying26 rfl sizeRec ?_)
    rw [← HW0.out]
    refine HM.out.mono ?_
    rintro x w2 ⟨rfl, b2⟩
    have hz2 : w.heap.size < w2.heap.size := by have := b2.size; have := HS0.out; omega
    obtain ⟨X, hX⟩ : ∃ X, X = w2.alloc (.cells #[.slice none 0 0] 50) := ⟨_, rfl⟩
    have bX : Below w2.heap.size w2 X := by rw [hX]; exact (Below.refl _ _).alloc (Nat.le_refl _) _
    have hwr : Wr w2.heap.size X [] := ⟨.slice none 0 0, by rw [hX]; exact heap_alloc_new w2 _, World.ownsRow_nil _ _ _ _⟩
    have bl : Below w.heap.size w w2 := keepW HB0.out b2
    have hsrc : Src w.heap.size w2.heap.size r v X := by
      have hbel : ∀ Y, Below w2.heap.size X Y → Below w2.heap.size w2 Y := fun Y hY => bX.trans hY
      exact ⟨hz2, fun Y hY => HC.out Y (keepW b2 (hbel Y hY)), fun Y hY => HV.out Y (keepW bl (hbel Y hY)), fun Y hY => HE.out Y (keepW bl (hbel Y hY))⟩
    have HWK := hide (walkW_any w.heap.size w2.heap.size r v X HK0.out HK1.out hwr hsrc HF.out)
    have HBX : Hid (∀ Y, Below w2.heap.size X Y → Below w.heap.size w Y) := fun Y hY => keepW bl (bX.trans hY)
    have HX := hide hX
    have HZ2 : Hid (w.heap.size ≤ w2.heap.size + 1) := by show _ ≤ _; omega
    clear b2 hz2 hX bX hwr bl hsrc
    go_wp2_with fail
    rw [← HX.out]
    refine HWK.out.mono ?_
    rintro x w3 ⟨rfl, ⟨v3, hb3, hown3⟩, b3⟩
    have c3 := cell_of hb3 0
    obtain ⟨o3, cp3, hv3⟩ := own_slice hown3
    have HO3 := hide hown3
    have HB3 := hide (HBX.out _ b3)
    clear hb3 hown3 b3
    subst hv3
    go_wp2_with fail
    go_ret2
    exact ⟨_, rfl, ⟨_, HZ2.out, HO3.out⟩, HB3.out⟩
end Go.Proofs.YtocpikgcbibcoaaGreatDoor.rc

namespace Go.Proofs.YtocpikgcbibcoaaGreatDoor.Tm

abbrev By := List UInt8

theorem lt_irr (x : By) : ¬ x < x := List.lt_irrefl x
theorem lt_tr {x y z : By} (h : x < y) (k : y < z) : x < z := List.lt_trans h k
theorem lt_of {x y : By} (h : x ≤ y) (k : x ≠ y) : x < y := by
  rcases Decidable.em (x < y) with h1 | h1
  · exact h1
  · exact absurd (List.le_antisymm h (List.not_lt.1 h1)) k
theorem le_lt {x y z : By} (h : x ≤ y) (k : y < z) : x < z := by
  rcases Decidable.em (x = y) with e | e
  · exact e ▸ k
  · exact lt_tr (lt_of h e) k

/-- a rising list is told by what stands in it -/
theorem rising_one : ∀ xs ys : List By, xs.Pairwise (· < ·) → ys.Pairwise (· < ·) → (∀ x, x ∈ xs ↔ x ∈ ys) → xs = ys
  | [], [], _, _, _ => rfl
  | [], y :: ys, _, _, h => absurd ((h y).2 (List.mem_cons_self ..)) (by simp)
  | x :: xs, [], _, _, h => absurd ((h x).1 (List.mem_cons_self ..)) (by simp)
  | x :: xs, y :: ys, hx, hy, h => by
    rw [List.pairwise_cons] at hx hy
    have e : x = y := by
      rcases List.mem_cons.1 ((h x).1 (List.mem_cons_self ..)) with e | m
      · exact e
      · rcases List.mem_cons.1 ((h y).2 (List.mem_cons_self ..)) with e | m'
        · exact e.symm
        · exact absurd (lt_tr (hx.1 y m') (hy.1 x m)) (lt_irr x)
    subst e
    rw [rising_one xs ys hx.2 hy.2 fun z => ?_]
    constructor
    · intro hz
      rcases List.mem_cons.1 ((h z).1 (List.mem_cons_of_mem _ hz)) with e | m
      · exact absurd (e ▸ hx.1 z hz) (lt_irr _)
      · exact m
    · intro hz
      rcases List.mem_cons.1 ((h z).2 (List.mem_cons_of_mem _ hz)) with e | m
      · exact absurd (e ▸ hy.1 z hz) (lt_irr _)
      · exact m

theorem upTo_inv (zs : List By) (hs : zs.Pairwise (· ≤ ·)) : ∀ m, m ≤ zs.length →
    (Lib.compactUpTo zs.toArray m).Pairwise (· < ·) ∧ (∀ x, x ∈ Lib.compactUpTo zs.toArray m ↔ x ∈ zs.take m) := by
  intro m
  induction m with
  | zero => intro _; exact ⟨by simp [Lib.compactUpTo], fun x => by simp [Lib.compactUpTo]⟩
  | succ m ih =>
    intro hm
    obtain ⟨h1, h2⟩ := ih (by omega)
    have hml : m < zs.length := by omega
    have hd : zs.toArray[m]! = zs[m] := by simp [hml]
    have ht : zs.take (m + 1) = zs.take m ++ [zs[m]] := List.take_succ_eq_append_getElem hml
    rw [Lib.compactUpTo_succ, hd, ht]
    have hle : ∀ x ∈ zs.take m, x ≤ zs[m] := by
      intro x hx
      obtain ⟨i, hi, rfl⟩ := List.mem_iff_getElem.1 hx
      rw [List.length_take] at hi
      rw [List.getElem_take]
      exact List.pairwise_iff_getElem.1 hs i m (by omega) hml (by omega)
    cases hk : Lib.keeps zs.toArray m with
    | true =>
      refine ⟨?_, fun x => ?_⟩
      · simp only [if_true]
        rw [List.pairwise_append]
        refine ⟨h1, List.pairwise_singleton _ _, fun x hx y hy => ?_⟩
        obtain rfl : y = zs[m] := by simpa using hy
        have hx' := (h2 x).1 hx
        by_cases h0 : m = 0
        · subst h0; simp at hx'
        · have hm1 : m - 1 < zs.length := by omega
          have hne : zs[m - 1] ≠ zs[m] := by
            unfold Lib.keeps at hk
            simp [h0] at hk
            have e1 : zs.toArray[m - 1]! = zs[m - 1] := by simp [hm1]
            have e2 : zs.toArray[m]! = zs[m] := hd
            intro e
            first
              | exact hk (by rw [e])
              | exact hk (by simp [hm1, hml, e])
              | (rw [e2, e1] at hk; exact hk e.symm)
              | (rw [e1, e2] at hk; exact hk e)
              | exact hk e.symm
              | exact hk e
          have h3 : x ≤ zs[m - 1] := by
            obtain ⟨i, hi, rfl⟩ := List.mem_iff_getElem.1 hx'
            rw [List.length_take] at hi
            rw [List.getElem_take]
            by_cases e : i = m - 1
            · subst e; exact List.le_refl _
            · exact List.pairwise_iff_getElem.1 hs i (m - 1) (by omega) hm1 (by omega)
          exact le_lt h3 (lt_of (List.pairwise_iff_getElem.1 hs (m - 1) m hm1 hml (by omega)) hne)
      · simp only [if_true, List.mem_append, h2]
    | false =>
      have h0 : m ≠ 0 := by
        intro e; subst e
        rw [Lib.keeps_lt_one _ 0 (by decide)] at hk; cases hk
      have hm1 : m - 1 < zs.length := by omega
      have he : zs[m - 1] = zs[m] := by
        unfold Lib.keeps at hk
        simp [h0] at hk
        have e1 : zs.toArray[m - 1]! = zs[m - 1] := by simp [hm1]
        have e2 : zs.toArray[m]! = zs[m] := hd
        first
          | exact hk
          | exact hk.symm
          | (simp [hm1, hml] at hk; exact hk)
          | (simp [hm1, hml] at hk; exact hk.symm)
      refine ⟨by simpa using h1, fun x => ?_⟩
      simp only [Bool.false_eq_true, if_false, List.append_nil, h2, List.mem_append, List.mem_singleton]
      constructor
      · exact Or.inl
      · rintro (h | rfl)
        · exact h
        · rw [← he]
          exact List.mem_iff_getElem.2 ⟨m - 1, by rw [List.length_take]; omega, by rw [List.getElem_take]⟩

def sorted (ss : List By) : List By := ss.mergeSort fun x y => decide (x ≤ y)
theorem sorted_pw (ss : List By) : (sorted ss).Pairwise (· ≤ ·) := by
  have h := List.pairwise_mergeSort (le := fun x y : By => decide (x ≤ y)) (fun a b c h1 h2 => by
    simp only [decide_eq_true_eq] at *
    exact List.le_trans h1 h2) (fun a b => by
    simp only [Bool.or_eq_true, decide_eq_true_eq]
    exact List.le_total a b) ss
  exact h.imp fun hh => by simpa using hh
theorem rise_spec (ss : List By) : (Lib.compact (ss.mergeSort fun x y => decide (x ≤ y))).Pairwise (· < ·) ∧ ∀ x, x ∈ Lib.compact (ss.mergeSort fun x y => decide (x ≤ y)) ↔ x ∈ ss := by
  have h := upTo_inv (sorted ss) (sorted_pw ss) (sorted ss).length (Nat.le_refl _)
  refine ⟨h.1, fun x => (h.2 x).trans ?_⟩
  rw [List.take_length]
  exact List.mem_mergeSort
end Go.Proofs.YtocpikgcbibcoaaGreatDoor.Tm

namespace Go.Proofs.YtocpikgcbibcoaaGreatDoor.rc
open Go.Proofs.YtocpikgcbibcoaaGreatDoor.common

/-- an identifier of 32 bytes -/
theorem idB_b64 (l : List UInt8) (h : l.length = 32) : idB ⟨(Rad.b64 Rad.urlT l).toArray⟩ = true := by
  rw [idB_iff]
  show (Rad.valid Rad.urlT 64 (Rad.b64 Rad.urlT l) ∧ Rad.restOk Rad.urlT (Rad.b64 Rad.urlT l)) ∧ (Rad.un64 Rad.urlT (Rad.b64 Rad.urlT l)).length = 32
  exact ⟨⟨Rad.valid_b64 Rad.urlGood l, Rad.rest_b64 Rad.urlGood l⟩, by rw [Rad.un64_b64 Rad.urlGood]; exact h⟩
/-- what kept leaves of a text -/
def kpF (lo hi b1 b2 : Nat) (c : UInt8) : Bool := decide (lo ≤ c.toNat) && decide (c.toNat ≤ hi) && decide (c.toNat ≠ b1) && decide (c.toNat ≠ b2)
def kpL (l : List UInt8) (lo hi b1 b2 most : Nat) : List UInt8 := (l.filter (kpF lo hi b1 b2)).take most
theorem kp_mem {l : List UInt8} {lo hi b1 b2 most : Nat} {c : UInt8} (h : c ∈ kpL l lo hi b1 b2 most) : lo ≤ c.toNat ∧ c.toNat ≤ hi ∧ c.toNat ≠ b1 ∧ c.toNat ≠ b2 := by
  have := (List.mem_filter.1 (List.mem_of_mem_take h)).2
  unfold kpF at this
  simp only [Bool.and_eq_true, decide_eq_true_eq] at this
  exact ⟨this.1.1.1, this.1.1.2, this.1.2, this.2⟩
theorem kp_len (l : List UInt8) (lo hi b1 b2 most : Nat) : (kpL l lo hi b1 b2 most).length ≤ most := by unfold kpL; rw [List.length_take]; omega
theorem word_name (l : List UInt8) : Tm.word 64 (Tm.btw 33 126) (110 :: kpL l 33 126 0 0 63) = true := by
  have h := kp_len l 33 126 0 0 63
  unfold Tm.word
  simp only [List.isEmpty_cons, Bool.not_false, Bool.true_and, Bool.and_eq_true, decide_eq_true_eq, List.length_cons, List.all_eq_true]
  refine ⟨by omega, fun c hc => ?_⟩
  unfold Tm.btw
  rw [decide_eq_true_eq]
  rcases List.mem_cons.1 hc with rfl | hc
  · decide
  · have := kp_mem hc; omega
/-- a scope alone is one scope -/
theorem oneSc_of (s : ByteArray) (h0 : 0 < s.data.toList.length) (h1 : s.data.toList.length ≤ 32) (h : ∀ c ∈ s.data.toList, 33 ≤ c.toNat ∧ c.toNat ≤ 126 ∧ c.toNat ≠ 34 ∧ c.toNat ≠ 92) : oneSc s = true := by
  have hp : tsq.parts 32 s = [s] := tsq.parts_none 32 s (fun x hx => by
    have := h x hx
    intro e
    rw [e] at this
    exact absurd this.1 (by decide))
  have hi : tm.isSc s = true := by
    unfold tm.isSc Tm.word
    simp only [Bool.and_eq_true, decide_eq_true_eq, List.all_eq_true, Bool.not_eq_true', List.isEmpty_eq_false_iff]
    refine ⟨⟨by intro e; rw [e] at h0; simp at h0, h1⟩, fun c hc => ?_⟩
    have := h c hc
    unfold tm.scB Tm.btw
    simp only [Bool.and_eq_true, decide_eq_true_eq]
    exact ⟨⟨⟨this.1, this.2.1⟩, this.2.2.1⟩, this.2.2.2⟩
  have hr : tm.riseB [s] = [s] := by
    have := Tm.rising_one (tm.rise [s.data.toList]) [s.data.toList] (Tm.rise_spec _).1 (List.pairwise_singleton ..) (fun x => (Tm.rise_spec _).2 x)
    unfold tm.riseB tm.raw
    rw [List.map_cons, List.map_nil, this]
    rfl
  have ha : tm.areSc s = true := by unfold tm.areSc; rw [hp]; simp [hi]
  have hm : tm.many s = false := by unfold tm.many; rw [hp, hr]; rfl
  unfold oneSc
  rw [ha, hm]
  have : tm.scL s = [s] := by unfold tm.scL; rw [ha, hm, hp, hr]; rfl
  rw [this]
  simp
/-- the address that tidy makes -/
abbrev hostT : List UInt8 := [104, 116, 116, 112, 115, 58, 47, 47, 97, 46, 101, 120, 97, 109, 112, 108, 101, 47]
theorem made_low : ∀ (x : List UInt8) (n : Nat), x.length ≤ n → (∀ c ∈ x, 97 ≤ c.toNat ∧ c.toNat ≤ 122) → tm.madeN [47] n x = true
  | [], n, _, _ => by cases n <;> rfl
  | c :: t, 0, h, _ => by simp at h
  | c :: t, n + 1, h, hc => by
    have h1 := hc c (List.mem_cons_self ..)
    have ih := made_low t n (by simpa using h) (fun d hd => hc d (List.mem_cons_of_mem _ hd))
    have hok : tm.okB [47] c = true := by unfold tm.okB tm.pthB tm.letB Tm.btw; simp [h1.1, h1.2]
    have hne : c ≠ 37 := by
      intro e
      rw [e] at h1
      exact absurd h1.1 (by decide)
    unfold tm.madeN
    simp [hne, hok, ih]
theorem tw_all (x : List UInt8) (f : UInt8 → Bool) (h : ∀ c ∈ x, f c = true) : x.takeWhile f = x ∧ x.dropWhile f = [] := by
  induction x with
  | nil => exact ⟨rfl, rfl⟩
  | cons c t ih =>
    obtain ⟨a, b⟩ := ih (fun d hd => h d (List.mem_cons_of_mem _ hd))
    have hc := h c (List.mem_cons_self ..)
    rw [List.takeWhile_cons, List.dropWhile_cons, hc]
    exact ⟨by simp [a], by simpa using b⟩
theorem red_of (x : List UInt8) (hl : x.length ≤ 490) (h : ∀ c ∈ x, 97 ≤ c.toNat ∧ c.toNat ≤ 122) : tm.redL (hostT ++ x) = true := by
  have hp : tm.mHttps.isPrefixOf (hostT ++ x) = true := rfl
  have hd : (hostT ++ x).drop 8 = [97, 46, 101, 120, 97, 109, 112, 108, 101] ++ (47 :: x) := rfl
  have hln : (hostT ++ x).length ≤ 512 := by rw [List.length_append]; show 18 + _ ≤ _; omega
  have hq : tm.pathQ (47 :: x) = true := by
    have hw := tw_all (47 :: x) (fun c => decide (c ≠ 63)) (fun c hc => by
      rw [decide_eq_true_eq]
      rcases List.mem_cons.1 hc with rfl | hc
      · decide
      · intro e
        have := h c hc
        rw [e] at this
        exact absurd this.1 (by decide))
    have hm : tm.madeOf [47] (47 :: x) = true := by
      have := made_low x x.length (Nat.le_refl _) h
      show tm.madeN [47] (x.length + 1) (47 :: x) = true
      unfold tm.madeN
      rw [if_neg (by decide), this]
      rfl
    unfold tm.pathQ fd.before fd.behind
    rw [hw.1, hw.2]
    unfold tm.isPth
    rw [hm]
    rfl
  have hs : tm.secL ([97, 46, 101, 120, 97, 109, 112, 108, 101] ++ (47 :: x)) = true := by
    unfold tm.secL
    rw [if_neg (by simp)]
    have e1 : tm.hd [58, 47, 63] ([97, 46, 101, 120, 97, 109, 112, 108, 101] ++ (47 :: x)) = [97, 46, 101, 120, 97, 109, 112, 108, 101] := rfl
    have e2 : tm.tl [58, 47, 63] ([97, 46, 101, 120, 97, 109, 112, 108, 101] ++ (47 :: x)) = 47 :: x := rfl
    rw [e1, e2]
    have e3 : tm.hostN ⟨([97, 46, 101, 120, 97, 109, 112, 108, 101] : List UInt8).toArray⟩ = true := by decide +kernel
    have e4 : tm.behL (47 :: x) = true := by unfold tm.behL; rw [if_neg (by simp)]; exact hq
    rw [e3, e4]
    rfl
  unfold tm.redL
  rw [decide_eq_true hln, hp, hd, if_pos rfl, hs]
  rfl
end Go.Proofs.YtocpikgcbibcoaaGreatDoor.rc

namespace Go.Proofs.YtocpikgcbibcoaaGreatDoor.rc
open Go.ChangeShapes Go.WideShapes Go.ChangeAt Go.RowKit Go.Proofs.YtocpikgcbibcoaaGreatDoor.common Go.Proofs.YtocpikgcbibcoaaGreatDoor.dk
attribute [local go_sem ↓] Go.wp_at_zero Go.wp_at_succ

theorem filt_snoc (l : List UInt8) (f : UInt8 → Bool) (i : Nat) (h : i < l.length) : (l.take (i + 1)).filter f = (l.take i).filter f ++ (if f l[i] then [l[i]] else []) := by
  rw [List.take_succ_eq_append_getElem h, List.filter_append]
  congr 1
  cases hf : f l[i] <;> simp [hf]
theorem filt_full (l : List UInt8) (f : UInt8 → Bool) (i most : Nat) (h : ((l.take i).filter f).length = most) : (l.filter f).take most = (l.take i).filter f := by
  have e : l.filter f = (l.take i).filter f ++ (l.drop i).filter f := by rw [← List.filter_append, List.take_append_drop]
  rw [e, ← h, List.take_left]
theorem one_u8 (w : World) (c : UInt8) : Rd (w.alloc (.cells #[.int .u8 ((c.toNat : Nat) : Int)] 5)) (.slice (some ⟨w.heap.size, 0, none⟩) 1 1) [c] := by
  refine ⟨_, 1, rfl, fun _ => ⟨w.heap.size, 0, rfl, by simp, range_of (t := 5) (heap_alloc_new w _)⟩⟩
set_option maxRecDepth 100000 in
set_option maxHeartbeats 6400000 in
theorem kept_any (s : ByteArray) (lo hi b1 b2 most : Nat) (w : World) (hs : s.size ≤ 4611686018427387904) (hm : most ≤ 1048576) :
    Calls Tryz.prog 35 #[.string s, .int .u8 (lo : Int), .int .u8 (hi : Int), .int .u8 (b1 : Int), .int .u8 (b2 : Int), .int .i64 (most : Int)] w fun e w' => e = .returned (.string ⟨(kpL s.data.toList lo hi b1 b2 most).toArray⟩) ∧ Below w.heap.size w w' := by
  obtain ⟨i0, hi9, hz0, hz1, hz2⟩ := info_parts info8
  have hsl : s.data.toList.length = s.size := by simp
  have HSL := hide hsl
  clear hsl
  go_enter Tryz.func35, Tryz.ntmps35
  go_wp2_with fail
  go_loopw [13, 14] (fun vo i wr => ∃ k : Nat, k ≤ s.size ∧ i = .int .i64 (k : Int) ∧ wr.ownsRow w.heap.size 5 1 vo ((s.data.toList.take k).filter (kpF lo hi b1 b2)).length (((s.data.toList.take k).filter (kpF lo hi b1 b2)).map B) ∧ ((s.data.toList.take k).filter (kpF lo hi b1 b2)).length ≤ most ∧ Below w.heap.size w wr) (fun _ i _ => s.size - (intOf i).toNat)
  case atStart => exact ⟨0, Nat.zero_le _, rfl, by simpa using World.ownsRow_nil _ _ _ _, by simp, Below.refl _ _⟩
  case round =>
    obtain ⟨k, hk, rfl, hown, hlm, hbl⟩ := hrel
    obtain ⟨Q, hQ⟩ : ∃ Q, Q = (s.data.toList.take k).filter (kpF lo hi b1 b2) := ⟨_, rfl⟩
    rw [← hQ] at hown hlm
    obtain ⟨oo, co, rfl⟩ := own_slice hown
    have HQ := hide hQ
    have HO := hide hown
    have HBL := hide hbl
    have hsz := hbl.size
    by_cases hlt : k < s.size
    · have j1 : (k : Int) < (s.size : Int) := by omega
      by_cases hfull : Q.length < most
      · have j2 : (Q.length : Int) < (most : Int) := by omega
        have k0 : (0 : Int) ≤ (k : Int) := Int.natCast_nonneg _
        have hsn := filt_snoc s.data.toList (kpF lo hi b1 b2) k (by rw [HSL.out]; exact hlt)
        have hkl : s.data.toList[k]'(by rw [HSL.out]; exact hlt) = s[k] := by simp [ByteArray.getElem_eq_getElem_data]
        rw [hkl, ← hQ] at hsn
        cases hf : kpF lo hi b1 b2 s[k] with
        | true =>
          rw [hf] at hsn
          simp only [if_true] at hsn
          unfold kpF at hf
          simp only [Bool.and_eq_true, decide_eq_true_eq] at hf
          obtain ⟨⟨⟨p1, p2⟩, p3⟩, p4⟩ := hf
          have i1 : (lo : Int) ≤ ((s[k].toNat : Nat) : Int) := by omega
          have i2 : ((s[k].toNat : Nat) : Int) ≤ (hi : Int) := by omega
          have i3 : ¬ ((s[k].toNat : Nat) : Int) = (b1 : Int) := by omega
          have i4 : ¬ ((s[k].toNat : Nat) : Int) = (b2 : Int) := by omega
          have i3b : (((s[k].toNat : Nat) : Int) == (b1 : Int)) = false := beq_false_of_ne i3
          have i4b : (((s[k].toNat : Nat) : Int) == (b2 : Int)) = false := beq_false_of_ne i4
          have i3n : (((s[k].toNat : Nat) : Int) != (b1 : Int)) = true := by unfold bne; rw [i3b]; rfl
          have i4n : (((s[k].toNat : Nat) : Int) != (b2 : Int)) = true := by unfold bne; rw [i4b]; rfl
          have HSN := hide hsn
          clear hsn hkl hown hbl hQ
          go_wp2_with (at_builtin; refine wpList_append_own _ rfl _ _ 27 rfl w.heap.size 5 i0 (.int .u8 0) 1 1 Tryz.underlying27 hi9 hz0 hz1 hz2 rfl (by decide) _ _ _ rfl (HO.out.alloc _) ⟨wr.heap.size, 0, none⟩ 1 1 [_] rfl rfl (cell_one_new _ _ _) ?c2 ?c3 ?c4 ?c5 ?_)
          case c2 => first | rfl | (intro u hu; simp at hu; rw [hu]; rfl)
          case c3 => unfold maxLen; omega
          case c4 => omega
          case c5 => first | omega | (simp; omega)
          intro v' w1 hown' hgrow _
          have HN1 : Hid (w1.ownsRow w.heap.size 5 1 v' ((s.data.toList.take (k + 1)).filter (kpF lo hi b1 b2)).length (((s.data.toList.take (k + 1)).filter (kpF lo hi b1 b2)).map B) ∧ ((s.data.toList.take (k + 1)).filter (kpF lo hi b1 b2)).length ≤ most) := by
            show _ ∧ _
            rw [HSN.out, List.length_append, List.map_append]
            exact ⟨hown', by simp; omega⟩
          have HB1 : Hid (Below w.heap.size w w1) := (HBL.out.alloc hsz _).grown hgrow (by simp; omega) (own_ge HO.out)
          clear hown' hgrow
          go_wp2_with fail
          go_roundw
          case rel => exact ⟨k + 1, by omega, by go_num, HN1.out.1, HN1.out.2, HB1.out⟩
          case measure => simp [intOf]; omega
        | false =>
          rw [hf] at hsn
          simp only [Bool.false_eq_true, if_false, List.append_nil] at hsn
          have HSN := hide hsn
          clear hsn hkl hown hbl hQ
          have hno : ∀ {P : Prop}, (((lo : Int) ≤ ((s[k].toNat : Nat) : Int) ∧ ((s[k].toNat : Nat) : Int) ≤ (hi : Int)) ∧ ¬ ((s[k].toNat : Nat) : Int) = (b1 : Int)) ∧ ¬ ((s[k].toNat : Nat) : Int) = (b2 : Int) → P := by
            rintro P ⟨⟨⟨p1, p2⟩, p3⟩, p4⟩
            have : kpF lo hi b1 b2 s[k] = true := by
              unfold kpF
              simp only [Bool.and_eq_true, decide_eq_true_eq]
              omega
            rw [this] at hf; cases hf
          by_cases i1 : (lo : Int) ≤ ((s[k].toNat : Nat) : Int)
          · by_cases i2 : ((s[k].toNat : Nat) : Int) ≤ (hi : Int)
            · by_cases i3 : ((s[k].toNat : Nat) : Int) = (b1 : Int)
              · have i3b : (((s[k].toNat : Nat) : Int) == (b1 : Int)) = true := by rw [i3]; exact beq_self_eq_true _
                go_wp2_with fail
                refine ⟨⟨k + 1, by omega, by go_num, ?_, ?_, HBL.out⟩, by simp [intOf]; omega⟩
                · rw [HSN.out]; exact HO.out
                · rw [HSN.out]; exact hlm
              · have i3b : (((s[k].toNat : Nat) : Int) == (b1 : Int)) = false := beq_false_of_ne i3
                by_cases i4 : ((s[k].toNat : Nat) : Int) = (b2 : Int)
                · have i4b : (((s[k].toNat : Nat) : Int) == (b2 : Int)) = true := by rw [i4]; exact beq_self_eq_true _
                  go_wp2_with fail
                  refine ⟨⟨k + 1, by omega, by go_num, ?_, ?_, HBL.out⟩, by simp [intOf]; omega⟩
                  · rw [HSN.out]; exact HO.out
                  · rw [HSN.out]; exact hlm
                · exact hno ⟨⟨⟨i1, i2⟩, i3⟩, i4⟩
            · go_wp2_with fail
              refine ⟨⟨k + 1, by omega, by go_num, ?_, ?_, HBL.out⟩, by simp [intOf]; omega⟩
              · rw [HSN.out]; exact HO.out
              · rw [HSN.out]; exact hlm
          · go_wp2_with fail
            refine ⟨⟨k + 1, by omega, by go_num, ?_, ?_, HBL.out⟩, by simp [intOf]; omega⟩
            · rw [HSN.out]; exact HO.out
            · rw [HSN.out]; exact hlm
      · have j2 : ¬ (Q.length : Int) < (most : Int) := by omega
        have HF : Hid (kpL s.data.toList lo hi b1 b2 most = Q) := by
          show (s.data.toList.filter _).take most = Q
          rw [HQ.out]
          exact filt_full _ _ k most (by rw [← HQ.out]; omega)
        have hcv := conv_rd (rd_own hown)
        clear hown hbl hQ
        go_wp2_with fail
        go_ret
        exact ⟨by rw [HF.out]; rfl, HBL.out⟩
    · have j1 : ¬ (k : Int) < (s.size : Int) := by omega
      have HF : Hid (kpL s.data.toList lo hi b1 b2 most = Q) := by
        show (s.data.toList.filter _).take most = Q
        have e9 : s.data.toList.take k = s.data.toList := List.take_of_length_le (by rw [HSL.out]; omega)
        rw [hQ, e9]
        rw [hQ, e9] at hlm
        exact List.take_of_length_le hlm
      have hcv := conv_rd (rd_own hown)
      clear hown hbl hQ
      go_wp2_with fail
      go_ret
      exact ⟨by rw [HF.out]; rfl, HBL.out⟩
end Go.Proofs.YtocpikgcbibcoaaGreatDoor.rc
