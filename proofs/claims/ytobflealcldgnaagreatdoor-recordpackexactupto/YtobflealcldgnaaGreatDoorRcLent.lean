import Derived.Test.YtobflealcldgnaaGreatDoorRcCheck
import Derived.Test.YtobflealcldgnaaGreatDoorRdKit
import Derived.Test.YtobflealcldgnaaGreatDoorStrBase
namespace Go.Proofs.YtobflealcldgnaaGreatDoor.rc
open Go.ChangeShapes Go.WideShapes Go.ChangeAt Go.RowKit Go.Proofs.YtobflealcldgnaaGreatDoor.common Go.Proofs.YtobflealcldgnaaGreatDoor.ss
attribute [local go_sem ↓] Go.wp_at_zero Go.wp_at_succ

set_option maxRecDepth 100000 in
set_option maxHeartbeats 3200000 in
theorem check_any (r : Rec) (v : Value) (ea em : Addr) (eA : Value) (w : World) (hv : Lies w v r.ss) (hz : r.Small) (he : Env ea em eA w) :
    Calls Tryz.prog 17 #[.agg (rcs r v)] w fun e w' => e = .returned (if mayB r then .nilIface else eA) ∧ Below w.heap.size w w' := by
  obtain ⟨W0, hW0⟩ : ∃ W0, W0 = w.alloc (.cells (rcs r v) 26) := ⟨_, rfl⟩
  have hb0 : Below w.heap.size w W0 := by rw [hW0]; exact (Below.refl _ _).alloc (Nat.le_refl _) _
  have HM := hide (mayBe_any r v ea em eA W0 (hv.below hb0) hz (he.below hb0))
  have HE := hide (he.below hb0)
  have HB0 := hide hb0
  have HR : Hid (W0.rangeAt w.heap.size 0 (rcs r v).toList) := by
    show World.rangeAt _ _ _ _
    rw [hW0]
    exact dk.range_of (heap_alloc_new w _)
  have HW0 := hide hW0
  obtain ⟨R, hR⟩ : ∃ R, R = (if mayB r then Value.nilIface else eA) := ⟨_, rfl⟩
  rw [← hR]
  have HRR := hide hR
  clear hv hz he hb0 hW0 hR
  cases hm : mayB r with
  | true =>
    rw [hm] at HM HRR
    clear hm
    go_enter Tryz.func17, Tryz.ntmps17
    go_wp2_with fail
    rw [← HW0.out]
    refine HM.out.mono ?_
    rintro x w2 ⟨rfl, b2⟩
    have HB := hide (keepW HB0.out b2)
    clear b2
    go_wp2_with fail
    go_ret
    exact ⟨by rw [HRR.out]; rfl, HB.out⟩
  | false =>
    rw [hm] at HM HRR
    clear hm
    go_enter Tryz.func17, Tryz.ntmps17
    go_wp2_with fail
    rw [← HW0.out]
    refine HM.out.mono ?_
    rintro x w2 ⟨rfl, b2⟩
    have HB := hide (keepW HB0.out b2)
    have ca := (HE.out.below b2).arg
    clear b2
    go_wp2_with fail
    go_ret
    exact ⟨by rw [HRR.out]; rfl, HB.out⟩

theorem own_at {W W' : World} {base : Nat} {e : TypeId} {size : Nat} {v : Value} {n : Nat} {xs : List Value} (h : W.ownsRow base e size v n xs) (hk : ∀ g, base ≤ g → W'.heap[g]? = W.heap[g]?) : W'.ownsRow base e size v n xs := by
  refine ⟨h.1, ?_⟩
  rcases h.2 with hh | ⟨g, cap, cur, rfl, hg, hh, hn⟩
  · exact Or.inl hh
  · exact Or.inr ⟨g, cap, cur, rfl, hg, (hk g hg).trans hh, hn⟩
theorem own_least {W : World} {base base' : Nat} {e : TypeId} {size : Nat} {v : Value} {n : Nat} {xs : List Value} (h : W.ownsRow base e size v n xs) (hb : base' ≤ base) : W.ownsRow base' e size v n xs := by
  refine ⟨h.1, ?_⟩
  rcases h.2 with hh | ⟨g, cap, cur, rfl, hg, hn⟩
  · exact Or.inl hh
  · exact Or.inr ⟨g, cap, cur, rfl, Nat.le_trans hb hg, hn⟩
theorem own_slice {w : World} {base : Nat} {e : TypeId} {size : Nat} {v : Value} {n : Nat} {xs : List Value} (h : w.ownsRow base e size v n xs) : ∃ oa cap, v = .slice oa n cap := by
  rcases h.2 with ⟨rfl, h0⟩ | ⟨g, cap, cur, rfl, _⟩
  · exact ⟨none, 0, by rw [h0]⟩
  · exact ⟨_, cap, rfl⟩
theorem grown_blk {w w' : World} {row : Option Nat} (hg : w.grownBy w' row) {b : Nat} {o : Obj} (h : w.heap[b]? = some o) (hr : ∀ k, row = some k → k ≠ b) : w'.heap[b]? = some o :=
  (hg.block b (Array.getElem?_eq_some_iff.1 h).1 (fun e => hr b e.symm rfl)).trans h
theorem sizeRec : (Tryz.prog.info? 26).map (·.size) = some 9 := by kernel_rfl
abbrev zrec : Array Value := #[.int .i64 0, .string ⟨#[]⟩, .string ⟨#[]⟩, .string ⟨#[]⟩, .string ⟨#[]⟩, .string ⟨#[]⟩, .string ⟨#[]⟩, .slice none 0 0, .int .i64 0]
theorem rcs_one (r : Rec) (oa : Option Addr) (n c : Nat) : (rcs r (.slice oa n c)).all (·.oneCell') = true := by simp [Value.oneCell']

set_option maxRecDepth 100000 in
set_option maxHeartbeats 6400000 in
theorem twinR_any (r : Rec) (v : Value) (w : World) (hL : Lies w v r.ss) (hn : r.ss.length * 16 ≤ 140737488355328) :
    Calls Tryz.prog 10 #[.agg (rcs r v)] w fun e w' => ∃ v', e = .returned (.agg (rcs r v')) ∧ w'.ownsRow w.heap.size 9 1 v' r.ss.length (sc r.ss) ∧ Below w.heap.size w w' := by
  have HL := hide hL
  obtain ⟨ov, cv, rfl⟩ := Lies.len hL
  clear hL
  obtain ⟨W3, hW3⟩ : ∃ W3, W3 = (((w.alloc (.cells (rcs r (.slice ov r.ss.length cv)) 26)).alloc (.cells zrec 26)).alloc (.cells (rcs r (.slice ov r.ss.length cv)) 26)) := ⟨_, rfl⟩
  have hz3 : W3.heap.size = w.heap.size + 3 := by rw [hW3]; simp
  have hb3 : Below w.heap.size w W3 := by rw [hW3]; exact (((Below.refl _ _).alloc (Nat.le_refl _) _).alloc (by simp) _).alloc (by simp; omega) _
  have hZ : W3.heap[w.heap.size + 1]? = some (.cells zrec 26 (0, 0)) := by
    rw [hW3]
    have h1 := heap_alloc_new (w.alloc (.cells (rcs r (.slice ov r.ss.length cv)) 26)) (.cells zrec 26 (0, 0))
    rw [World.size_alloc] at h1
    exact (heap_alloc_old _ _ (by simp)).trans h1
  have hQ : W3.heap[w.heap.size + 1 + 1]? = some (.cells (rcs r (.slice ov r.ss.length cv)) 26 (0, 0)) := by
    rw [hW3]
    have h1 := heap_alloc_new ((w.alloc (.cells (rcs r (.slice ov r.ss.length cv)) 26)).alloc (.cells zrec 26)) (.cells (rcs r (.slice ov r.ss.length cv)) 26 (0, 0))
    rw [World.size_alloc, World.size_alloc] at h1
    exact h1
  have HW3 := hide hW3
  have h4 : Below W3.heap.size W3 (W3.alloc (.cells #[] 9)) := (Below.refl _ _).alloc (Nat.le_refl _) _
  have HE : Hid ((W3.alloc (.cells #[] 9)).ownsRow W3.heap.size 9 1 (.slice (some ⟨W3.heap.size, 0, none⟩) 0 0) ([] : List ByteArray).length (sc [])) := by
    have := World.ownsRow_lit (base := W3.heap.size) (e := 9) (size := 1) W3 #[] 0 (Nat.le_refl _) (by decide) rfl
    show World.ownsRow _ _ _ _ _ _ _
    simpa using this
  have HLW := hide (HL.out.below (keepW hb3 h4))
  have HZ := hide ((h4.block _ (by omega)).trans hZ)
  have HQ := hide ((h4.block _ (by omega)).trans hQ)
  have HB4 : Hid (Below w.heap.size w (W3.alloc (.cells #[] 9))) := keepW hb3 h4
  rw [hz3] at HE
  have HZ3 := hide hz3
  rw [hW3] at HE HLW HZ HQ HB4
  clear hb3 hZ hQ h4 hz3 hW3
  go_enter Tryz.func10, Tryz.ntmps10
  go_wp2_with (at_builtin; refine append_strs _ rfl _ _ rfl (w.heap.size + 3) _ [] rfl HE.out _ r.ss rfl HLW.out ?c3 ?c4 ?c5 ?_)
  case c3 => unfold maxLen; simp; omega
  case c4 => simp; omega
  case c5 => simp
  intro v1 w1 own1 hg1
  have own1 : w1.ownsRow (w.heap.size + 3) 9 1 v1 r.ss.length (sc r.ss) := by simpa using own1
  obtain ⟨o1, c1, rfl⟩ := own_slice own1
  have Z1 := grown_blk hg1 HZ.out (fun k hk => by simp [Value.ownBlock] at hk; omega)
  have Q1 := grown_blk hg1 HQ.out (fun k hk => by simp [Value.ownBlock] at hk; omega)
  have B1 : Below w.heap.size w w1 := HB4.out.grown hg1 (by simp; omega) (fun k hk => by simp [Value.ownBlock] at hk; omega)
  have q7 : w1.cell? ⟨w.heap.size + 1 + 1, 7, none⟩ = some (.slice ov r.ss.length cv) := dk.cell_of Q1 7
  have z7 : w1.frozen? ⟨w.heap.size + 1 + 1, 7, none⟩ = false := dk.free_of Q1 7
  obtain ⟨X, hX⟩ : ∃ X, X = w1.setCell ⟨w.heap.size + 1 + 1, 7, none⟩ (.slice o1 r.ss.length c1) := ⟨_, rfl⟩
  have HRQ : Hid (X.rangeAt (w.heap.size + 1 + 1) 0 [.int .i64 r.k, .string r.id, .string r.us, .string r.cl, .string r.rd, .string r.ch, .string r.cd, .slice o1 r.ss.length c1, .int .i64 r.at_]) := by
    show World.rangeAt _ _ _ _
    refine dk.range_of (t := 26) ?_
    rw [hX]
    simp [World.setCell, Array.getElem?_modify, Q1]
  have ZX : X.heap[w.heap.size + 1]? = some (.cells zrec 26 (0, 0)) := by
    rw [hX, dk.set_other _ _ _ _ (show w.heap.size + 1 ≠ w.heap.size + 1 + 1 by omega)]; exact Z1
  have HTZ : Hid (X.there (w.heap.size + 1) 0 9) := dk.there_of (cur := zrec.toList) ZX 0 9 (by simp)
  have BX : Below w.heap.size w X := by rw [hX]; exact B1.setCell (p := ⟨w.heap.size + 1 + 1, 7, none⟩) (show w.heap.size ≤ w.heap.size + 1 + 1 by omega) _
  have HOX : Hid (X.ownsRow (w.heap.size + 3) 9 1 (.slice o1 r.ss.length c1) r.ss.length (sc r.ss)) := own_at own1 (fun g hg => by rw [hX]; exact dk.set_other _ _ _ _ (show g ≠ w.heap.size + 1 + 1 by omega))
  have HBX := hide BX
  have HX := hide hX
  rw [hX] at HRQ HTZ
  clear own1 hg1 Z1 Q1 B1 BX ZX hX HE HLW HZ HQ HB4
  go_wp2_with (first
    | (refine wpList_load_mid rfl 26 (.tmp 3) rfl (w.heap.size + 1 + 1) 0 rfl _ _ HRQ.out Tryz.underlying26 rfl sizeRec ?_)
    | (refine wpList_store_mid rfl 26 (.tmp 2) (.tmp 10) rfl (w.heap.size + 1) 0 (rcs r (.slice o1 r.ss.length c1)) rfl rfl HTZ.out sizeRec (rcs_one _ _ _ _) ?_))
  refine bodyPost_ret (dk.results_c rfl _ rfl (World.rangeAt_setCells_same _ (w.heap.size + 1) 0 (rcs r (.slice o1 r.ss.length c1)).toList HTZ.out) Tryz.underlying26 rfl sizeRec) rfl ?_
  rw [← HX.out]
  refine ⟨_, rfl, own_least (own_at HOX.out (fun g hg => dk.sets_other _ _ _ _ _ (by omega))) (by omega), ?_⟩
  exact HBX.out.trans (((dk.Fr.refl [w.heap.size + 1] X).sets (w.heap.size + 1) 0 _ (Or.inl (List.mem_singleton.2 rfl))).below (fun k hk => by rw [List.mem_singleton.1 hk]; omega) HBX.out.size)
end Go.Proofs.YtobflealcldgnaaGreatDoor.rc

namespace Go.Proofs.YtobflealcldgnaaGreatDoor.ss
open Go.ChangeShapes Go.WideShapes Go.ChangeAt Go.RowKit Go.Proofs.YtobflealcldgnaaGreatDoor.common Go.Proofs.YtobflealcldgnaaGreatDoor.bk
attribute [local go_sem ↓] Go.wp_at_zero Go.wp_at_succ

set_option maxRecDepth 100000 in
set_option maxHeartbeats 1600000 in
theorem same_any (va vb : Value) (l : List ByteArray) (w : World) (ha : Lies w va l) (hb : Lies w vb l) (hs : l.length ≤ 4611686018427387904) :
    Calls Tryz.prog 21 #[va, vb] w fun e w' => e = .returned (.bool true) ∧ Below w.heap.size w w' := by
  obtain ⟨oa, ca, rfl, hca⟩ := ha
  obtain ⟨ob, cb, rfl, hcb⟩ := hb
  have HA := hide hca
  have HB := hide hcb
  clear hca hcb
  go_enter Tryz.func21, Tryz.ntmps21
  go_wp2_with fail
  go_loopw [5] (fun i wr => ∃ k : Nat, k ≤ l.length ∧ i = .int .i64 k ∧ Below w.heap.size w wr) (fun i _ => l.length - (intOf i).toNat)
  case atStart => exact ⟨0, Nat.zero_le _, rfl, Below.refl _ _⟩
  case round =>
    obtain ⟨k, hk, rfl, hnx⟩ := hrel
    by_cases hlt : k < l.length
    · have hki : (k : Int) < (l.length : Int) := by omega
      obtain ⟨b, o, rfl, hb, c0⟩ := HA.out k hlt
      obtain ⟨b', o', rfl, hb', c0'⟩ := HB.out k hlt
      have d0 := (hnx.cell (p := ⟨b, o + k, none⟩) hb).trans c0
      have d0' := (hnx.cell (p := ⟨b', o' + k, none⟩) hb').trans c0'
      have HX := hide hnx
      clear hnx c0 c0'
      generalize l[k] = p at *
      have k0 : (0 : Int) ≤ (k : Int) := Int.natCast_nonneg _
      go_wp2_with fail
      go_region_held3 (fun W => W.cell? ⟨b, o + k, none⟩ = some (.string p) ∧ W.cell? ⟨b', o' + k, none⟩ = some (.string p)) (go_keep) (fail)
      all_goals
        go_wp2_with fail
        go_roundw
        case rel => exact ⟨k + 1, by omega, by go_num, HX.out.drew⟩
        case measure => simp [intOf]; omega
    · obtain rfl : k = l.length := by omega
      have H2 := hide hnx
      clear hnx
      go_wp2_with fail
      go_ret
      exact ⟨rfl, H2.out⟩

end Go.Proofs.YtobflealcldgnaaGreatDoor.ss

namespace Go.Proofs.YtobflealcldgnaaGreatDoor.rc
open Go.ChangeShapes Go.WideShapes Go.ChangeAt Go.RowKit Go.Proofs.YtobflealcldgnaaGreatDoor.common Go.Proofs.YtobflealcldgnaaGreatDoor.ss
attribute [local go_sem ↓] Go.wp_at_zero Go.wp_at_succ

abbrev mkS : ByteArray := ⟨#[109, 97, 114, 107]⟩
abbrev marks : List ByteArray := [mkS, mkS, mkS, mkS]
theorem lies_lit (w : World) (l : List ByteArray) (t : TypeId) : Lies (w.alloc (.cells (sc l).toArray t)) (.slice (some ⟨w.heap.size, 0, none⟩) l.length l.length) l := by
  refine ⟨_, _, rfl, fun i hi => ⟨_, _, rfl, by simp, ?_⟩⟩
  have h := heap_alloc_new w (.cells (sc l).toArray t (0, 0))
  rw [Nat.zero_add]
  simp only [World.cell?, h]
  simp [hi]

end Go.Proofs.YtobflealcldgnaaGreatDoor.rc
