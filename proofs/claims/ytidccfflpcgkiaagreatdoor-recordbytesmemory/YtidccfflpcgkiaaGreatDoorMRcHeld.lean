import Derived.Test.YtidccfflpcgkiaaGreatDoorMRcRows
import Derived.Test.YtidccfflpcgkiaaGreatDoorMRcKept
namespace Go.Proofs.YtidccfflpcgkiaaGreatDoor.rc
open Go.ChangeShapes Go.WideShapes Go.ChangeAt Go.RowKit Go.Proofs.YtidccfflpcgkiaaGreatDoor.common Go.Proofs.YtidccfflpcgkiaaGreatDoor.ss
attribute [local go_sem ↓] Go.wp_at_zero Go.wp_at_succ

set_option maxRecDepth 100000 in
set_option maxHeartbeats 6400000 in
theorem heldOf_any (l : List Rec) (v : Value) (w : World) (hv : LiesR w v l) (hs : ∀ r ∈ l, r.ss.length ≤ 16) (hn : l.length ≤ 4) :
    Calls Tryz.prog 21 #[v] w fun e w' => ∃ v' s, e = .returned v' ∧ OwnR w.heap.size w' v' l s ∧ Below w.heap.size w w' := by
  obtain ⟨i0, hi, hz0, hz1, hz2⟩ := info_parts infoRc
  obtain ⟨ov, cv, hvv⟩ : ∃ ov cv, v = .slice ov l.length cv := by obtain ⟨a, b, h, _⟩ := hv; exact ⟨a, b, h⟩
  have HV : Hid (∀ X, Below w.heap.size w X → LiesR X v l) := fun X hX => hv.below hX
  have HS := hide hs
  clear hv hs
  subst hvv
  go_enter Tryz.func21, Tryz.ntmps21
  go_wp2_with fail
  go_loopw [3, 4] (fun vo i wr => ∃ (k : Nat) (s : List Value), k ≤ l.length ∧ i = .int .i64 k ∧ OwnR w.heap.size wr vo (l.take k) s ∧ Below w.heap.size w wr) (fun _ i _ => l.length - (intOf i).toNat)
  case atStart => exact ⟨0, [], Nat.zero_le _, rfl, by rw [List.take_zero]; exact OwnR.nil _ _, Below.refl _ _⟩
  case round =>
    obtain ⟨k, s, hk, rfl, hown, hbl⟩ := hrel
    have hsz := hbl.size
    have htl : (l.take k).length = k := by rw [List.length_take]; omega
    obtain ⟨oo, co, rfl⟩ := own_slice hown.row
    rw [htl] at hown
    have HO := hide hown
    have HBL := hide hbl
    by_cases hlt : k < l.length
    · have j0 : (0 : Int) ≤ (k : Int) := Int.natCast_nonneg _
      have j1 : (k : Int) < (l.length : Int) := by omega
      obtain ⟨_, _, hq, hcc⟩ := HV.out wr hbl
      cases hq
      obtain ⟨g, o, vi, rfl, hg, hrg, hli⟩ := hcc k hlt
      obtain ⟨os, cs, rfl⟩ := Lies.len hli
      have hsm := HS.out _ (List.getElem_mem hlt)
      have HTK : Hid (l.take (k + 1) = l.take k ++ [l[k]]) := List.take_succ_eq_append_getElem hlt
      generalize l[k]'hlt = r at *
      -- the box, the empty list
      obtain ⟨X2, hX2⟩ : ∃ X2, X2 = (wr.alloc (.cells (rcs r (.slice os r.ss.length cs)) 24)).alloc (.cells #[] 9) := ⟨_, rfl⟩
      have b2 : Below wr.heap.size wr X2 := by rw [hX2]; exact ((Below.refl _ _).alloc (Nat.le_refl _) _).alloc (by simp) _
      have hE : X2.ownsRow (wr.heap.size + 1) 9 1 (.slice (some ⟨wr.heap.size + 1, 0, none⟩) 0 0) ([] : List ByteArray).length (sc []) := by
        have h1 := World.ownsRow_lit (base := wr.heap.size + 1) (e := 9) (size := 1) (wr.alloc (.cells (rcs r (.slice os r.ss.length cs)) 24)) #[] 0 (by simp) (by decide) rfl
        rw [World.size_alloc] at h1
        rw [hX2]
        simpa using h1
      have hbx : X2.heap[wr.heap.size]? = some (.cells (rcs r (.slice os r.ss.length cs)) 24 (0, 0)) := by rw [hX2]; exact (Below.heap_alloc _ _ _ (by simp)).trans (heap_alloc_new wr _)
      have c7 : X2.cell? ⟨g, o + k * 9 + 7, none⟩ = some (.slice os r.ss.length cs) := by
        have h1 := hrg 7 (.slice os r.ss.length cs) rfl
        rw [b2.cell (p := ⟨g, o + k * 9 + 7, none⟩) hg]
        exact h1
      have HE := hide hE
      have HLW := hide (hli.below b2)
      have HBX := hide hbx
      have HB2 := hide b2
      have HRG := hide hrg
      have HX2 := hide hX2
      have HZ2 : Hid (X2.heap.size = wr.heap.size + 2) := by show _ = _; rw [hX2]; simp
      rw [hX2] at HE HLW c7
      clear hown hbl hcc hrg hli hE hbx b2 hX2
      go_wp2_with (first
        | (refine wpList_load_mid rfl 24 (.tmp 14) rfl g (o + k * 9) rfl _ _ HRG.out Tryz.underlying24 rfl sizeRec ?_)
        | (at_builtin; refine append_strs _ rfl _ _ rfl (wr.heap.size + 1) _ [] rfl HE.out _ r.ss rfl HLW.out ?c3 ?c4 ?c5 ?_))
      case c3 => unfold maxLen; simp; omega
      case c4 => simp; omega
      case c5 => simp
      intro v1 w1 own1 hg1
      have hg1 : X2.grownBy w1 (Value.slice (some ⟨wr.heap.size + 1, 0, none⟩) 0 0).ownBlock := by rw [HX2.out]; exact hg1
      have own1 : w1.ownsRow (wr.heap.size + 1) 9 1 v1 r.ss.length (sc r.ss) := by simpa using own1
      obtain ⟨o1, c1, rfl⟩ := own_slice own1
      have Q1 := grown_blk hg1 HBX.out (fun k hk => by simp [Value.ownBlock] at hk; omega)
      have B1 : Below wr.heap.size wr w1 := HB2.out.grown hg1 (by have := HZ2.out; omega) (fun k hk => by simp [Value.ownBlock] at hk; omega)
      have q7 : w1.cell? ⟨wr.heap.size, 7, none⟩ = some (.slice os r.ss.length cs) := dk.cell_of Q1 7
      have z7 : w1.frozen? ⟨wr.heap.size, 7, none⟩ = false := dk.free_of Q1 7
      obtain ⟨X, hX⟩ : ∃ X, X = w1.setCell ⟨wr.heap.size, 7, none⟩ (.slice o1 r.ss.length c1) := ⟨_, rfl⟩
      have QX : X.heap[wr.heap.size]? = some (.cells (rcs r (.slice o1 r.ss.length c1)) 24 (0, 0)) := by
        rw [hX]
        simp [World.setCell, Array.getElem?_modify, Q1]
      have BX : Below wr.heap.size wr X := by rw [hX]; exact B1.setCell (p := ⟨wr.heap.size, 7, none⟩) (Nat.le_refl _) _
      have OX : X.ownsRow (wr.heap.size + 1) 9 1 (.slice o1 r.ss.length c1) r.ss.length (sc r.ss) := own_at own1 (fun g hg => by rw [hX]; exact dk.set_other _ _ _ _ (show g ≠ wr.heap.size by omega))
      obtain ⟨Z, hZ⟩ : ∃ Z, Z = X.alloc (.cells (rcs r (.slice o1 r.ss.length c1)) 24) := ⟨_, rfl⟩
      have bZ : Below X.heap.size X Z := by rw [hZ]; exact (Below.refl _ _).alloc (Nat.le_refl _) _
      have bWZ : Below wr.heap.size wr Z := BX.trans (bZ.mono BX.size)
      have HRX : Hid (X.rangeAt wr.heap.size 0 (rcl9 r (.slice o1 r.ss.length c1))) := dk.range_of (t := 24) QX
      have HO2 := hide (HO.out.below bWZ)
      have HU2 := hide (own_least (dk.own_below OX bZ) (by omega : w.heap.size ≤ wr.heap.size + 1))
      have HBZ := hide (keepW HBL.out bWZ)
      have HC9 := hide (cells9 X r (.slice o1 r.ss.length c1) 24)
      have HROW := hide HO2.out.row
      rw [htl] at HROW
      have hsX : w.heap.size ≤ X.heap.size := Nat.le_trans hsz BX.size
      have HZX : Hid (w.heap.size ≤ Z.heap.size) := HBZ.out.size
      have HX := hide hX
      have HZ := hide hZ
      have HXS : Hid (X.heap.size = w1.heap.size) := by show _ = _; rw [hX]; simp [World.setCell]
      have HZZ := hide hZ
      rw [hZ, hX] at HROW
      rw [hX] at HC9 HRX
      have hs1 : w.heap.size ≤ w1.heap.size := by have := HXS.out; omega
      clear own1 hg1 Q1 B1 QX BX OX bZ bWZ hX hZ hsX HO HE HLW
      go_wp2_with (first
        | (refine wpList_load_mid rfl 24 (.tmp 5) rfl wr.heap.size 0 rfl _ _ HRX.out Tryz.underlying24 rfl sizeRec ?_)
        | (at_builtin; refine wpList_append_own _ rfl _ _ 42 rfl w.heap.size 24 i0 (.agg zrec) 9 136 Tryz.underlying42 hi hz0 hz1 hz2 rfl (by decide) _ k _ rfl HROW.out ⟨(w1.setCell ⟨wr.heap.size, 7, none⟩ (.slice o1 r.ss.length c1)).heap.size, 0, none⟩ 1 1 (rcl9 r (.slice o1 r.ss.length c1)) ?d0 rfl HC9.out (rcl_one _ _ _ _) ?d3 ?d4 ?d5 ?_))
      case d0 => first | rfl | (rw [World.size_setCell]; rfl) | (rw [dk.size_set]; rfl) | simp [Act.eval]
      case d3 => unfold maxLen; omega
      case d4 => omega
      case d5 => first | omega | (simp; done) | (simp; omega)
      intro v' w2 hown' hgrow _
      have hgrow : Z.grownBy w2 (Value.slice oo k co).ownBlock := by rw [HZ.out, HX.out]; exact hgrow
      have HN : Hid (OwnR w.heap.size w2 v' (l.take (k + 1)) (s ++ [.slice o1 r.ss.length c1])) := by
        show OwnR _ _ _ _ _
        rw [HTK.out]
        exact HO2.out.snoc r _ HU2.out (by rw [htl]; exact hown') hgrow
      have HRZ : Hid (Z.ownsRow w.heap.size 24 9 (.slice oo k co) k (rcc (l.take k) s)) := by have := HO2.out.row; rw [htl] at this; exact this
      have HB3 : Hid (Below w.heap.size w w2) := HBZ.out.grown hgrow HZX.out (fun b hb => (HRZ.out.lt b hb).1)
      clear hown' hgrow HROW HC9 HU2 HO2 HRX HBZ
      go_wp2_with fail
      go_roundw
      case rel => exact ⟨k + 1, _, by omega, by go_num, HN.out, HB3.out⟩
      case measure => simp [intOf]; omega
    · obtain rfl : k = l.length := by omega
      rw [List.take_length] at HO
      clear hown hbl
      have j1 : ¬ (l.length : Int) < (l.length : Int) := by omega
      go_wp2_with fail
      go_ret
      exact ⟨_, rfl, ⟨s, HO.out⟩, HBL.out⟩
end Go.Proofs.YtidccfflpcgkiaaGreatDoor.rc
