import Derived.Test.YtcpflfpgnbihiaaGreatDoorMLookWalks
import Derived.Test.YtcpflfpgnbihiaaGreatDoorMBfRefFind
namespace Go.Proofs.YtcpflfpgnbihiaaGreatDoor.lst
open Go.ChangeShapes Go.WideShapes Go.ChangeAt Go.RowKit Go.Proofs.YtcpflfpgnbihiaaGreatDoor.common
attribute [local go_sem ↓] Go.wp_at_zero Go.wp_at_succ

set_option maxRecDepth 100000 in
set_option maxHeartbeats 1600000 in
theorem same_any (va vb : Value) (l : List PB) (w : World) (ha : Lies w va l) (hb : Lies w vb l) (hs : l.length ≤ 4611686018427387904) :
    Calls Tryz.prog 22 #[va, vb] w fun e w' => e = .returned (.bool true) ∧ Below w.heap.size w w' := by
  obtain ⟨oa, ca, rfl, hca⟩ := ha
  obtain ⟨ob, cb, rfl, hcb⟩ := hb
  have HA := hide hca
  have HB := hide hcb
  clear hca hcb
  go_enter Tryz.func22, Tryz.ntmps22
  go_wp2_with fail
  go_loopw [5] (fun i wr => ∃ k : Nat, k ≤ l.length ∧ i = .int .i64 k ∧ Below w.heap.size w wr) (fun i _ => l.length - (intOf i).toNat)
  case atStart => exact ⟨0, Nat.zero_le _, rfl, Below.refl _ _⟩
  case round =>
    obtain ⟨k, hk, rfl, hnx⟩ := hrel
    by_cases hlt : k < l.length
    · have hki : (k : Int) < (l.length : Int) := by omega
      obtain ⟨b, o, rfl, hb, c0, c1⟩ := HA.out k hlt
      obtain ⟨b', o', rfl, hb', c0', c1'⟩ := HB.out k hlt
      have d0 := (hnx.cell (p := ⟨b, o + k * 2, none⟩) hb).trans c0
      have d1 := (hnx.cell (p := ⟨b, o + k * 2 + 1, none⟩) hb).trans c1
      have d0' := (hnx.cell (p := ⟨b', o' + k * 2, none⟩) hb').trans c0'
      have d1' := (hnx.cell (p := ⟨b', o' + k * 2 + 1, none⟩) hb').trans c1'
      have HX := hide hnx
      clear hnx c0 c1 c0' c1'
      generalize l[k] = p at *
      have k0 : (0 : Int) ≤ (k : Int) := Int.natCast_nonneg _
      go_wp2_with fail
      go_region_held3 (fun W => W.cell? ⟨b, o + k * 2, none⟩ = some (.string p.1) ∧ W.cell? ⟨b, o + k * 2 + 1, none⟩ = some (.string p.2) ∧ W.cell? ⟨b', o' + k * 2, none⟩ = some (.string p.1) ∧ W.cell? ⟨b', o' + k * 2 + 1, none⟩ = some (.string p.2)) (go_keep) (fail)
      all_goals
        go_wp2_with fail
        go_roundw
        case rel => exact ⟨k + 1, by omega, by go_num, HX.out.drew⟩
        case measure => simp [intOf]; omega
    · obtain rfl : k = l.length := by omega
      have H2 := hide hnx
      clear hnx
      go_wp2_with fail
      go_ret
      exact ⟨rfl, H2.out⟩

end Go.Proofs.YtcpflfpgnbihiaaGreatDoor.lst

namespace Go.Proofs.YtcpflfpgnbihiaaGreatDoor.bf
open Go.ChangeShapes Go.WideShapes Go.ChangeAt Go.RowKit Go.Proofs.YtcpflfpgnbihiaaGreatDoor.common Go.Proofs.YtcpflfpgnbihiaaGreatDoor.bk Go.Proofs.YtcpflfpgnbihiaaGreatDoor.fd
open Go.Proofs.YtcpflfpgnbihiaaGreatDoor.lst (PB Lies Row cl cl_app cl_len cl_get0 cl_get1 cl_set takeP row_of_own lookOf lies_of_own copied_any same_any)
open Go.Proofs.YtcpflfpgnbihiaaGreatDoor.errw (Errs E)
attribute [local go_sem ↓] Go.wp_at_zero Go.wp_at_succ

theorem rqc6 {w : World} {p : Nat} {m t : ByteArray} {n : Int} {v : Value} {b : ByteArray} {c : Bool} (h : w.heap[p]? = some (rq m t n v b c)) : w.cell? ⟨p, 0, none⟩ = some (.string m) ∧ w.cell? ⟨p, 1, none⟩ = some (.string t) ∧ w.cell? ⟨p, 2, none⟩ = some (.int .i64 n) ∧ w.cell? ⟨p, 3, none⟩ = some v ∧ w.cell? ⟨p, 4, none⟩ = some (.string b) ∧ w.cell? ⟨p, 5, none⟩ = some (.bool c) := by
  refine ⟨?_, ?_, ?_, ?_, ?_, ?_⟩ <;> simp [World.cell?, h]
theorem set_else {w : World} {b c : Nat} (h : c ≠ b) (j : Nat) (v : Value) : (w.setCell ⟨b, j, none⟩ v).heap[c]? = w.heap[c]? := by
  simp [World.setCell, Array.getElem?_modify, Ne.symm h]
theorem else_set {w : World} {g p j : Nat} {v : Value} {o : Obj} (h : w.heap[p]? = some o) (hne : p ≠ g) : (w.setCell ⟨g, j, none⟩ v).heap[p]? = some o := (set_else hne j v).trans h

theorem own_heap {w w' : World} {base : Nat} {e : TypeId} {size : Nat} {v : Value} {n : Nat} {xs : List Value} (h : w.ownsRow base e size v n xs) (hh : ∀ g, v.ownBlock = some g → w'.heap[g]? = w.heap[g]?) : w'.ownsRow base e size v n xs := by
  refine ⟨h.1, ?_⟩
  rcases h.2 with h1 | ⟨g, cap, cur, rfl, hg, h2, hn⟩
  · exact Or.inl h1
  · exact Or.inr ⟨g, cap, cur, rfl, hg, (hh g rfl).trans h2, hn⟩
theorem own_more {w : World} {base base' : Nat} {e : TypeId} {size : Nat} {v : Value} {n : Nat} {xs : List Value} (h : w.ownsRow base e size v n xs) (hb : base' ≤ base) : w.ownsRow base' e size v n xs := by
  refine ⟨h.1, ?_⟩
  rcases h.2 with h1 | ⟨g, cap, cur, rfl, hg, h2, hn⟩
  · exact Or.inl h1
  · exact Or.inr ⟨g, cap, cur, rfl, Nat.le_trans hb hg, h2, hn⟩
theorem box_set {w : World} {p : Nat} {m t : ByteArray} {n : Int} {v u : Value} {b : ByteArray} {c : Bool} (h : w.heap[p]? = some (rq m t n v b c)) : (w.setCell ⟨p, 3, none⟩ u).heap[p]? = some (rq m t n u b c) := by
  simp [World.setCell, Array.getElem?_modify, h]
theorem six_else {w : World} {g p : Nat} {a0 a1 a2 a3 a4 a5 : Value} (hne : g ≠ p) : (w.setCells p 0 [a0, a1, a2, a3, a4, a5]).heap[g]? = w.heap[g]? := by
  simp only [World.setCells]
  rw [set_else hne, set_else hne, set_else hne, set_else hne, set_else hne, set_else hne]
theorem oneR (m t : ByteArray) (n : Int) (oa : Option Addr) (l c0 : Nat) (b : ByteArray) (c : Bool) : (#[.string m, .string t, .int .i64 n, .slice oa l c0, .string b, .bool c] : Array Value).all (·.oneCell') = true := all_oneCell_toArray (cs := [.string m, .string t, .int .i64 n, .slice oa l c0, .string b, .bool c]) (fun v hv => by simp at hv; rcases hv with rfl | rfl | rfl | rfl | rfl | rfl <;> rfl)

set_option maxRecDepth 100000 in
set_option maxHeartbeats 3200000 in
theorem request_any (m t : ByteArray) (n : Int) (v : Value) (b : ByteArray) (c : Bool) (fs : List PB) (w : World) (hl : Lies w v fs) (hs : fs.length * 32 ≤ 140737488355328) :
    Calls Tryz.prog 4 #[rv m t n v b c] w fun x w' => ∃ v', x = .returned (rv m t n v' b c) ∧ w'.ownsRow w.heap.size 35 2 v' fs.length (cl fs) ∧ Below w.heap.size w w' := by
  obtain ⟨V0, hV0⟩ : ∃ V0, V0 = w.alloc (rq m t n v b c) := ⟨_, rfl⟩
  obtain ⟨V, hV⟩ : ∃ V, V = V0.alloc (rq ⟨#[]⟩ ⟨#[]⟩ 0 (.slice none 0 0) ⟨#[]⟩ false) := ⟨_, rfl⟩
  have hs0 : V0.heap.size = w.heap.size + 1 := by rw [hV0, World.size_alloc]
  have hs1 : V.heap.size = w.heap.size + 2 := by rw [hV, World.size_alloc, hs0]
  have B0 : Below w.heap.size w V0 := by rw [hV0]; exact (Below.refl _ _).alloc (Nat.le_refl _) _
  have BV : Below w.heap.size w V := by rw [hV]; exact B0.alloc (by omega) _
  have o0 : V.heap[w.heap.size]? = some (rq m t n v b c) := by rw [hV, hV0]; exact blkR (heap_new w _) ((Below.refl _ _).alloc (Nat.le_refl _) _)
  have t0 : V.there (w.heap.size + 1) 0 6 := by rw [hV, ← hs0]; exact there_new V0 _ _
  have HC := hide (copied_any v fs V (hl.below BV) hs)
  obtain ⟨_, _, _, c3, _, _⟩ := rqc6 o0
  have HV0 := hide hV0
  have HV := hide hV
  have HO := hide o0
  have HT := hide t0
  have HB := hide BV
  have hS1 := hide hs1
  rw [hV0] at hV
  rw [hV] at c3
  clear hV0 hV B0 BV o0 t0 hl hs0 hs1
  go_enter Tryz.func4, Tryz.ntmps4
  go_wp2_with fail
  rw [← HV0.out, ← HV.out]
  refine HC.out.mono ?_
  rintro x w1 ⟨v', rfl, hown, b1⟩
  have hz1 := b1.size
  have o1 := blkR HO.out b1
  have t1 : w1.there (w.heap.size + 1) 0 6 := there_below HT.out b1 (by have := hS1.out; omega)
  have hlt : ∀ g, v'.ownBlock = some g → w.heap.size + 2 ≤ g := fun g hg => by have := own_ge hown g hg; have := hS1.out; omega
  obtain ⟨oa, cap, rfl⟩ : ∃ oa cap, v' = .slice oa fs.length cap := by
    obtain ⟨oa, cap, hv, _⟩ := lies_of_own hown
    exact ⟨oa, cap, hv⟩
  obtain ⟨Z1, hZ1⟩ : ∃ Z1, Z1 = w1.setCell ⟨w.heap.size, 3, none⟩ (.slice oa fs.length cap) := ⟨_, rfl⟩
  have oZ : Z1.heap[w.heap.size]? = some (rq m t n (.slice oa fs.length cap) b c) := by rw [hZ1]; exact box_set o1
  have tZ : Z1.there (w.heap.size + 1) 0 6 := by rw [hZ1]; exact there_set t1 _ _
  have wZ : Z1.ownsRow V.heap.size 35 2 (.slice oa fs.length cap) fs.length (cl fs) := by
    refine own_heap hown fun g hg => ?_
    rw [hZ1, set_else (by have := hlt g hg; omega)]
  have bZ : Below w.heap.size w Z1 := by rw [hZ1]; exact (keepW HB.out b1 HB.out.size).setCell (Nat.le_refl _) _
  have HR := hide (rqr oZ)
  have HTZ := hide tZ
  have HZ1 := hide hZ1
  have HWF : Hid ((Z1.setCells (w.heap.size + 1) 0 [.string m, .string t, .int .i64 n, .slice oa fs.length cap, .string b, .bool c]).rangeAt (w.heap.size + 1) 0 [.string m, .string t, .int .i64 n, .slice oa fs.length cap, .string b, .bool c] ∧ (Z1.setCells (w.heap.size + 1) 0 [.string m, .string t, .int .i64 n, .slice oa fs.length cap, .string b, .bool c]).ownsRow w.heap.size 35 2 (.slice oa fs.length cap) fs.length (cl fs) ∧ Below w.heap.size w (Z1.setCells (w.heap.size + 1) 0 [.string m, .string t, .int .i64 n, .slice oa fs.length cap, .string b, .bool c])) := by
    refine ⟨World.rangeAt_setCells_same _ _ _ _ tZ, ?_, below_setCells bZ (by omega) _ _⟩
    refine own_more (own_heap wZ fun g hg => ?_) HB.out.size
    exact six_else (by have := hlt g hg; omega)
  have f3 : w1.frozen? ⟨w.heap.size, 3, none⟩ = false := by simp [World.frozen?, o1]
  obtain ⟨_, _, _, d3, _, _⟩ := rqc6 o1
  clear hown b1 o1 t1 hlt oZ tZ wZ bZ HC HO HT HB c3 hZ1 hz1
  go_wp2_with (first
    | (refine wpList_load_mid rfl 24 (.tmp 1) rfl w.heap.size 0 rfl _ _ (by rw [← HZ1.out]; exact HR.out) Tryz.underlying24 rfl sizeR ?_)
    | (refine wpList_store_mid rfl 24 (.tmp 2) (.tmp 7) rfl (w.heap.size + 1) 0 #[.string m, .string t, .int .i64 n, .slice oa fs.length cap, .string b, .bool c] rfl rfl (by rw [← HZ1.out]; exact HTZ.out) sizeR (oneR _ _ _ _ _ _ _ _) ?_))
  rw [← HZ1.out]
  refine bodyPost_ret (v := .agg #[.string m, .string t, .int .i64 n, .slice oa fs.length cap, .string b, .bool c]) (results_cell1 (b := w.heap.size + 1) (o := 0) (cs := [.string m, .string t, .int .i64 n, .slice oa fs.length cap, .string b, .bool c]) Tryz.results4 _ rfl HWF.out.1 Tryz.underlying24 rfl sizeR) rfl ⟨_, rfl, HWF.out.2.1, HWF.out.2.2⟩

set_option maxRecDepth 100000 in
set_option maxHeartbeats 1600000 in
theorem sameReq_any (m t : ByteArray) (n : Int) (v u : Value) (b : ByteArray) (c : Bool) (fs : List PB) (w : World) (hl : Lies w v fs) (hu : Lies w u fs) (hs : fs.length ≤ 4611686018427387904) :
    Calls Tryz.prog 8 #[rv m t n v b c, rv m t n u b c] w fun x w' => x = .returned (.bool true) ∧ Below w.heap.size w w' := by
  have B0 : Below w.heap.size w (w.alloc (rq m t n v b c)) := (Below.refl _ _).alloc (Nat.le_refl _) _
  have B1 : Below w.heap.size w ((w.alloc (rq m t n v b c)).alloc (rq m t n u b c)) := B0.alloc B0.size _
  have o0 : ((w.alloc (rq m t n v b c)).alloc (rq m t n u b c)).heap[w.heap.size]? = some (rq m t n v b c) := blkR (heap_new w _) ((Below.refl _ _).alloc (Nat.le_refl _) _)
  have o1 := heap_new (w.alloc (rq m t n v b c)) (rq m t n u b c)
  have hsz : (w.alloc (rq m t n v b c)).heap.size = w.heap.size + 1 := World.size_alloc _ _
  rw [hsz] at o1
  have HS := hide (same_any v u fs _ (hl.below B1) (hu.below B1) hs)
  have HO0 := hide o0
  have HO1 := hide o1
  have HB1 := hide B1
  obtain ⟨_, _, _, a3, _, _⟩ := rqc6 o0
  obtain ⟨_, _, _, b3, _, _⟩ := rqc6 o1
  clear B0 B1 o0 o1 hsz hl hu hs
  go_enter Tryz.func8, Tryz.ntmps8
  go_wp2_with fail
  refine HS.out.mono ?_
  rintro x w1 ⟨rfl, b1⟩
  obtain ⟨a0, a1, a2, _, a4, a5⟩ := rqc6 (blkR HO0.out b1)
  obtain ⟨b0, b1', b2, _, b4, b5⟩ := rqc6 (blkR HO1.out b1)
  have HB2 := hide (keepW HB1.out b1 HB1.out.size)
  clear b1 HS HO0 HO1 HB1 a3 b3
  go_wp2_with fail
  go_ret
  exact ⟨by first | rfl | simp, HB2.out⟩
end Go.Proofs.YtcpflfpgnbihiaaGreatDoor.bf
