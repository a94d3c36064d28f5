import Derived.Test.YticncaoecoehkaaDoorDkMore
import Derived.Test.YticncaoecoehkaaDoorWlScan
import Derived.Test.YticncaoecoehkaaDoorWlFrame
namespace Go.Proofs.YticncaoecoehkaaDoor.wl
open Go.ChangeShapes Go.WideShapes Go.ChangeAt Go.RowKit Go.Proofs.YticncaoecoehkaaDoor.common Go.Proofs.YticncaoecoehkaaDoor.dk

/-- a frame is written: what it does to the disk, what it answers -/
def wrS (x : St) (l : List UInt8) : St × Nat := if (x.append l).2 = 0 then (x.append l).1.syncs else x.append l
/-- the good head is kept -/
def kpS (x : St) (good all : Nat) : St × Nat := if good < all then (if (x.trunc (good : Int)).2 = 0 then (x.trunc (good : Int)).1.syncs else x.trunc (good : Int)) else x.syncs
/-- a log in memory -/
abbrev lgc (p count size : Nat) (dead : Bool) : Array Value := #[ptr p, .int .i64 (count : Int), .int .i64 (size : Int), .bool dead]
def LgAt (w : World) (g p count size : Nat) (dead : Bool) : Prop := w.heap[g]? = some (.cells (lgc p count size dead) 80 (0, 0))
theorem errV_zero (e : Nat → Addr) : errV e 0 = .nilIface := rfl
theorem errV_neq (e : Nat → Addr) (n : Nat) (w : World) : (binOp .neq 30 (errV e n) .nilIface).run Tryd.prog w = .ok (.bool (decide (n ≠ 0))) w := by
  unfold errV
  by_cases h : n = 0
  · rw [if_pos h, h]; exact neq_nil w
  · rw [if_neg h, decide_eq_true h]; exact neq_err e _ w

set_option maxRecDepth 100000 in
set_option maxHeartbeats 800000 in
theorem write_any (w : World) (K p g : Nat) (F : List Nat) (x : St) (h : Dk w p F x) (count size : Nat) (dead : Bool) (hl : LgAt w g p count size dead) (hgF : g ∉ F) (v : Value) (l : List UInt8) (hv : Rd w v l) (hvF : ∀ a n c, v = .slice (some a) n c → a.block ∉ F) (hvlt : ∀ a n c, v = .slice (some a) n c → a.block < w.heap.size)
    (e : Nat → Addr) (he : Er w K e) (hF : ∀ k ∈ F, K ≤ k) (hx : Fine x) (hx2 : Fine (x.append l).1) (hll : l.length ≤ 9223372036854775807) :
    Calls Tryd.prog 44 #[ptr g, v] w fun r' w' => r' = .returned (errV e (wrS x l).2) ∧ Mv w p F (wrS x l).1 w' := by
  have HA := hide (append_any w K p F x h v l hv (fun _ => hvF) (fun _ => hvlt) e he hF hx hll)
  have c0 : w.cell? ⟨g, 0, none⟩ = some (ptr p) := cell_of hl 0
  have HL := hide hl
  have hgl : g < w.heap.size := (Array.getElem?_eq_some_iff.1 hl).1
  obtain ⟨oa, c, rfl⟩ := hv.len
  have HER := hide he
  clear h hl hv hvF hvlt he
  go_enter Tryd.func44, Tryd.ntmps44
  go_wp2_with fail
  refine HA.out.mono ?_
  rintro r' w1 ⟨rfl, F1, hD1, hf1, hs1⟩
  have hq := errV_neq e (x.append l).2
  have hL1 : LgAt w1 g p count size dead := (hf1.block g hgl hgF).trans HL.out
  have c1 : w1.cell? ⟨g, 0, none⟩ = some (ptr p) := cell_of hL1 0
  by_cases h0 : (x.append l).2 = 0
  · have hw : wrS x l = (x.append l).1.syncs := by unfold wrS; rw [if_pos h0]
    have hF1 : ∀ k ∈ F1, K ≤ k := fun k hk => by
      rcases hs1 k hk with h1 | h1
      · exact hF k h1
      · exact Nat.le_trans HER.out.size h1
    have HS := hide (sync_any w1 K p F1 (x.append l).1 hD1 e (HER.out.fr hf1 hF).ed hF1 hx2)
    have HF1 := hide hf1
    have HS1 := hide hs1
    rw [h0, errV_zero]
    have HW := hide hw
    clear hw hD1 hf1 hs1 hq hL1 h0 HA
    go_wp2_with fail
    refine HS.out.mono ?_
    rintro r' w2 ⟨rfl, F2, hD2, hf2, hs2⟩
    have HMV : Hid (Mv w p F (wrS x l).1 w2) := by
      show Mv _ _ _ _ _
      rw [HW.out]
      refine ⟨F2, hD2, HF1.out.trans hf2 (fun i hi => HS1.out i hi), fun k hk => ?_⟩
      rcases hs2 k hk with h1 | h1
      · exact HS1.out k h1
      · exact Or.inr (Nat.le_trans HF1.out.size h1)
    clear hD2 hf2 hs2 HS
    go_wp2_with fail
    go_ret
    exact ⟨by rw [HW.out]; rfl, HMV.out⟩
  · have hw : wrS x l = x.append l := by unfold wrS; rw [if_neg h0]
    have HMV : Hid (Mv w p F (wrS x l).1 w1) := by
      show Mv _ _ _ _ _
      rw [hw]
      exact ⟨F1, hD1, hf1, hs1⟩
    have hev : errV e (x.append l).2 = errw.E e ((x.append l).2 - 1) := by unfold errV; rw [if_neg h0]
    have HW := hide hw
    have HEV := hide hev
    rw [hev]
    clear hw hD1 hf1 hs1 hq hL1 h0 HA hev
    go_wp2_with fail
    go_ret
    exact ⟨by rw [HW.out, HEV.out]; rfl, HMV.out⟩

/-- what Put does: to the disk, to the log's count, size and dead, what it answers -/
structure Lg where
  x : St
  n : Nat
  z : Nat
  d : Bool
def Lg.put (y : Lg) (p : List UInt8) : Lg × Nat :=
  if Wl.fit p.length = false then (y, 1)
  else if y.d = true then (y, 10)
  else if (wrS y.x (Wl.fr p)).2 = 0 then (⟨(wrS y.x (Wl.fr p)).1, y.n + 1, y.z + (Wl.fr p).length, y.d⟩, 0)
  else (⟨(wrS y.x (Wl.fr p)).1, y.n, y.z, decide ((wrS y.x (Wl.fr p)).2 = 10)⟩, (wrS y.x (Wl.fr p)).2)
/-- a log over a disk -/
def LgD (w : World) (g p : Nat) (F : List Nat) (y : Lg) : Prop := Dk w p F y.x ∧ LgAt w g p y.n y.z y.d ∧ g ∉ F
theorem lg_set1 {w : World} {g p n z : Nat} {d : Bool} (h : LgAt w g p n z d) (n' : Nat) : LgAt (w.setCell ⟨g, 1, none⟩ (.int .i64 (n' : Int))) g p n' z d := by
  show _ = _
  have h' : w.heap[g]? = some (.cells (lgc p n z d) 80 (0, 0)) := h
  simp [World.setCell, Array.getElem?_modify, h', lgc]
theorem lg_set2 {w : World} {g p n z : Nat} {d : Bool} (h : LgAt w g p n z d) (z' : Nat) : LgAt (w.setCell ⟨g, 2, none⟩ (.int .i64 (z' : Int))) g p n z' d := by
  show _ = _
  have h' : w.heap[g]? = some (.cells (lgc p n z d) 80 (0, 0)) := h
  simp [World.setCell, Array.getElem?_modify, h', lgc]
theorem lg_set3 {w : World} {g p n z : Nat} {d : Bool} (h : LgAt w g p n z d) (d' : Bool) : LgAt (w.setCell ⟨g, 3, none⟩ (.bool d')) g p n z d' := by
  show _ = _
  have h' : w.heap[g]? = some (.cells (lgc p n z d) 80 (0, 0)) := h
  simp [World.setCell, Array.getElem?_modify, h', lgc]
theorem dk_apart {w : World} {p : Nat} {F : List Nat} {x : St} (h : Dk w p F x) (g : Nat) (hg : g ∉ F) (o : Nat) (v : Value) : Dk (w.setCell ⟨g, o, none⟩ v) p F x := by
  obtain ⟨gb, ga, vb, va, rfl, hk⟩ := h
  exact ⟨gb, ga, vb, va, rfl, hk.keep (fun k hk' => set_other _ _ _ _ (fun e => hg (by rw [← show k = g from e]; exact hk')))⟩
end Go.Proofs.YticncaoecoehkaaDoor.wl
