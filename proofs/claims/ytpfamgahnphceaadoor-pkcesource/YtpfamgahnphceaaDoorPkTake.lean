import Derived.Test.YtpfamgahnphceaaDoorPkLine
import Derived.Test.YtpfamgahnphceaaDoorUrlWalks
namespace Go.Proofs.YtpfamgahnphceaaDoor.pk
open Go.ChangeShapes Go.WideShapes Go.ChangeAt Go.RowKit Go.Proofs.YtpfamgahnphceaaDoor.common
open Go.Proofs.YtpfamgahnphceaaDoor.radw (B Lay)

/-- the cells of draws -/
def dcs (l : List (List UInt8)) : List Value := l.flatMap fun d => d.map B
theorem dcs_cons (d : List UInt8) (l : List (List UInt8)) : dcs (d :: l) = d.map B ++ dcs l := rfl
theorem dcs_snoc (d : List UInt8) (l : List (List UInt8)) : dcs (l ++ [d]) = dcs l ++ d.map B := by simp [dcs, List.flatMap_append]
/-- a source: the line of draws that wait -/
structure Src (w : World) (p : Nat) (gb : Option Nat) (l : List (List UInt8)) : Prop where
  lie : ∃ v, w.heap[p]? = some (.cells #[v] 53 (0, 0)) ∧ Ln w 55 32 gb v l.length (dcs l)
  all : ∀ d ∈ l, d.length = 32
/-- all but two places is as it was -/
structure Fr (p : Nat) (gb : Option Nat) (w w' : World) : Prop where
  os : w'.os = w.os
  tape : w'.tape = w.tape
  output : w'.output = w.output
  size : w.heap.size ≤ w'.heap.size
  block : ∀ k, k < w.heap.size → k ≠ p → gb ≠ some k → w'.heap[k]? = w.heap[k]?
abbrev ptr (p : Nat) : Value := .pointer (some ⟨p, 0, none⟩)

theorem cell0 {w : World} {p : Nat} {v : Value} {t : TypeId} (h : w.heap[p]? = some (.cells #[v] t (0, 0))) : w.cell? ⟨p, 0, none⟩ = some v := by simp [World.cell?, h]
theorem free0 {w : World} {p : Nat} {v : Value} {t : TypeId} (h : w.heap[p]? = some (.cells #[v] t (0, 0))) : w.frozen? ⟨p, 0, none⟩ = false := by simp [World.frozen?, h]

set_option maxHeartbeats 800000 in
theorem left_any (w : World) (p : Nat) (gb : Option Nat) (l : List (List UInt8)) (h : Src w p gb l) :
    Calls Tryd.prog 9 #[ptr p] w fun e w' => e = .returned (.int .i64 l.length) ∧ w' = w := by
  obtain ⟨v, hv, hl⟩ := h.lie
  obtain ⟨ao, cap, rfl⟩ := hl.len
  have c0 := cell0 hv
  clear h hl hv
  generalize l.length = n at *
  go_enter Tryd.func9, Tryd.ntmps9
  go_wp2
  go_ret
  exact ⟨rfl, rfl⟩

theorem sizeD : (Tryd.prog.info? 55).map (·.size) = some 32 := by kernel_rfl
def zero32 : Array Value := (List.replicate 32 (Value.int .u8 0)).toArray
theorem zero32_run (w : World) : (zeroValue 55).run Tryd.prog w = .ok (.agg zero32) w := by kernel_rfl

/-- two new arrays, the first for the answer -/
abbrev V2 (w : World) : World := (w.alloc (.cells zero32 55)).alloc (.cells zero32 55)
theorem old2 (w : World) (k : Nat) (hk : k < w.heap.size) : (V2 w).heap[k]? = w.heap[k]? := by
  unfold V2
  rw [heap_alloc_old _ _ (by simp; omega), heap_alloc_old _ _ hk]
theorem size2 (w : World) : (V2 w).heap.size = w.heap.size + 2 := by unfold V2; simp
theorem new2a (w : World) : (V2 w).heap[w.heap.size]? = some (.cells zero32 55 (0, 0)) := by
  unfold V2
  rw [heap_alloc_old _ _ (by simp), heap_alloc_new]
theorem new2b (w : World) : (V2 w).heap[w.heap.size + 1]? = some (.cells zero32 55 (0, 0)) := by
  unfold V2
  have := heap_alloc_new (w.alloc (.cells zero32 55)) (.cells zero32 55)
  simpa using this
theorem there32 {w : World} {g : Nat} (h : w.heap[g]? = some (.cells zero32 55 (0, 0))) : w.there g 0 32 := fun j hj => by
  have : j < zero32.size := hj
  exact ⟨by simp [World.cell?, h, this], by simp [World.frozen?, h]⟩
theorem sets_other (w : World) (g o : Nat) (vs : List Value) (k : Nat) (h : k ≠ g) : (w.setCells g o vs).heap[k]? = w.heap[k]? := by
  by_cases hk : k < w.heap.size
  · exact World.heap_setCells_other w g o vs hk h
  · have h1 : w.heap.size ≤ k := by omega
    have h2 : (w.setCells g o vs).heap.size = w.heap.size := by
      have : ∀ (vs : List Value) (o : Nat) (w : World), (w.setCells g o vs).heap.size = w.heap.size := by
        intro vs
        induction vs with
        | nil => intros; rfl
        | cons v r ih => intro o w; show ((w.setCell ⟨g, o, none⟩ v).setCells g (o + 1) r).heap.size = _; rw [ih]; simp [World.setCell]
      exact this vs o w
    rw [Array.getElem?_eq_none (by omega), Array.getElem?_eq_none h1]
theorem set_other (w : World) (a : Addr) (v : Value) (k : Nat) (h : k ≠ a.block) : (w.setCell a v).heap[k]? = w.heap[k]? := by
  simp [World.setCell, Array.getElem?_modify, Ne.symm h]
theorem set_here {w : World} {p : Nat} {v u : Value} {t : TypeId} (h : w.heap[p]? = some (.cells #[v] t (0, 0))) : (w.setCell ⟨p, 0, none⟩ u).heap[p]? = some (.cells #[u] t (0, 0)) := by
  simp [World.setCell, Array.getElem?_modify, h]

/-- how taking the first draw ends -/
def TkOut (p : Nat) (gb : Option Nat) (l : List (List UInt8)) (w w' : World) : Prop := ∃ gb', (gb' = gb ∨ gb' = none) ∧ Src w' p gb' l ∧ Fr p none w w'
theorem size_set (w : World) (a : Addr) (v : Value) : (w.setCell a v).heap.size = w.heap.size := by simp [World.setCell]
theorem size_sets (g : Nat) : ∀ (vs : List Value) (o : Nat) (w : World), (w.setCells g o vs).heap.size = w.heap.size
  | [], _, _ => rfl
  | v :: r, o, w => by show ((w.setCell ⟨g, o, none⟩ v).setCells g (o + 1) r).heap.size = _; rw [size_sets g r, size_set]
theorem os_sets (g : Nat) : ∀ (vs : List Value) (o : Nat) (w : World), (w.setCells g o vs).os = w.os ∧ (w.setCells g o vs).tape = w.tape ∧ (w.setCells g o vs).output = w.output
  | [], _, _ => ⟨rfl, rfl, rfl⟩
  | v :: r, o, w => os_sets g r (o + 1) (w.setCell ⟨g, o, none⟩ v)

theorem take_end {w : World} {p : Nat} {g : Nat} {gb' : Option Nat} {D : List Value} {l : List (List UInt8)} {v u : Value} (hgb : gb' = some g ∨ gb' = none) (hg : g < w.heap.size) (hp : p < w.heap.size) (hpg : p ≠ g)
    (hv : w.heap[p]? = some (.cells #[v] 53 (0, 0))) (ht : Ln w 55 32 gb' u l.length (dcs l)) (hall : ∀ x ∈ l, x.length = 32) :
    TkOut p (some g) l w ((((V2 w).setCells (w.heap.size + 1) 0 D).setCell ⟨p, 0, none⟩ u).setCells w.heap.size 0 D) := by
  have hold : ∀ k, k < w.heap.size → k ≠ p → ((((V2 w).setCells (w.heap.size + 1) 0 D).setCell ⟨p, 0, none⟩ u).setCells w.heap.size 0 D).heap[k]? = w.heap[k]? := fun k hk hkp => by
    rw [sets_other _ _ _ _ _ (by omega), set_other _ _ _ _ hkp, sets_other _ _ _ _ _ (by omega), old2 w k hk]
  refine ⟨gb', hgb, ⟨⟨u, ?_, ht.keep fun k hk => ?_⟩, hall⟩, ?_, ?_, ?_, ?_, fun k hk hkp _ => hold k hk hkp⟩
  · rw [sets_other _ _ _ _ _ (by omega)]
    exact set_here (v := v) (by rw [sets_other _ _ _ _ _ (by omega), old2 w p hp]; exact hv)
  · rcases hgb with h | h
    · rw [h] at hk
      cases hk
      exact hold g hg (Ne.symm hpg)
    · rw [h] at hk; cases hk
  · rw [(os_sets _ _ _ _).1]; show ((V2 w).setCells _ _ _).os = _; rw [(os_sets _ _ _ _).1]; rfl
  · rw [(os_sets _ _ _ _).2.1]; show ((V2 w).setCells _ _ _).tape = _; rw [(os_sets _ _ _ _).2.1]; rfl
  · rw [(os_sets _ _ _ _).2.2]; show ((V2 w).setCells _ _ _).output = _; rw [(os_sets _ _ _ _).2.2]; rfl
  · rw [size_sets, size_set, size_sets, size2]; omega

set_option maxRecDepth 100000 in
set_option maxHeartbeats 1600000 in
theorem take_any (w : World) (p : Nat) (gb : Option Nat) (d : List UInt8) (l : List (List UInt8)) (h : Src w p gb (d :: l)) :
    Calls Tryd.prog 21 #[ptr p] w fun e w' => e = .returned (.agg (d.map B).toArray) ∧ TkOut p gb l w w' := by
  obtain ⟨v, hv, hl⟩ := h.lie
  have hd : (d.map B).length = 32 := by rw [List.length_map]; exact h.all d (by simp)
  have hall : ∀ x ∈ l, x.length = 32 := fun x hx => h.all x (by simp [hx])
  rw [dcs_cons] at hl
  obtain ⟨g, o, cap, rfl, rfl, hcap, hr, hg, gb', hgb, ht⟩ := hl.tail hd
  have hz32 := zero32_run
  have hp : p < w.heap.size := (Array.getElem?_eq_some_iff.1 hv).1
  have hpg : p ≠ g := fun e => by
    obtain ⟨_, cur, hc⟩ := hl.lt g rfl
    rw [← e, hv] at hc
    simp at hc
  have h1 : (d.map B).toArray.all (·.oneCell') = true := all_oneCell_toArray (by intro v hv; obtain ⟨x, _, rfl⟩ := List.mem_map.1 hv; rfl)
  generalize d.map B = D at *
  have HI : Hid ((Tryd.prog.info? 55).map (·.size) = some D.length) := by show _ = _; rw [hd]; exact sizeD
  have HI2 : Hid ((Tryd.prog.info? 55).map (·.size) = some D.toArray.size) := by show _ = _; rw [List.size_toArray]; exact HI.out
  have hds : D.toArray.size = 32 := by rw [List.size_toArray]; exact hd
  have HO := hide h1
  have R1 : Hid ((w.alloc (.cells zero32 55)).rangeAt g o D) := range_block hr (heap_alloc_old _ _ hg)
  have T1 : Hid ((V2 w).there (w.heap.size + 1) 0 D.toArray.size) := by rw [hds]; exact there32 (new2b w)
  have hp3 : ((V2 w).setCells (w.heap.size + 1) 0 D).heap[p]? = some (.cells #[.slice (some ⟨g, o, none⟩) (l.length + 1) (cap + 1)] 53 (0, 0)) := by
    rw [sets_other _ _ _ _ _ (by omega), old2 w p hp]; exact hv
  have c0 : (w.alloc (.cells zero32 55)).cell? ⟨p, 0, none⟩ = some (.slice (some ⟨g, o, none⟩) (l.length + 1) (cap + 1)) := cell0 ((heap_alloc_old w _ hp).trans hv)
  have c3 := cell0 hp3
  have f3 := free0 hp3
  have R2 : Hid (∀ u, (((V2 w).setCells (w.heap.size + 1) 0 D).setCell ⟨p, 0, none⟩ u).rangeAt (w.heap.size + 1) 0 D) := fun u =>
    range_block (World.rangeAt_setCells_same _ _ _ _ (by rw [hd]; exact there32 (new2b w))) (set_other _ _ _ _ (by show _ ≠ p; omega))
  have T2 : Hid (∀ u, (((V2 w).setCells (w.heap.size + 1) 0 D).setCell ⟨p, 0, none⟩ u).there w.heap.size 0 D.toArray.size) := fun u => by
    rw [hds]
    exact there_block (World.there_setCells (there32 (new2a w)) _ _ _) (set_other _ _ _ _ (by show _ ≠ p; omega))
  have HV := hide hv
  have HT := hide ht
  have HP3 := hide hp3
  have HPG := hide hpg
  have HP := hide hp
  have HD := hide hd
  have HG := hide hg
  have k1 : (0 : Int) < (l.length : Int) + 1 := by omega
  have k2 : (1 : Int) ≤ (l.length : Int) + 1 := by omega
  have k3 : (l.length : Int) + 1 ≤ (cap : Int) + 1 := by omega
  have k4 : (1 : Int) ≤ (cap : Int) + 1 := by omega
  have k5 : (1 : Nat) ≤ l.length + 1 := by omega
  have k6 : l.length + 1 ≤ cap + 1 := by omega
  clear hl hr hd h1 hds hv ht hp3 hpg hp hg h
  go_enter Tryd.func21, Tryd.ntmps21
  go_wp2_with (first
    | (refine wpList_load_mid rfl 55 (.tmp 8) rfl g o rfl D _ R1.out Tryd.underlying55 rfl HI.out ?_)
    | (refine wpList_store_mid rfl 55 (.tmp 3) (.tmp 9) rfl (w.heap.size + 1) 0 D.toArray rfl rfl T1.out HI2.out HO.out ?_)
    | (refine wpList_load_mid rfl 55 (.tmp 3) rfl (w.heap.size + 1) 0 rfl D _ (R2.out _) Tryd.underlying55 rfl HI.out ?_)
    | (refine wpList_store_mid rfl 55 (.tmp 2) (.tmp 18) rfl w.heap.size 0 D.toArray rfl rfl (T2.out _) HI2.out HO.out ?_))
  all_goals
    refine bodyPost_ret (v := .agg D.toArray) (results_cell1 (b := w.heap.size) (o := 0) (cs := D) Tryd.results21 _ rfl ?_ Tryd.underlying55 rfl HI.out) rfl ⟨rfl, ?_⟩
  · exact World.rangeAt_setCells_same _ _ _ _ (by have := T2.out (.slice (some ⟨g, o, none⟩) l.length 0); rwa [List.size_toArray] at this)
  · refine take_end hgb HG.out HP.out HPG.out HV.out ?_ hall
    have e : cap = 0 := by assumption
    have h2 := HT.out
    rw [e, if_pos rfl] at h2
    exact h2
  · exact World.rangeAt_setCells_same _ _ _ _ (by have := T2.out (.slice (some ⟨g, o + 32, none⟩) l.length cap); rwa [List.size_toArray] at this)
  · refine take_end hgb HG.out HP.out HPG.out HV.out ?_ hall
    have e : ¬ cap = 0 := by assumption
    have h2 := HT.out
    rw [if_neg e] at h2
    exact h2

end Go.Proofs.YtpfamgahnphceaaDoor.pk
