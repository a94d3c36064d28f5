import Derived.Test.YtefdofmllgofeaaGreatDoorMAgFol
import Derived.Lib.LazyBuf
namespace Go.Proofs.YtefdofmllgofeaaGreatDoor.ag
open Go.ChangeShapes Go.WideShapes Go.ChangeAt Go.RowKit Go.Proofs.YtefdofmllgofeaaGreatDoor.common Go.Maps Go.WideElems
attribute [local go_sem ↓] Go.wp_at_zero Go.wp_at_succ

theorem nil_eqS (w : World) (a : Option Addr) (l c : Nat) : (binOp .eql 22 (.slice a l c) (.slice none 0 0)).run Tryz.prog w = .ok (.bool a.isNone) w := Go.run_eql_slice_nil w _ _ a l c Tryz.underlying22
theorem nil_eqF (w : World) (a : Option Addr) (l c : Nat) : (binOp .eql 45 (.slice a l c) (.slice none 0 0)).run Tryz.prog w = .ok (.bool a.isNone) w := Go.run_eql_slice_nil w _ _ a l c Tryz.underlying45
set_option maxRecDepth 100000 in
set_option maxHeartbeats 800000 in
attribute [local go_sem] nil_eqS in
theorem cloneS_nil (w : World) : Calls Tryz.prog 33 #[.slice none 0 0] w fun e w' => e = .returned (.slice none 0 0) ∧ w' = w := by
  go_enter Tryz.func33, Tryz.ntmps33
  go_wp2_with fail
  go_ret
  exact ⟨rfl, rfl⟩
set_option maxRecDepth 100000 in
set_option maxHeartbeats 800000 in
attribute [local go_sem] nil_eqF in
theorem cloneF_nil (w : World) : Calls Tryz.prog 34 #[.slice none 0 0] w fun e w' => e = .returned (.slice none 0 0) ∧ w' = w := by
  go_enter Tryz.func34, Tryz.ntmps34
  go_wp2_with fail
  go_ret
  exact ⟨rfl, rfl⟩
abbrev pgO : Obj := .cells #[.string emB, .slice none 0 0, .slice none 0 0] 47
abbrev pgV : Value := .agg #[.string emB, .slice none 0 0, .slice none 0 0]
theorem sizeP : (Tryz.prog.info? 47).map (·.size) = some 3 := by kernel_rfl
theorem pg_cells {w : World} {F : Nat} (h : w.heap[F]? = some pgO) : w.cell? ⟨F, 0, none⟩ = some (.string emB) ∧ w.cell? ⟨F, 1, none⟩ = some (.slice none 0 0) ∧ w.cell? ⟨F, 2, none⟩ = some (.slice none 0 0) ∧ ∀ j, w.frozen? ⟨F, j, none⟩ = false := by
  refine ⟨?_, ?_, ?_, fun j => ?_⟩ <;> simp [World.cell?, World.frozen?, h]

set_option maxRecDepth 100000 in
set_option maxHeartbeats 3200000 in
theorem copy_nil (w : World) : Calls Tryz.prog 23 #[pgV] w fun e w' => e = .returned pgV ∧ Below w.heap.size w w' := by
  have BA := al w pgO
  have BB := al (w.alloc pgO) pgO
  have hb : Below w.heap.size w ((w.alloc pgO).alloc pgO) := kW BA BB BA.size
  have HB := hide hb
  obtain ⟨c0, c1, c2, cf⟩ := pg_cells (blk (heap_at w pgO) BB)
  have h1 := heap_at (w.alloc pgO) pgO
  rw [World.size_alloc] at h1
  obtain ⟨d0, d1, d2, df⟩ := pg_cells h1
  have f1 := cf 1
  have f2 := cf 2
  have g0 := df 0
  have g1 := df 1
  have g2 := df 2
  have HR := hide (range_of (l := [.string emB, .slice none 0 0, .slice none 0 0]) h1)
  have HS := hide (fun W => cloneS_nil W)
  have HF := hide (fun W => cloneF_nil W)
  clear BA BB hb cf df h1
  go_enter Tryz.func23, Tryz.ntmps23
  go_wp2_with fail
  refine (HS.out _).mono ?_
  rintro e w1 ⟨rfl, h0⟩
  rw [h0]
  clear h0
  go_wp2_with fail
  refine (HF.out _).mono ?_
  rintro e w2 ⟨rfl, h0⟩
  rw [h0]
  clear h0
  go_wp2_with fail
  go_loopw [16] (fun i wr => i = .int .i64 0 ∧ wr = (w.alloc pgO).alloc pgO) (fun _ _ => 0)
  case atStart => exact ⟨rfl, rfl⟩
  case round =>
    obtain ⟨rfl, rfl⟩ := hrel
    go_wp2_with fail
    refine bodyPost_ret (results_cell1 rfl _ rfl HR.out Tryz.underlying47 rfl sizeP) rfl ⟨rfl, HB.out⟩

theorem pg_set {w : World} {F : Nat} (h : w.heap[F]? = some pgO) : (w.setCells F 0 [.string emB, .slice none 0 0, .slice none 0 0]).heap[F]? = some pgO := by
  simp [World.setCells, World.setCell, Array.getElem?_modify, h]
set_option maxRecDepth 100000 in
set_option maxHeartbeats 3200000 in
/-- an agent at no page -/
theorem page_bare (p mb : Nat) (x : Ax) (w : World) (hp : w.heap[p]? = some (agO x mb)) (h0 : x.ti = emB) (h1 : x.lv = .slice none 0 0) (h2 : x.fv = .slice none 0 0) :
    Calls Tryz.prog 11 #[ptr p] w fun e w' => e = .returned (.tuple #[pgV, .bool x.ap]) ∧ Below w.heap.size w w' := by
  have BA := al w pgO
  have hp1 := blk hp BA
  have hcell : ∀ j v, [Value.int .i64 x.t, .map (some mb), .string x.ti, x.lv, x.fv, .bool x.ap, .string x.wh, .bool x.wt, .int .i64 x.hp][j]? = some v → (w.alloc pgO).cell? ⟨p, j, none⟩ = some v := fun j v hv => by simp only [World.cell?, hp1]; simpa using hv
  have d2 := hcell 2 _ rfl
  have d3 := hcell 3 _ rfl
  have d4 := hcell 4 _ rfl
  have d5 := hcell 5 _ rfl
  rw [h0] at d2
  rw [h1] at d3
  rw [h2] at d4
  have HB := hide BA
  have HZ := hide (heap_at w pgO)
  have HPL := hide (show p < (w.alloc pgO).heap.size from lt_of hp1)
  have HC := hide (fun W => copy_nil W)
  obtain ⟨W1, hW1⟩ : ∃ W1, W1 = w.alloc pgO := ⟨_, rfl⟩
  rw [← hW1] at d2 d3 d4 d5 HB HZ HPL
  have HW1 := hide hW1
  have HK : Hid (∀ Y, Below W1.heap.size W1 Y → Y.cell? ⟨p, 5, none⟩ = some (.bool x.ap) ∧ Y.heap[w.heap.size]? = some pgO ∧ Hid ((Y.setCells w.heap.size 0 [.string emB, .slice none 0 0, .slice none 0 0]).rangeAt w.heap.size 0 [.string emB, .slice none 0 0, .slice none 0 0] ∧ Below w.heap.size w (Y.setCells w.heap.size 0 [.string emB, .slice none 0 0, .slice none 0 0]))) := fun Y hY =>
    ⟨(hY.cell (p := ⟨p, 5, none⟩) HPL.out).trans d5, blk HZ.out hY, range_of (l := [.string emB, .slice none 0 0, .slice none 0 0]) (pg_set (blk HZ.out hY)), setC_below (kW HB.out hY HB.out.size) (Nat.le_refl _) _ 0⟩
  clear hp h0 h1 h2 BA hp1 hcell hW1
  go_enter Tryz.func11, Tryz.ntmps11
  go_upto_region 1 with fail
  rw [← HW1.out]
  go_region_with (first
    | (go_at_call 23; refine (HC.out _).mono ?_; rintro y wa ⟨rfl, ba⟩; obtain ⟨e5, ez, hrz⟩ := HK.out wa (Below.trans ((Below.refl _ _).drew) ba); obtain ⟨g0, g1, g2, gf⟩ := pg_cells ez; have gf0 := gf 0; have gf1 := gf 1; have gf2 := gf 2; clear gf ez ba))
  all_goals
    go_wp2_with fail
    refine bodyPost_ret (fd.results_ct (u := .bool x.ap) rfl _ rfl hrz.out.1 Tryz.underlying47 rfl sizeP rfl) rfl ⟨rfl, hrz.out.2⟩
end Go.Proofs.YtefdofmllgofeaaGreatDoor.ag
