import Derived.Test.YtocpikgcbibcoaaGreatDoorMRcUn
import Derived.Test.YtocpikgcbibcoaaGreatDoorMRdSameD
import Derived.Test.YtocpikgcbibcoaaGreatDoorMPickWalk
namespace Go.Proofs.YtocpikgcbibcoaaGreatDoor.rc
open Go.ChangeShapes Go.WideShapes Go.ChangeAt Go.RowKit Go.Joins Go.Deep Go.WideElems Go.Maps Go.Proofs.YtocpikgcbibcoaaGreatDoor.common Go.Proofs.YtocpikgcbibcoaaGreatDoor.ss

end Go.Proofs.YtocpikgcbibcoaaGreatDoor.rc

namespace Go.Proofs.YtocpikgcbibcoaaGreatDoor.rc
open Go.ChangeShapes Go.WideShapes Go.ChangeAt Go.RowKit Go.Joins Go.Deep Go.WideElems Go.Maps Go.Proofs.YtocpikgcbibcoaaGreatDoor.common Go.Proofs.YtocpikgcbibcoaaGreatDoor.ss

set_option maxRecDepth 100000 in
/-- a record as an argument, however great -/
theorem rec_full {H : Type} {enc : TypeId × Value → H} {W : World} {fuel : Nat} {q0 q1 q2 q3 q4 q5 q6 q7 q8 : Value} {d : DataW H} {pl : List MemPlace}
    (h : DataW.trod enc Tryz.prog W 0 (fun _ => true) true fuel 26 [q0, q1, q2, q3, q4, q5, q6, q7, q8] = some (d, pl)) (hw : (d.weights Tryz.prog 26).all (· ≤ reachBytes) = true) :
    ∃ r : Rec, q0 = .int .i64 r.k ∧ q1 = .string r.id ∧ q2 = .string r.us ∧ q3 = .string r.cl ∧ q4 = .string r.rd ∧ q5 = .string r.ch ∧ q6 = .string r.cd ∧ q8 = .int .i64 r.at_ ∧ Lies W q7 r.ss ∧ TidIn r := by
  obtain ⟨xs, n, _, hx, hl, hlen, hf⟩ := DataW.trod_struct Tryz.underlying26 h
  match xs, hlen with
  | [y0, y1, y2, y3, y4, y5, y6, y7, y8], _ =>
    have g0 : DataW.trod enc Tryz.prog W 0 (fun _ => true) true n 3 [q0] = some y0 := by have := hf 0 _ rfl; simp only [List.getElem?_cons_zero] at this; rw [← this]; rfl
    have g1 : DataW.trod enc Tryz.prog W 0 (fun _ => true) true n 9 [q1] = some y1 := by have := hf 1 _ rfl; simp only [List.getElem?_cons_zero, List.getElem?_cons_succ] at this; rw [← this]; rfl
    have g2 : DataW.trod enc Tryz.prog W 0 (fun _ => true) true n 9 [q2] = some y2 := by have := hf 2 _ rfl; simp only [List.getElem?_cons_zero, List.getElem?_cons_succ] at this; rw [← this]; rfl
    have g3 : DataW.trod enc Tryz.prog W 0 (fun _ => true) true n 9 [q3] = some y3 := by have := hf 3 _ rfl; simp only [List.getElem?_cons_zero, List.getElem?_cons_succ] at this; rw [← this]; rfl
    have g4 : DataW.trod enc Tryz.prog W 0 (fun _ => true) true n 9 [q4] = some y4 := by have := hf 4 _ rfl; simp only [List.getElem?_cons_zero, List.getElem?_cons_succ] at this; rw [← this]; rfl
    have g5 : DataW.trod enc Tryz.prog W 0 (fun _ => true) true n 9 [q5] = some y5 := by have := hf 5 _ rfl; simp only [List.getElem?_cons_zero, List.getElem?_cons_succ] at this; rw [← this]; rfl
    have g6 : DataW.trod enc Tryz.prog W 0 (fun _ => true) true n 9 [q6] = some y6 := by have := hf 6 _ rfl; simp only [List.getElem?_cons_zero, List.getElem?_cons_succ] at this; rw [← this]; rfl
    have g7 : DataW.trod enc Tryz.prog W 0 (fun _ => true) true n 24 [q7] = some y7 := by have := hf 7 _ rfl; simp only [List.getElem?_cons_zero, List.getElem?_cons_succ] at this; rw [← this]; rfl
    have g8 : DataW.trod enc Tryz.prog W 0 (fun _ => true) true n 3 [q8] = some y8 := by have := hf 8 _ rfl; simp only [List.getElem?_cons_zero, List.getElem?_cons_succ] at this; rw [← this]; rfl
    obtain ⟨s1, e1, rfl, _⟩ := DataW.trod_string Tryz.underlying9 g1
    simp at e1
    subst e1
    obtain ⟨s2, e2, rfl, _⟩ := DataW.trod_string Tryz.underlying9 g2
    simp at e2
    subst e2
    obtain ⟨s3, e3, rfl, _⟩ := DataW.trod_string Tryz.underlying9 g3
    simp at e3
    subst e3
    obtain ⟨s4, e4, rfl, _⟩ := DataW.trod_string Tryz.underlying9 g4
    simp at e4
    subst e4
    obtain ⟨s5, e5, rfl, _⟩ := DataW.trod_string Tryz.underlying9 g5
    simp at e5
    subst e5
    obtain ⟨s6, e6, rfl, _⟩ := DataW.trod_string Tryz.underlying9 g6
    simp at e6
    subst e6
    obtain ⟨x0, e0, rfl, _⟩ := DataW.trod_int Tryz.underlying3 g0
    simp at e0
    subst e0
    obtain ⟨x8, e8, rfl, _⟩ := DataW.trod_int Tryz.underlying3 g8
    simp at e8
    subst e8
    obtain ⟨d7, p7⟩ := y7
    have hd : d = .agg [.lit (.int .i64 x0), .lit (.string s1.data.toList), .lit (.string s2.data.toList), .lit (.string s3.data.toList), .lit (.string s4.data.toList), .lit (.string s5.data.toList), .lit (.string s6.data.toList), d7, .lit (.int .i64 x8)] := by
      have := (Prod.mk.inj hx).1
      simpa using this
    subst hd
    have hw7 : (d7.weights Tryz.prog 24).all (· ≤ reachBytes) = true := by
      simp only [DataW.weights, Tryz.underlying26] at hw
      rw [List.all_eq_true] at hw ⊢
      intro x hx
      refine hw x ?_
      simp [DataW.weightsEach, hx]
    obtain ⟨l, hL, _, hss, _⟩ := strs_of g7 hw7
    have hr : reachBytes ≤ 140737488355328 := by unfold reachBytes; decide
    have z1 : s1.size ≤ reachBytes := by
      have h9 := (List.all_eq_true.1 hw) s1.data.toList.length (by simp [DataW.weights, DataW.weightsEach, Tryz.underlying26])
      simpa using h9
    have z2 : s2.size ≤ reachBytes := by
      have h9 := (List.all_eq_true.1 hw) s2.data.toList.length (by simp [DataW.weights, DataW.weightsEach, Tryz.underlying26])
      simpa using h9
    have z3 : s3.size ≤ reachBytes := by
      have h9 := (List.all_eq_true.1 hw) s3.data.toList.length (by simp [DataW.weights, DataW.weightsEach, Tryz.underlying26])
      simpa using h9
    have z4 : s4.size ≤ reachBytes := by
      have h9 := (List.all_eq_true.1 hw) s4.data.toList.length (by simp [DataW.weights, DataW.weightsEach, Tryz.underlying26])
      simpa using h9
    have z5 : s5.size ≤ reachBytes := by
      have h9 := (List.all_eq_true.1 hw) s5.data.toList.length (by simp [DataW.weights, DataW.weightsEach, Tryz.underlying26])
      simpa using h9
    have z6 : s6.size ≤ reachBytes := by
      have h9 := (List.all_eq_true.1 hw) s6.data.toList.length (by simp [DataW.weights, DataW.weightsEach, Tryz.underlying26])
      simpa using h9
    exact ⟨⟨x0, s1, s2, s3, s4, s5, s6, l, x8⟩, rfl, rfl, rfl, rfl, rfl, rfl, rfl, rfl, hL, ⟨by simp only; omega, by simp only; omega, by simp only; omega, by simp only; omega, by simp only; omega, by simp only; omega, fun s hs => by have := hss s hs; omega⟩⟩
set_option maxRecDepth 100000 in
/-- a list of records as an argument, however great -/
theorem recs_full {H : Type} {enc : TypeId × Value → H} {W : World} {fuel : Nat} {v : Value} {d : DataW H} {pl : List MemPlace}
    (h : DataW.trod enc Tryz.prog W 0 (fun _ => true) true fuel 22 [v] = some (d, pl)) (hw : (d.weights Tryz.prog 22).all (· ≤ reachBytes) = true) :
    ∃ l : List Rec, LiesR W v l ∧ ∀ r ∈ l, TidIn r := by
  rcases Deep.open_slice Tryz.underlying22 h with ⟨hcs, hx⟩ | ⟨a, len, cap, m, n, D, Pl, hcs, hb, hl, hm, hmm, hx, hall⟩
  · obtain rfl : v = .slice none 0 0 := by simpa using hcs
    exact ⟨[], ⟨none, 0, rfl, fun i hi => absurd hi (Nat.not_lt_zero _)⟩, fun x hx => (by cases hx)⟩
  · obtain rfl : v = .slice (some a) len cap := by simpa using hcs
    have hd : d = .slice ((List.range len).map D) ((List.range (m - len)).map fun j => D (len + j)) := (Prod.mk.inj hx).1
    subst hd
    simp only [DataW.weights, Tryz.underlying22, List.all_cons, List.all_append, Bool.and_eq_true] at hw
    have each : ∀ i, ∃ r : Rec, i < len → (∃ b o vi, a = ⟨b, o, none⟩ ∧ b < W.heap.size ∧ W.rangeAt b (o + i * 9) (rcl9 r vi) ∧ Lies W vi r.ss) ∧ TidIn r := by
      intro i
      by_cases hi : i < len
      · obtain ⟨cs', h1, h2⟩ := hall i (by rw [hmm]; simp; omega)
        rw [cellsRc] at h1
        obtain ⟨_, hlen, hcell⟩ := World.cells?_some h1
        obtain ⟨q0, q1, q2, q3, q4, q5, q6, q7, q8, rfl⟩ := list9 hlen
        have hwi := weightsAll_mem _ hw.2.1 (D i) (List.mem_map.2 ⟨i, List.mem_range.2 hi, rfl⟩)
        obtain ⟨r, rfl, rfl, rfl, rfl, rfl, rfl, rfl, rfl, hLs, hin⟩ := rec_full h2 hwi
        have hsp : a.spot = none := by
          obtain ⟨cs0, g1, _⟩ := hall 0 (by rw [hmm]; simp; omega)
          rw [cellsRc] at g1
          obtain ⟨_, hlen0, hcell0⟩ := World.cells?_some g1
          have g2 := hcell0 0 (by decide)
          rw [List.getElem?_eq_getElem (by omega)] at g2
          have := World.cell?_spot g2
          simpa [Addr.add] using this
        obtain ⟨b, o, sp⟩ := a
        simp at hsp
        subst hsp
        have hrg : W.rangeAt b (o + i * 9) (rcl9 r q7) := by
          intro j u hu
          have hj : j < 9 := (List.getElem?_eq_some_iff.1 hu).1
          have := hcell j hj
          rw [Addr.add_mid, Addr.add_mid] at this
          rw [← hu, this]
        have cz : W.cell? ⟨b, o + i * 9, none⟩ = some (.int .i64 r.k) := by
          have := hrg 0 _ rfl
          simpa using this
        exact ⟨r, fun _ => ⟨⟨b, o, q7, rfl, World.block_lt_of_cell? W _ cz, hrg, hLs⟩, hin⟩⟩
      · exact ⟨⟨0, ⟨#[]⟩, ⟨#[]⟩, ⟨#[]⟩, ⟨#[]⟩, ⟨#[]⟩, ⟨#[]⟩, [], 0⟩, fun h => absurd h hi⟩
    obtain ⟨f, hf⟩ := Classical.axiomOfChoice each
    have hlen : ((List.range len).map f).length = len := by simp
    refine ⟨(List.range len).map f, ⟨some a, cap, by rw [hlen], fun i hi => ?_⟩, fun r hr => ?_⟩
    · rw [hlen] at hi
      obtain ⟨⟨b, o, vi, rfl, hb, hrg, hLs⟩, _⟩ := hf i hi
      exact ⟨b, o, vi, rfl, hb, by simpa using hrg, by simpa using hLs⟩
    · obtain ⟨i, hi, rfl⟩ := List.mem_map.1 hr
      have hi' := List.mem_range.1 hi
      exact (hf i hi').2
end Go.Proofs.YtocpikgcbibcoaaGreatDoor.rc

namespace Go.Proofs.YtocpikgcbibcoaaGreatDoor.rc
open Go.ChangeShapes Go.WideShapes Go.ChangeAt Go.RowKit Go.Joins Go.Proofs.YtocpikgcbibcoaaGreatDoor.common
open Go.WideMaps Go.WideElems

theorem recs_len {H : Type} {enc : TypeId × Value → H} {W : World} {fuel : Nat} {oa : Option Addr} {len cap : Nat} {d : DataW H} {pl : List MemPlace}
    (h : DataW.trod enc Tryz.prog W 0 (fun _ => true) true fuel 22 [.slice oa len cap] = some (d, pl)) (hw : (d.weights Tryz.prog 22).all (· ≤ reachBytes) = true) :
    (2 + len) * 136 ≤ 140737488355328 := by
  rcases Deep.open_slice Tryz.underlying22 h with ⟨hcs, hx⟩ | ⟨a, len', cap', m, n, D, Pl, hcs, hb, hl, hm, hmm, hx, hall⟩
  · simp at hcs
    obtain ⟨_, rfl, _⟩ := hcs
    decide
  · simp at hcs
    obtain ⟨_, rfl, _⟩ := hcs
    have hd : d = .slice ((List.range len).map D) ((List.range (m - len)).map fun j => D (len + j)) := (Prod.mk.inj hx).1
    subst hd
    simp only [DataW.weights, Tryz.underlying22, List.all_cons, List.all_append, Bool.and_eq_true] at hw
    have h1 := hw.1
    have hb' : Tryz.prog.bytesOf 26 = 136 := by kernel_rfl
    simp [hb', reachBytes] at h1
    omega
end Go.Proofs.YtocpikgcbibcoaaGreatDoor.rc
