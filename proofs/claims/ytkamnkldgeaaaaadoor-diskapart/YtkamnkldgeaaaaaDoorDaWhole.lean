import Derived.Test.YtkamnkldgeaaaaaDoorDaKept
namespace Go.Proofs.YtkamnkldgeaaaaaDoor.da
open Go.ChangeShapes Go.WideShapes Go.ChangeAt Go.RowKit Go.Proofs.YtkamnkldgeaaaaaDoor.common Go.Proofs.YtkamnkldgeaaaaaDoor.dk Go.Proofs.YtkamnkldgeaaaaaDoor.dr

theorem own_cell1 {w : World} {base : Nat} {e : TypeId} {v : Value} {n : Nat} {xs : List Value} (h : w.ownsRow base e 1 v n xs) (h0 : 0 < n) : ∃ g cap, v = .slice (some ⟨g, 0, none⟩) n cap ∧ g < w.heap.size ∧ ∀ k (hk : k < xs.length), w.cell? ⟨g, k, none⟩ = some xs[k] := by
  rcases h.2 with ⟨_, h1⟩ | ⟨g, cap, cur, rfl, h1, h2, _⟩
  · omega
  · refine ⟨g, cap, rfl, (Array.getElem?_eq_some_iff.1 h2).1, fun k hk => ?_⟩
    have := h.cells (g := g) rfl k xs[k] (List.getElem?_eq_getElem hk)
    rw [Addr.add_mid, Nat.zero_add] at this
    exact this
set_option maxRecDepth 100000 in
set_option maxHeartbeats 6400000 in
theorem whole_any (base : Nat) (w : World) (pk : Nat) (FK Q : List Nat) (ks : List (Value × Nat × UInt8)) (hK : Kp base w pk FK Q ks) (hn : ks.length ≤ 100000) :
    Calls Tryd.prog 16 #[ptr pk] w fun e w' => e = .returned (.bool true) ∧ Below w.heap.size w w' := by
  obtain ⟨vl, vm, hFK, hq⟩ := hK.q
  obtain ⟨N, hN⟩ : ∃ N, N = ks.length := ⟨_, rfl⟩
  have hrl : w.ownsRow 0 25 1 vl N (ks.map (·.1)) := by have := hq.rl; rw [List.length_map] at this; rw [hN]; exact this
  have hrm : w.ownsRow 0 5 1 vm N ((ks.map (·.2.2)).map B) := by have := hq.rm; rw [List.length_map] at this; rw [hN]; exact this
  obtain ⟨ol, cl, hvl, _⟩ := own_slice hrl
  obtain ⟨om, cm, hvm, _⟩ := own_slice hrm
  subst hvl hvm
  have HLS : Hid (∀ i, i < N → ∃ x gl gm, x ∈ ks ∧ ol = some ⟨gl, 0, none⟩ ∧ om = some ⟨gm, 0, none⟩ ∧ gl < w.heap.size ∧ gm < w.heap.size ∧ w.cell? ⟨gl, i, none⟩ = some x.1 ∧ w.cell? ⟨gm, i, none⟩ = some (B x.2.2)) := fun i hi => by
    obtain ⟨gl, c1, e1, l1, h1⟩ := own_cell1 hrl (by omega)
    obtain ⟨gm, c2, e2, l2, h2⟩ := own_cell1 hrm (by omega)
    cases e1
    cases e2
    refine ⟨ks[i]'(by omega), gl, gm, List.getElem_mem _, rfl, rfl, l1, l2, ?_, ?_⟩
    · have := h1 i (by rw [List.length_map]; omega); rw [List.getElem_map] at this; exact this
    · have := h2 i (by rw [List.length_map, List.length_map]; omega); rw [List.getElem_map, List.getElem_map] at this; exact this
  have HBX := hide hq.box
  have HPK : Hid (pk < w.heap.size) := (Array.getElem?_eq_some_iff.1 hq.box).1
  have HCON := hide hK.con
  have HBD := hide hK.sz
  have hNl : N ≤ 100000 := by omega
  clear hK hq hrl hrm hn hFK hN
  go_enter Tryd.func16, Tryd.ntmps16
  go_wp2_with fail
  go_loopw [3] (fun vi wr => ∃ i : Nat, i ≤ N ∧ vi = .int .i64 i ∧ Below w.heap.size w wr) (fun vi _ => N - (intOf vi).toNat)
  case atStart => exact ⟨0, Nat.zero_le _, rfl, Below.refl _ _⟩
  case round =>
    obtain ⟨i, hi, rfl, hbl⟩ := hrel
    have HBL := hide hbl
    have q0 : wr.cell? ⟨pk, 0, none⟩ = some (.slice ol N cl) := (hbl.cell (p := ⟨pk, 0, none⟩) HPK.out).trans (cell_of HBX.out 0)
    by_cases hlt : i < N
    · have i0 : (0 : Int) ≤ (i : Int) := Int.natCast_nonneg _
      have i1 : (i : Int) < (N : Int) := by omega
      obtain ⟨x, gl, gm, hmem, rfl, rfl, l1, l2, d1, d2⟩ := HLS.out i hlt
      obtain ⟨hrd, _⟩ := HCON.out x hmem
      have hbd := HBD.out x hmem
      clear hmem
      obtain ⟨u, n, m⟩ := x
      obtain ⟨ou, cu, hu, hru⟩ := hrd
      rw [List.length_replicate] at hu hru
      have hu : u = .slice ou n cu := hu
      subst hu
      dsimp only at hru hbd d1 d2
      have HD1 : Hid (∀ X, Below w.heap.size w X → X.cell? ⟨gl, i, none⟩ = some (.slice ou n cu) ∧ X.cell? ⟨gm, i, none⟩ = some (B m) ∧ X.cell? ⟨pk, 0, none⟩ = some (.slice (some ⟨gl, 0, none⟩) N cl) ∧ X.cell? ⟨pk, 1, none⟩ = some (.slice (some ⟨gm, 0, none⟩) N cm)) := fun X hX =>
        ⟨(hX.cell (p := ⟨gl, i, none⟩) l1).trans d1, (hX.cell (p := ⟨gm, i, none⟩) l2).trans d2, (hX.cell (p := ⟨pk, 0, none⟩) HPK.out).trans (cell_of HBX.out 0), (hX.cell (p := ⟨pk, 1, none⟩) HPK.out).trans (cell_of HBX.out 1)⟩
      have HRU : Hid (∀ j, j < n → ∃ g o, ou = some ⟨g, o, none⟩ ∧ ∀ X, Below w.heap.size w X → X.cell? ⟨g, o + j, none⟩ = some (B m)) := fun j hj => by
        obtain ⟨g, o, e, hg, hr⟩ := hru (by omega)
        refine ⟨g, o, e, fun X hX => (hX.cell (p := ⟨g, o + j, none⟩) hg).trans (hr j _ ?_)⟩
        rw [List.getElem?_map, List.getElem?_replicate, if_pos hj]
        rfl
      clear hbl d1 d2 hru
      go_wp2_with fail
      go_loopw [4] (fun vj wx => ∃ j : Nat, j ≤ n ∧ vj = .int .i64 j ∧ Below w.heap.size w wx) (fun vj _ => n - (intOf vj).toNat)
      case atStart => exact ⟨0, Nat.zero_le _, rfl, HBL.out⟩
      case round =>
        obtain ⟨j, hj, rfl, hb2⟩ := hrel
        have HB2 := hide hb2
        obtain ⟨e1, e2, e3, e4⟩ := HD1.out _ hb2
        by_cases hjn : j < n
        · have j0 : (0 : Int) ≤ (j : Int) := Int.natCast_nonneg _
          have j1 : (j : Int) < (n : Int) := by omega
          obtain ⟨g, o, rfl, hce⟩ := HRU.out j hjn
          have e5 := hce _ hb2
          clear hb2 hce q0
          go_wp2_with fail
          go_quiet (fail)
          go_wp2_with fail
          go_roundw
          case rel => exact ⟨j + 1, by omega, by go_num, bdN HB2.out _⟩
          case measure => simp [intOf]; omega
        · obtain rfl : j = n := by omega
          have j1 : ¬ (j : Int) < (j : Int) := by omega
          clear hb2
          go_wp2_with fail
          go_roundw
          case rel => exact ⟨i + 1, by omega, by go_num, HB2.out⟩
          case measure => simp [intOf]; omega
    · obtain rfl : i = N := by omega
      have i1 : ¬ (i : Int) < (i : Int) := by omega
      clear hbl
      go_wp2_with fail
      go_ret
      exact ⟨rfl, HBL.out⟩
end Go.Proofs.YtkamnkldgeaaaaaDoor.da
