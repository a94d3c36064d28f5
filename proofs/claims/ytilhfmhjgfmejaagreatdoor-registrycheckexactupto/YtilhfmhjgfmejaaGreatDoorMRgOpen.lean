import Derived.Test.YtilhfmhjgfmejaaGreatDoorMRgKit
import Derived.Test.YtilhfmhjgfmejaaGreatDoorMScopeOrdM
import Derived.Deep.Slices
import Derived.Lib.SmallJoins
namespace Go.Proofs.YtilhfmhjgfmejaaGreatDoor.rg
open Go.ChangeShapes Go.WideShapes Go.ChangeAt Go.RowKit Go.Joins Go.Deep Go.WideElems Go.Maps Go.Proofs.YtilhfmhjgfmejaaGreatDoor.common Go.Proofs.YtilhfmhjgfmejaaGreatDoor.bk

theorem bulk_pos {H : Type} (d : DataW H) : 1 ≤ Rows.uptoBulk d := by
  rcases d with l | _ | d | ⟨a, b⟩ | p | ⟨n, d⟩ | e | h
  · cases l <;> simp [Rows.uptoBulk]
  all_goals simp [Rows.uptoBulk]
theorem len_bulk {H : Type} (D : Nat → DataW H) : ∀ l : List Nat, l.length ≤ Rows.uptoBulkAll (l.map D)
  | [] => Nat.zero_le _
  | i :: r => by
    have ih := len_bulk D r
    have := bulk_pos (D i)
    rw [List.map_cons, Rows.uptoBulkAll, List.length_cons]
    omega
theorem mem_bulk {H : Type} (D : Nat → DataW H) : ∀ (l : List Nat) (i : Nat), i ∈ l → Rows.uptoBulk (D i) ≤ Rows.uptoBulkAll (l.map D)
  | [], i, h => by cases h
  | j :: r, i, h => by
    rw [List.map_cons, Rows.uptoBulkAll]
    rcases List.mem_cons.1 h with rfl | h
    · omega
    · have := mem_bulk D r i h
      omega
/-- a client that lies within n, whose lists lie within m bytes -/
structure Small (x : Cli) (n m : Nat) : Prop where
  id : x.id.size ≤ n
  salt : x.salt.size ≤ n
  dig : x.dig.size ≤ n
  tos : ss.tot x.to ≤ n
  sc : ss.tot x.sc ≤ n
  tow : x.to.length * 16 ≤ m
  scw : x.sc.length * 16 ≤ m
theorem cellsCl : Tryz.prog.cellsOf 45 = 6 := by kernel_rfl
theorem cellsUs : Tryz.prog.cellsOf 47 = 3 := by kernel_rfl
theorem cellsCf : Tryz.prog.cellsOf 25 = 12 := by kernel_rfl
theorem bytesCl : Tryz.prog.bytesOf 45 = 104 := by kernel_rfl
theorem bytesUs : Tryz.prog.bytesOf 47 = 48 := by kernel_rfl
theorem trod_struct5 {H : Type} {enc : TypeId × Value → H} {P : Program} {w : World} {base : Nat} {spare : Nat → Bool} {held : Bool} {t : TypeId} {f0 f1 f2 f3 f4 : Field} {fuel : Nat} {cs : List Value} {x : DataW H × List MemPlace} (ht : P.underlying t = some (.struct #[f0, f1, f2, f3, f4])) (h : DataW.trod enc P w base spare held fuel t cs = some x) :
    ∃ y0 y1 y2 y3 y4 n, x.1 = .agg [y0.1, y1.1, y2.1, y3.1, y4.1] ∧ cs.length = P.cellsOf t ∧ DataW.trod enc P w base spare held n f0.type ((cs.drop f0.offset).take (P.cellsOf f0.type)) = some y0 ∧
      DataW.trod enc P w base spare held n f1.type ((cs.drop f1.offset).take (P.cellsOf f1.type)) = some y1 ∧ DataW.trod enc P w base spare held n f2.type ((cs.drop f2.offset).take (P.cellsOf f2.type)) = some y2 ∧
      DataW.trod enc P w base spare held n f3.type ((cs.drop f3.offset).take (P.cellsOf f3.type)) = some y3 ∧ DataW.trod enc P w base spare held n f4.type ((cs.drop f4.offset).take (P.cellsOf f4.type)) = some y4 := by
  obtain ⟨xs, n, _, rfl, hl, hlen, hf⟩ := DataW.trod_struct ht h
  match xs, hlen with
  | [y0, y1, y2, y3, y4], _ => exact ⟨y0, y1, y2, y3, y4, n, by simp, hl, by simpa using hf 0 f0 rfl, by simpa using hf 1 f1 rfl, by simpa using hf 2 f2 rfl, by simpa using hf 3 f3 rfl, by simpa using hf 4 f4 rfl⟩
theorem spot_of {W : World} {a : Addr} {n : Nat} {cs : List Value} (hn : 0 < n) (h : W.cells? 0 (a.add (0 * n)) n = some cs) : a.spot = none := by
  obtain ⟨_, hlen, hcell⟩ := World.cells?_some h
  have g2 := hcell 0 hn
  rw [List.getElem?_eq_getElem (by omega)] at g2
  have := World.cell?_spot g2
  simpa [Addr.add] using this

set_option maxRecDepth 100000 in
theorem secret_of {H : Type} {enc : TypeId × Value → H} {W : World} {fuel : Nat} {v0 v1 : Value} {y : DataW H × List MemPlace}
    (h : DataW.trod enc Tryz.prog W 0 (fun _ => true) true fuel 42 [v0, v1] = some y) : ∃ s d : ByteArray, v0 = .string s ∧ v1 = .string d ∧ y.1 = .agg [.lit (.string s.data.toList), .lit (.string d.data.toList)] := by
  obtain ⟨y0, y1, n', hxy, _, t0, t1⟩ := trod_struct2 Tryz.underlying42 h
  have t0' : DataW.trod enc Tryz.prog W 0 (fun _ => true) true n' 9 [v0] = some y0 := by rw [← t0]; rfl
  have t1' : DataW.trod enc Tryz.prog W 0 (fun _ => true) true n' 9 [v1] = some y1 := by rw [← t1]; rfl
  obtain ⟨s, es, rfl, _⟩ := DataW.trod_string Tryz.underlying9 t0'
  obtain ⟨d, ed, rfl, _⟩ := DataW.trod_string Tryz.underlying9 t1'
  simp at es ed
  exact ⟨s, d, es, ed, by rw [hxy]⟩

set_option maxRecDepth 100000 in
theorem users_of {H : Type} {enc : TypeId × Value → H} {W : World} {fuel : Nat} {v : Value} {d : DataW H} {pl : List MemPlace}
    (h : DataW.trod enc Tryz.prog W 0 (fun _ => true) true fuel 23 [v] = some (d, pl)) (hw : (d.weights Tryz.prog 23).all (· ≤ reachBytes) = true) :
    ∃ l, LiesU W v l ∧ l.length * 48 ≤ reachBytes ∧ l.length ≤ Rows.uptoBulk d ∧ ∀ x ∈ l, x.name.size ≤ Rows.uptoBulk d ∧ x.salt.size ≤ Rows.uptoBulk d ∧ x.dig.size ≤ Rows.uptoBulk d := by
  rcases Deep.open_slice Tryz.underlying23 h with ⟨hcs, hx⟩ | ⟨a, len, cap, m, n, D, Pl, hcs, hb, hl, hm, hmm, hx, hall⟩
  · obtain rfl : v = .slice none 0 0 := by simpa using hcs
    exact ⟨[], liesU_nil W, Nat.zero_le _, Nat.zero_le _, fun x hx => (by cases hx)⟩
  · obtain rfl : v = .slice (some a) len cap := by simpa using hcs
    have hd : d = .slice ((List.range len).map D) ((List.range (m - len)).map fun j => D (len + j)) := (Prod.mk.inj hx).1
    subst hd
    simp only [DataW.weights, Tryz.underlying23, List.all_cons, List.all_append, Bool.and_eq_true] at hw
    have each : ∀ i, ∃ p : Usr, i < len → (p.name.size ≤ Rows.uptoBulk (D i) ∧ p.salt.size ≤ Rows.uptoBulk (D i) ∧ p.dig.size ≤ Rows.uptoBulk (D i)) ∧ ∃ b o, a = ⟨b, o, none⟩ ∧ b < W.heap.size ∧ W.cell? ⟨b, o + i * 3, none⟩ = some (.string p.name) ∧ W.cell? ⟨b, o + i * 3 + 1, none⟩ = some (.string p.salt) ∧ W.cell? ⟨b, o + i * 3 + 2, none⟩ = some (.string p.dig) := by
      intro i
      by_cases hi : i < len
      · obtain ⟨cs', h1, h2⟩ := hall i (by rw [hmm]; simp; omega)
        rw [cellsUs] at h1
        obtain ⟨_, hlen, hcell⟩ := World.cells?_some h1
        match cs', hlen with
        | [v0, v1, v2], _ =>
          obtain ⟨y0, y1, n', hxy, _, t0, t1⟩ := trod_struct2 Tryz.underlying47 h2
          have t0' : DataW.trod enc Tryz.prog W 0 (fun _ => true) true n' 9 [v0] = some y0 := by rw [← t0]; rfl
          have t1' : DataW.trod enc Tryz.prog W 0 (fun _ => true) true n' 42 [v1, v2] = some y1 := by rw [← t1]; rfl
          obtain ⟨s, es, rfl, _⟩ := DataW.trod_string Tryz.underlying9 t0'
          obtain ⟨sa, di, rfl, rfl, hy1⟩ := secret_of t1'
          simp at es
          subst es
          have hDi : D i = .agg [.lit (.string s.data.toList), y1.1] := (Prod.mk.inj hxy).1
          rw [hy1] at hDi
          have hw2 : s.size ≤ Rows.uptoBulk (D i) ∧ sa.size ≤ Rows.uptoBulk (D i) ∧ di.size ≤ Rows.uptoBulk (D i) := by
            rw [hDi]
            simp only [Rows.uptoBulk, Rows.uptoBulkAll, len_list]
            omega
          have c0 := hcell 0 (by decide)
          have c1 := hcell 1 (by decide)
          have c2 := hcell 2 (by decide)
          have hsp : a.spot = none := by
            obtain ⟨cs0, g1, _⟩ := hall 0 (by rw [hmm]; simp; omega)
            rw [cellsUs] at g1
            exact spot_of (by decide) g1
          obtain ⟨b, o, sp⟩ := a
          simp at hsp
          subst hsp
          rw [Addr.add_mid, Addr.add_mid] at c0 c1 c2
          have c0' : W.cell? ⟨b, o + i * 3, none⟩ = some (.string s) := by simpa using c0
          exact ⟨⟨s, sa, di⟩, fun _ => ⟨hw2, b, o, rfl, World.block_lt_of_cell? W _ c0', c0', by simpa using c1, by simpa using c2⟩⟩
      · exact ⟨⟨ByteArray.empty, ByteArray.empty, ByteArray.empty⟩, fun h => absurd h hi⟩
    obtain ⟨f, hf⟩ := Classical.axiomOfChoice each
    have hlen : ((List.range len).map f).length = len := by simp
    have hln := len_bulk D (List.range len)
    rw [List.length_range] at hln
    have hB : Rows.uptoBulkAll ((List.range len).map D) ≤ Rows.uptoBulk (.slice ((List.range len).map D) ((List.range (m - len)).map fun j => D (len + j))) := by
      simp only [Rows.uptoBulk]
      omega
    have h48 : len * 48 ≤ reachBytes := by
      have h1 := hw.1
      rw [bytesUs] at h1
      simp at h1
      omega
    refine ⟨(List.range len).map f, ⟨some a, cap, by rw [hlen], fun i hi => ?_⟩, by rw [hlen]; exact h48, by rw [hlen]; exact Nat.le_trans hln hB, fun x hx => ?_⟩
    · rw [hlen] at hi
      obtain ⟨_, b, o, rfl, hb, c0, c1, c2⟩ := hf i hi
      exact ⟨b, o, rfl, hb, by simpa using c0, by simpa using c1, by simpa using c2⟩
    · obtain ⟨i, hi, rfl⟩ := List.mem_map.1 hx
      have hmb := Nat.le_trans (mem_bulk D _ i hi) hB
      obtain ⟨⟨g0, g1, g2⟩, _⟩ := hf i (List.mem_range.1 hi)
      exact ⟨Nat.le_trans g0 hmb, Nat.le_trans g1 hmb, Nat.le_trans g2 hmb⟩

set_option maxRecDepth 100000 in
theorem clients_of {H : Type} {enc : TypeId × Value → H} {W : World} {fuel : Nat} {v : Value} {d : DataW H} {pl : List MemPlace}
    (h : DataW.trod enc Tryz.prog W 0 (fun _ => true) true fuel 22 [v] = some (d, pl)) (hw : (d.weights Tryz.prog 22).all (· ≤ reachBytes) = true) :
    ∃ l, LiesC W v l ∧ l.length * 104 ≤ reachBytes ∧ l.length ≤ Rows.uptoBulk d ∧ ∀ x ∈ l, Small x (Rows.uptoBulk d) reachBytes := by
  rcases Deep.open_slice Tryz.underlying22 h with ⟨hcs, hx⟩ | ⟨a, len, cap, m, n, D, Pl, hcs, hb, hl, hm, hmm, hx, hall⟩
  · obtain rfl : v = .slice none 0 0 := by simpa using hcs
    exact ⟨[], liesC_nil W, Nat.zero_le _, Nat.zero_le _, fun x hx => (by cases hx)⟩
  · obtain rfl : v = .slice (some a) len cap := by simpa using hcs
    have hd : d = .slice ((List.range len).map D) ((List.range (m - len)).map fun j => D (len + j)) := (Prod.mk.inj hx).1
    subst hd
    simp only [DataW.weights, Tryz.underlying22, List.all_cons, List.all_append, Bool.and_eq_true] at hw
    have each : ∀ i, ∃ p : Cli, i < len → Small p (Rows.uptoBulk (D i)) reachBytes ∧ ∃ b o vR vS, a = ⟨b, o, none⟩ ∧ b < W.heap.size ∧ CAt W b (o + i * 6) p vR vS := by
      intro i
      by_cases hi : i < len
      · have hwi := ss.weightsAll_mem _ hw.2.1 (D i) (List.mem_map.2 ⟨i, List.mem_range.2 hi, rfl⟩)
        obtain ⟨cs', h1, h2⟩ := hall i (by rw [hmm]; simp; omega)
        rw [cellsCl] at h1
        obtain ⟨_, hlen, hcell⟩ := World.cells?_some h1
        match cs', hlen with
        | [v0, v1, v2, v3, v4, v5], _ =>
          obtain ⟨y0, y1, y2, y3, y4, n', hxy, _, t0, t1, t2, t3, t4⟩ := trod_struct5 Tryz.underlying45 h2
          have t0' : DataW.trod enc Tryz.prog W 0 (fun _ => true) true n' 9 [v0] = some y0 := by rw [← t0]; rfl
          have t1' : DataW.trod enc Tryz.prog W 0 (fun _ => true) true n' 4 [v1] = some y1 := by rw [← t1]; rfl
          have t2' : DataW.trod enc Tryz.prog W 0 (fun _ => true) true n' 42 [v2, v3] = some y2 := by rw [← t2]; rfl
          have t3' : DataW.trod enc Tryz.prog W 0 (fun _ => true) true n' 43 [v4] = some y3 := by rw [← t3]; rfl
          have t4' : DataW.trod enc Tryz.prog W 0 (fun _ => true) true n' 43 [v5] = some y4 := by rw [← t4]; rfl
          obtain ⟨s, es, rfl, _⟩ := DataW.trod_string Tryz.underlying9 t0'
          obtain ⟨pb, eb, rfl, _⟩ := DataW.trod_bool Tryz.underlying4 t1'
          obtain ⟨sa, di, rfl, rfl, hy2⟩ := secret_of t2'
          obtain ⟨d3, p3⟩ := y3
          obtain ⟨d4, p4⟩ := y4
          simp at es eb
          subst es eb
          have hDi : D i = .agg [.lit (.string s.data.toList), .lit (.bool pb), y2.1, d3, d4] := hxy
          rw [hy2] at hDi
          rw [hDi] at hwi
          simp only [DataW.weights, Tryz.underlying45] at hwi
          have hwi2 : ((DataW.lit (H := H) (.string s.data.toList)).weights Tryz.prog 9 ++ ((DataW.lit (H := H) (.bool pb)).weights Tryz.prog 4 ++ ((DataW.agg [DataW.lit (H := H) (.string sa.data.toList), .lit (.string di.data.toList)]).weights Tryz.prog 42 ++ (d3.weights Tryz.prog 43 ++ (d4.weights Tryz.prog 43 ++ []))))).all (· ≤ reachBytes) = true := hwi
          rw [List.all_append, List.all_append, List.all_append, List.all_append, List.append_nil, Bool.and_eq_true, Bool.and_eq_true, Bool.and_eq_true, Bool.and_eq_true] at hwi2
          obtain ⟨lt, hlt, nt, _, bt⟩ := ss.strs_of t3' hwi2.2.2.2.1
          obtain ⟨lc, hlc, nc, _, bc⟩ := ss.strs_of t4' hwi2.2.2.2.2
          have hw2 : Small ⟨s, pb, sa, di, lt, lc⟩ (Rows.uptoBulk (D i)) reachBytes := by
            rw [hDi]
            simp only [Rows.uptoBulk, Rows.uptoBulkAll, len_list]
            exact ⟨by show s.size ≤ _; omega, by show sa.size ≤ _; omega, by show di.size ≤ _; omega, by show ss.tot lt ≤ _; omega, by show ss.tot lc ≤ _; omega, nt, nc⟩
          have c0 := hcell 0 (by decide)
          have c1 := hcell 1 (by decide)
          have c2 := hcell 2 (by decide)
          have c3 := hcell 3 (by decide)
          have c4 := hcell 4 (by decide)
          have c5 := hcell 5 (by decide)
          have hsp : a.spot = none := by
            obtain ⟨cs0, g1, _⟩ := hall 0 (by rw [hmm]; simp; omega)
            rw [cellsCl] at g1
            exact spot_of (by decide) g1
          obtain ⟨b, o, sp⟩ := a
          simp at hsp
          subst hsp
          rw [Addr.add_mid, Addr.add_mid] at c0 c1 c2 c3 c4 c5
          have c0' : W.cell? ⟨b, o + i * 6, none⟩ = some (.string s) := by simpa using c0
          exact ⟨⟨s, pb, sa, di, lt, lc⟩, fun _ => ⟨hw2, b, o, v4, v5, rfl, World.block_lt_of_cell? W _ c0', c0', by simpa using c1, by simpa using c2, by simpa using c3, by simpa using c4, by simpa using c5, hlt, hlc⟩⟩
      · exact ⟨⟨ByteArray.empty, false, ByteArray.empty, ByteArray.empty, [], []⟩, fun h => absurd h hi⟩
    obtain ⟨f, hf⟩ := Classical.axiomOfChoice each
    have hlen : ((List.range len).map f).length = len := by simp
    have hln := len_bulk D (List.range len)
    rw [List.length_range] at hln
    have hB : Rows.uptoBulkAll ((List.range len).map D) ≤ Rows.uptoBulk (.slice ((List.range len).map D) ((List.range (m - len)).map fun j => D (len + j))) := by
      simp only [Rows.uptoBulk]
      omega
    have h104 : len * 104 ≤ reachBytes := by
      have h1 := hw.1
      rw [bytesCl] at h1
      simp at h1
      omega
    refine ⟨(List.range len).map f, ⟨some a, cap, by rw [hlen], fun i hi => ?_⟩, by rw [hlen]; exact h104, by rw [hlen]; exact Nat.le_trans hln hB, fun x hx => ?_⟩
    · rw [hlen] at hi
      obtain ⟨_, b, o, vR, vS, rfl, hb, hc⟩ := hf i hi
      exact ⟨b, o, vR, vS, rfl, hb, by simpa using hc⟩
    · obtain ⟨i, hi, rfl⟩ := List.mem_map.1 hx
      have hmb := Nat.le_trans (mem_bulk D _ i hi) hB
      obtain ⟨g, _⟩ := hf i (List.mem_range.1 hi)
      exact ⟨Nat.le_trans g.id hmb, Nat.le_trans g.salt hmb, Nat.le_trans g.dig hmb, Nat.le_trans g.tos hmb, Nat.le_trans g.sc hmb, g.tow, g.scw⟩
end Go.Proofs.YtilhfmhjgfmejaaGreatDoor.rg
