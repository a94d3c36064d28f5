import Derived.Test.YtjalggkhpnfbiaaDoorBWriteLaw
import Derived.Deep.Slices
import Derived.Lib.SmallJoins
import Derived.Test.YtjalggkhpnfbiaaDoorRows
import Derived.Test.YtjalggkhpnfbiaaDoorBPageMath
import Derived.WalkKit
import Derived.WalkSpells
import Derived.WalkLawsBesides
import Derived.Outline
import Derived.Maps.AppendAt
namespace Go.Proofs.YtjalggkhpnfbiaaDoor.pg
open Go.ChangeShapes Go.WideShapes Go.ChangeAt Go.RowKit Go.Joins Go.Deep Go.WideElems Go.Maps Go.Proofs.YtjalggkhpnfbiaaDoor.common

/-- a kind that is an int -/
def inK (x : Inp) : Prop := -9223372036854775808 ≤ x.kind ∧ x.kind ≤ 9223372036854775807
theorem bulk_pos {H : Type} (d : DataW H) : 1 ≤ Rows.uptoBulk d := by
  rcases d with l | _ | d | ⟨a, b⟩ | p | ⟨n, d⟩ | e | h
  · cases l <;> simp [Rows.uptoBulk]
  all_goals simp [Rows.uptoBulk]
theorem sum_bulk {α H : Type} (F : List α → Nat) (h : α → Nat) (h0 : F [] = 0) (h1 : ∀ x r, F (x :: r) = h x + F r) (c : Nat) (g : Nat → α) (D : Nat → DataW H) : ∀ l : List Nat, (∀ i ∈ l, h (g i) ≤ c * Rows.uptoBulk (D i)) → F (l.map g) ≤ c * Rows.uptoBulkAll (l.map D)
  | [], _ => by rw [List.map_nil, h0]; exact Nat.zero_le _
  | i :: r, hi => by
    have ih := sum_bulk F h h0 h1 c g D r (fun j hj => hi j (List.mem_cons_of_mem _ hj))
    have h2 := hi i (List.mem_cons_self)
    rw [List.map_cons, List.map_cons, h1, Rows.uptoBulkAll, Nat.mul_add]
    omega
theorem len_bulk {H : Type} (D : Nat → DataW H) : ∀ l : List Nat, l.length ≤ Rows.uptoBulkAll (l.map D)
  | [] => Nat.zero_le _
  | i :: r => by
    have ih := len_bulk D r
    have := bulk_pos (D i)
    rw [List.map_cons, Rows.uptoBulkAll, List.length_cons]
    omega
theorem mem_bulk {H : Type} (D : Nat → DataW H) : ∀ (l : List Nat) (i : Nat), i ∈ l → Rows.uptoBulk (D i) ≤ Rows.uptoBulkAll (l.map D)
  | [], i, h => by cases h
  | j :: r, i, h => by
    rw [List.map_cons, Rows.uptoBulkAll]
    rcases List.mem_cons.1 h with rfl | h
    · omega
    · have := mem_bulk D r i h
      omega

theorem cellsInput : Tryd.prog.cellsOf 28 = 4 := by kernel_rfl
theorem cellsForm : Tryd.prog.cellsOf 31 = 3 := by kernel_rfl
theorem cellsStr1 : Tryd.prog.cellsOf 9 = 1 := by kernel_rfl

set_option maxRecDepth 100000 in
theorem ins_of {H : Type} {enc : TypeId × Value → H} {W : World} {fuel : Nat} {v : Value} {d : DataW H} {pl : List MemPlace}
    (h : DataW.trod enc Tryd.prog W 0 (fun _ => true) true fuel 29 [v] = some (d, pl)) :
    ∃ l, LiesI W v l ∧ insW l ≤ 100 * Rows.uptoBulk d ∧ l.length ≤ Rows.uptoBulk d ∧ ∀ x ∈ l, inK x := by
  rcases Deep.open_slice Tryd.underlying29 h with ⟨hcs, hx⟩ | ⟨a, len, cap, m, n, D, Pl, hcs, hb, hl, hm, hmm, hx, hall⟩
  · obtain rfl : v = .slice none 0 0 := by simpa using hcs
    exact ⟨[], ⟨none, 0, rfl, fun i hi => absurd hi (Nat.not_lt_zero _)⟩, Nat.zero_le _, Nat.zero_le _, fun x hx => by cases hx⟩
  · obtain rfl : v = .slice (some a) len cap := by simpa using hcs
    have hd : d = .slice ((List.range len).map D) ((List.range (m - len)).map fun j => D (len + j)) := (Prod.mk.inj hx).1
    subst hd
    have each : ∀ i, ∃ p : Inp, i < len → inW p + 100 ≤ 100 * Rows.uptoBulk (D i) ∧ inK p ∧ ∃ b o, a = ⟨b, o, none⟩ ∧ b < W.heap.size ∧ W.cell? ⟨b, o + i * 4, none⟩ = some (.int .i64 p.kind) ∧ W.cell? ⟨b, o + i * 4 + 1, none⟩ = some (.string p.name) ∧ W.cell? ⟨b, o + i * 4 + 2, none⟩ = some (.string p.value) ∧ W.cell? ⟨b, o + i * 4 + 3, none⟩ = some (.string p.label) := by
      intro i
      by_cases hi : i < len
      · obtain ⟨cs', h1, h2⟩ := hall i (by rw [hmm]; simp; omega)
        rw [cellsInput] at h1
        obtain ⟨_, hlen, hcell⟩ := World.cells?_some h1
        match cs', hlen with
        | [v0, v1, v2, v3], _ =>
          obtain ⟨y0, y1, y2, y3, n', hxy, _, t0, t1, t2, t3⟩ := trod_struct4 Tryd.underlying28 h2
          have t0' : DataW.trod enc Tryd.prog W 0 (fun _ => true) true n' 3 [v0] = some y0 := by rw [← t0]; rfl
          have t1' : DataW.trod enc Tryd.prog W 0 (fun _ => true) true n' 9 [v1] = some y1 := by rw [← t1]; rfl
          have t2' : DataW.trod enc Tryd.prog W 0 (fun _ => true) true n' 9 [v2] = some y2 := by rw [← t2]; rfl
          have t3' : DataW.trod enc Tryd.prog W 0 (fun _ => true) true n' 9 [v3] = some y3 := by rw [← t3]; rfl
          obtain ⟨x, ex, rfl, wx⟩ := DataW.trod_int Tryd.underlying3 t0'
          obtain ⟨s, es, rfl, _⟩ := DataW.trod_string Tryd.underlying9 t1'
          obtain ⟨t, et, rfl, _⟩ := DataW.trod_string Tryd.underlying9 t2'
          obtain ⟨u, eu, rfl, _⟩ := DataW.trod_string Tryd.underlying9 t3'
          simp at ex es et eu
          subst ex es et eu
          have hDi : D i = .agg [.lit (.int .i64 x), .lit (.string s.data.toList), .lit (.string t.data.toList), .lit (.string u.data.toList)] := (Prod.mk.inj hxy).1
          have hw : inW ⟨x, s, t, u⟩ + 100 ≤ 100 * Rows.uptoBulk (D i) := by
            rw [hDi]
            simp only [Rows.uptoBulk, Rows.uptoBulkAll, len_list]
            show s.size + t.size + u.size + 100 ≤ _
            omega
          have c0 := hcell 0 (by decide)
          have c1 := hcell 1 (by decide)
          have c2 := hcell 2 (by decide)
          have c3 := hcell 3 (by decide)
          have hsp : a.spot = none := by
            have q0 := hall 0 (by rw [hmm]; simp; omega)
            obtain ⟨cs0, g1, _⟩ := q0
            rw [cellsInput] at g1
            obtain ⟨_, hlen0, hcell0⟩ := World.cells?_some g1
            have g2 := hcell0 0 (by decide)
            rw [List.getElem?_eq_getElem (by omega)] at g2
            have := World.cell?_spot g2
            simpa [Addr.add] using this
          obtain ⟨b, o, sp⟩ := a
          simp at hsp
          subst hsp
          rw [Addr.add_mid, Addr.add_mid] at c0 c1 c2 c3
          have c0' : W.cell? ⟨b, o + i * 4, none⟩ = some (.int .i64 x) := by simpa using c0
          exact ⟨⟨x, s, t, u⟩, fun _ => ⟨hw, bounds_i64 wx, b, o, rfl, World.block_lt_of_cell? W _ c0', c0', by simpa using c1, by simpa using c2, by simpa using c3⟩⟩
      · exact ⟨⟨0, ByteArray.empty, ByteArray.empty, ByteArray.empty⟩, fun h => absurd h hi⟩
    obtain ⟨f, hf⟩ := Classical.axiomOfChoice each
    have hlen : ((List.range len).map f).length = len := by simp
    have hsum := sum_bulk insW (fun x => inW x + 100) rfl (fun _ _ => rfl) 100 f D (List.range len) (fun i hi => (hf i (List.mem_range.1 hi)).1)
    have hln := len_bulk D (List.range len)
    rw [List.length_range] at hln
    have hB : Rows.uptoBulkAll ((List.range len).map D) ≤ Rows.uptoBulk (.slice ((List.range len).map D) ((List.range (m - len)).map fun j => D (len + j))) := by
      simp only [Rows.uptoBulk]
      omega
    refine ⟨(List.range len).map f, ⟨some a, cap, by rw [hlen], fun i hi => ?_⟩, Nat.le_trans hsum (Nat.mul_le_mul_left _ hB), by rw [hlen]; exact Nat.le_trans hln hB, fun x hx => by
      obtain ⟨i, hi, rfl⟩ := List.mem_map.1 hx
      exact (hf i (List.mem_range.1 hi)).2.1⟩
    rw [hlen] at hi
    obtain ⟨_, _, b, o, rfl, hb, c0, c1, c2, c3⟩ := hf i hi
    exact ⟨b, o, rfl, hb, by simpa using c0, by simpa using c1, by simpa using c2, by simpa using c3⟩

set_option maxRecDepth 100000 in
theorem strs_of {H : Type} {enc : TypeId × Value → H} {W : World} {fuel : Nat} {v : Value} {d : DataW H} {pl : List MemPlace}
    (h : DataW.trod enc Tryd.prog W 0 (fun _ => true) true fuel 22 [v] = some (d, pl)) :
    ∃ l, LiesS W v l ∧ linesW l ≤ 20 * Rows.uptoBulk d ∧ l.length ≤ Rows.uptoBulk d := by
  rcases Deep.open_slice Tryd.underlying22 h with ⟨hcs, hx⟩ | ⟨a, len, cap, m, n, D, Pl, hcs, hb, hl, hm, hmm, hx, hall⟩
  · obtain rfl : v = .slice none 0 0 := by simpa using hcs
    exact ⟨[], ⟨none, 0, rfl, fun i hi => absurd hi (Nat.not_lt_zero _)⟩, Nat.zero_le _, Nat.zero_le _⟩
  · obtain rfl : v = .slice (some a) len cap := by simpa using hcs
    have hd : d = .slice ((List.range len).map D) ((List.range (m - len)).map fun j => D (len + j)) := (Prod.mk.inj hx).1
    subst hd
    have each : ∀ i, ∃ p : ByteArray, i < len → p.size + 20 ≤ 20 * Rows.uptoBulk (D i) ∧ ∃ b o, a = ⟨b, o, none⟩ ∧ b < W.heap.size ∧ W.cell? ⟨b, o + i, none⟩ = some (.string p) := by
      intro i
      by_cases hi : i < len
      · obtain ⟨cs', h1, h2⟩ := hall i (by rw [hmm]; simp; omega)
        rw [cellsStr1] at h1
        obtain ⟨_, hlen, hcell⟩ := World.cells?_some h1
        match cs', hlen with
        | [v0], _ =>
          obtain ⟨s, es, hz, _⟩ := DataW.trod_string Tryd.underlying9 h2
          simp at es
          subst es
          have hDi : D i = .lit (.string s.data.toList) := (Prod.mk.inj hz).1
          have hw : s.size + 20 ≤ 20 * Rows.uptoBulk (D i) := by
            rw [hDi]
            simp only [Rows.uptoBulk, len_list]
            omega
          have c0 := hcell 0 (by decide)
          have hsp : a.spot = none := by
            have q0 := hall 0 (by rw [hmm]; simp; omega)
            obtain ⟨cs0, g1, _⟩ := q0
            rw [cellsStr1] at g1
            obtain ⟨_, hlen0, hcell0⟩ := World.cells?_some g1
            have g2 := hcell0 0 (by decide)
            rw [List.getElem?_eq_getElem (by omega)] at g2
            have := World.cell?_spot g2
            simpa [Addr.add] using this
          obtain ⟨b, o, sp⟩ := a
          simp at hsp
          subst hsp
          rw [Addr.add_mid, Addr.add_mid] at c0
          have c0' : W.cell? ⟨b, o + i, none⟩ = some (.string s) := by simpa using c0
          exact ⟨s, fun _ => ⟨hw, b, o, rfl, World.block_lt_of_cell? W _ c0', c0'⟩⟩
      · exact ⟨ByteArray.empty, fun h => absurd h hi⟩
    obtain ⟨f, hf⟩ := Classical.axiomOfChoice each
    have hlen : ((List.range len).map f).length = len := by simp
    have hsum := sum_bulk linesW (fun x => x.size + 20) rfl (fun _ _ => rfl) 20 f D (List.range len) (fun i hi => (hf i (List.mem_range.1 hi)).1)
    have hln := len_bulk D (List.range len)
    rw [List.length_range] at hln
    have hB : Rows.uptoBulkAll ((List.range len).map D) ≤ Rows.uptoBulk (.slice ((List.range len).map D) ((List.range (m - len)).map fun j => D (len + j))) := by
      simp only [Rows.uptoBulk]
      omega
    refine ⟨(List.range len).map f, ⟨some a, cap, by rw [hlen], fun i hi => ?_⟩, Nat.le_trans hsum (Nat.mul_le_mul_left _ hB), by rw [hlen]; exact Nat.le_trans hln hB⟩
    rw [hlen] at hi
    obtain ⟨_, b, o, rfl, hb, c0⟩ := hf i hi
    exact ⟨b, o, rfl, hb, by simpa using c0⟩

set_option maxRecDepth 100000 in
theorem frms_of {H : Type} {enc : TypeId × Value → H} {W : World} {fuel : Nat} {v : Value} {d : DataW H} {pl : List MemPlace}
    (h : DataW.trod enc Tryd.prog W 0 (fun _ => true) true fuel 23 [v] = some (d, pl)) :
    ∃ l, LiesF W v l ∧ frmsW l ≤ 200 * Rows.uptoBulk d ∧ l.length ≤ Rows.uptoBulk d ∧ (∀ f ∈ l, f.ins.length ≤ Rows.uptoBulk d) ∧ ∀ f ∈ l, ∀ x ∈ f.ins, inK x := by
  rcases Deep.open_slice Tryd.underlying23 h with ⟨hcs, hx⟩ | ⟨a, len, cap, m, n, D, Pl, hcs, hb, hl, hm, hmm, hx, hall⟩
  · obtain rfl : v = .slice none 0 0 := by simpa using hcs
    exact ⟨[], ⟨none, 0, rfl, fun i hi => absurd hi (Nat.not_lt_zero _)⟩, Nat.zero_le _, Nat.zero_le _, (fun f hf => by cases hf), (fun f hf => by cases hf)⟩
  · obtain rfl : v = .slice (some a) len cap := by simpa using hcs
    have hd : d = .slice ((List.range len).map D) ((List.range (m - len)).map fun j => D (len + j)) := (Prod.mk.inj hx).1
    subst hd
    have each : ∀ i, ∃ p : Frm, i < len → frmW p ≤ 200 * Rows.uptoBulk (D i) ∧ p.ins.length ≤ Rows.uptoBulk (D i) ∧ (∀ x ∈ p.ins, inK x) ∧ ∃ b o vI, a = ⟨b, o, none⟩ ∧ b < W.heap.size ∧ W.cell? ⟨b, o + i * 3, none⟩ = some (.string p.act) ∧ W.cell? ⟨b, o + i * 3 + 1, none⟩ = some vI ∧ W.cell? ⟨b, o + i * 3 + 2, none⟩ = some (.string p.but) ∧ LiesI W vI p.ins := by
      intro i
      by_cases hi : i < len
      · obtain ⟨cs', h1, h2⟩ := hall i (by rw [hmm]; simp; omega)
        rw [cellsForm] at h1
        obtain ⟨_, hlen, hcell⟩ := World.cells?_some h1
        match cs', hlen with
        | [v0, v1, v2], _ =>
          obtain ⟨y0, y1, y2, n', hxy, _, t0, t1, t2⟩ := Deep.trod_struct3 Tryd.underlying31 h2
          have t0' : DataW.trod enc Tryd.prog W 0 (fun _ => true) true n' 9 [v0] = some y0 := by rw [← t0]; rfl
          have t1' : DataW.trod enc Tryd.prog W 0 (fun _ => true) true n' 29 [v1] = some y1 := by rw [← t1]; rfl
          have t2' : DataW.trod enc Tryd.prog W 0 (fun _ => true) true n' 9 [v2] = some y2 := by rw [← t2]; rfl
          obtain ⟨s, es, rfl, _⟩ := DataW.trod_string Tryd.underlying9 t0'
          obtain ⟨u, eu, rfl, _⟩ := DataW.trod_string Tryd.underlying9 t2'
          obtain ⟨dI, pI⟩ := y1
          obtain ⟨xs, hI, hw, hln, hkx⟩ := ins_of t1'
          simp at es eu
          subst es eu
          have hDi : D i = .agg [.lit (.string s.data.toList), dI, .lit (.string u.data.toList)] := (Prod.mk.inj hxy).1
          have hw2 : frmW ⟨s, xs, u⟩ ≤ 200 * Rows.uptoBulk (D i) := by
            rw [hDi]
            simp only [Rows.uptoBulk, Rows.uptoBulkAll, len_list]
            show s.size + insW xs + u.size + 100 ≤ _
            omega
          have hl2 : xs.length ≤ Rows.uptoBulk (D i) := by
            rw [hDi]
            simp only [Rows.uptoBulk, Rows.uptoBulkAll]
            omega
          have c0 := hcell 0 (by decide)
          have c1 := hcell 1 (by decide)
          have c2 := hcell 2 (by decide)
          have hsp : a.spot = none := by
            have q0 := hall 0 (by rw [hmm]; simp; omega)
            obtain ⟨cs0, g1, _⟩ := q0
            rw [cellsForm] at g1
            obtain ⟨_, hlen0, hcell0⟩ := World.cells?_some g1
            have g2 := hcell0 0 (by decide)
            rw [List.getElem?_eq_getElem (by omega)] at g2
            have := World.cell?_spot g2
            simpa [Addr.add] using this
          obtain ⟨b, o, sp⟩ := a
          simp at hsp
          subst hsp
          rw [Addr.add_mid, Addr.add_mid] at c0 c1 c2
          have c0' : W.cell? ⟨b, o + i * 3, none⟩ = some (.string s) := by simpa using c0
          exact ⟨⟨s, xs, u⟩, fun _ => ⟨hw2, hl2, hkx, b, o, v1, rfl, World.block_lt_of_cell? W _ c0', c0', by simpa using c1, by simpa using c2, hI⟩⟩
      · exact ⟨⟨ByteArray.empty, [], ByteArray.empty⟩, fun h => absurd h hi⟩
    obtain ⟨f, hf⟩ := Classical.axiomOfChoice each
    have hlen : ((List.range len).map f).length = len := by simp
    have hsum := sum_bulk frmsW frmW rfl (fun _ _ => rfl) 200 f D (List.range len) (fun i hi => (hf i (List.mem_range.1 hi)).1)
    have hln := len_bulk D (List.range len)
    rw [List.length_range] at hln
    have hB : Rows.uptoBulkAll ((List.range len).map D) ≤ Rows.uptoBulk (.slice ((List.range len).map D) ((List.range (m - len)).map fun j => D (len + j))) := by
      simp only [Rows.uptoBulk]
      omega
    refine ⟨(List.range len).map f, ⟨some a, cap, by rw [hlen], fun i hi => ?_⟩, Nat.le_trans hsum (Nat.mul_le_mul_left _ hB), by rw [hlen]; exact Nat.le_trans hln hB, fun g hg => ?_, fun g hg => ?_⟩
    · rw [hlen] at hi
      obtain ⟨_, _, _, b, o, vI, rfl, hb, c0, c1, c2, hI⟩ := hf i hi
      exact ⟨b, o, vI, rfl, hb, by simpa using c0, by simpa using c1, by simpa using c2, by simpa using hI⟩
    · obtain ⟨i, hi, rfl⟩ := List.mem_map.1 hg
      exact Nat.le_trans (hf i (List.mem_range.1 hi)).2.1 (Nat.le_trans (mem_bulk D _ i hi) hB)
    · obtain ⟨i, hi, rfl⟩ := List.mem_map.1 hg
      exact (hf i (List.mem_range.1 hi)).2.2.1

end Go.Proofs.YtjalggkhpnfbiaaDoor.pg

namespace Go.Proofs.YtjalggkhpnfbiaaDoor.kitw
open Go.ChangeShapes Go.WideShapes Go.ChangeAt Go.RowKit Go.Proofs.YtjalggkhpnfbiaaDoor.common

abbrev B (c : UInt8) : Value := .int .u8 (c.toNat : Int)

theorem pick_mod (k n : Int) (hn : 1 ≤ n) : (if k.tmod n < 0 then k.tmod n + n else k.tmod n) = k % n := by
  have h1 := Int.emod_nonneg k (show n ≠ 0 by omega)
  have h2 := Int.emod_lt_of_pos k (show 0 < n by omega)
  rw [Int.tmod_eq_emod]
  by_cases hk : 0 ≤ k ∨ n ∣ k
  · rw [if_pos hk]; split <;> omega
  · rw [if_neg hk]
    have : (n.natAbs : Int) = n := by omega
    have h3 : k % n ≠ 0 := by
      intro h0; exact hk (Or.inr (Int.dvd_of_emod_eq_zero h0))
    split <;> omega

/-- a number from 0 to n - 1 -/
def pick (k n : Int) : Int := if n < 1 then 0 else k % n

theorem pick_bounds (k n : Int) : 0 ≤ pick k n ∧ (1 ≤ n → pick k n < n) := by
  unfold pick
  split
  · exact ⟨by omega, fun h => by omega⟩
  · exact ⟨Int.emod_nonneg k (by omega), fun _ => Int.emod_lt_of_pos k (by omega)⟩

theorem tmod_bounds (k n : Int) (hn : 1 ≤ n) : -n ≤ k.tmod n ∧ k.tmod n < n := by
  have h := pick_mod k n hn
  have h1 := Int.emod_nonneg k (show n ≠ 0 by omega)
  have h2 := Int.emod_lt_of_pos k (show 0 < n by omega)
  split at h <;> omega

set_option maxHeartbeats 400000 in
theorem pick_all (k n : Int) (w : World) (hn : n ≤ 4611686018427387904) (hn0 : -4611686018427387904 ≤ n) :
    Calls Tryd.prog 12 #[.int .i64 k, .int .i64 n] w fun e w' => e = .returned (.int .i64 (pick k n)) ∧ w' = w := by
  by_cases h1 : n < 1
  · have hp : Hid (pick k n = 0) := by show pick k n = 0; unfold pick; rw [if_pos h1]
    go_enter Tryd.func12, Tryd.ntmps12
    go_wp2
    go_ret
    rw [hp.out]
    exact ⟨rfl, rfl⟩
  · have hb := tmod_bounds k n (by omega)
    have hm := pick_mod k n (by omega)
    have hp : pick k n = k % n := by unfold pick; rw [if_neg h1]
    rw [← hm] at hp
    by_cases h2 : k.tmod n < 0
    · rw [if_pos h2] at hp
      have HP := hide hp
      clear hp hm
      go_enter Tryd.func12, Tryd.ntmps12
      go_wp2
      go_ret
      rw [HP.out]
      exact ⟨rfl, rfl⟩
    · rw [if_neg h2] at hp
      have HP := hide hp
      clear hp hm
      go_enter Tryd.func12, Tryd.ntmps12
      go_wp2
      go_ret
      rw [HP.out]
      exact ⟨rfl, rfl⟩

theorem pick_any (k n : Int) (w : World) (hn : n ≤ 4611686018427387904) (hn0 : -4611686018427387904 ≤ n) (_hk0 : -9223372036854775808 ≤ k) (_hk1 : k ≤ 9223372036854775807) :
    Calls Tryd.prog 12 #[.int .i64 k, .int .i64 n] w fun e w' => e = .returned (.int .i64 (pick k n)) ∧ w' = w := pick_all k n w hn hn0

end Go.Proofs.YtjalggkhpnfbiaaDoor.kitw
