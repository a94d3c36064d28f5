import Derived.Test.YtkkgngmhdlmgnaaDoorRows
import Derived.Test.YtkkgngmhdlmgnaaDoorObjWalk3
import Derived.Deep.Slices
import Derived.Lib.SmallJoins
namespace Go.Proofs.YtkkgngmhdlmgnaaDoor.jw
open Go.ChangeShapes Go.WideShapes Go.ChangeAt Go.RowKit Go.Joins Go.Deep Go.WideElems Go.Maps Go.Proofs.YtkkgngmhdlmgnaaDoor.common

theorem weightsAll_mem {H : Type} {P : Program} {e : TypeId} {p : Nat → Bool} : ∀ (l : List (DataW H)), (DataW.weightsAll P e l).all p = true → ∀ d ∈ l, (d.weights P e).all p = true
  | [], _, d, hd => by cases hd
  | x :: r, h, d, hd => by
    rw [DataW.weightsAll, List.all_append, Bool.and_eq_true] at h
    rcases List.mem_cons.1 hd with rfl | hd
    · exact h.1
    · exact weightsAll_mem r h.2 d hd

theorem cellsMember : Tryd.prog.cellsOf 37 = 5 := by kernel_rfl
theorem bytesMember : Tryd.prog.bytesOf 37 = 56 := by kernel_rfl

/-- a member as it is read -/
def dat {H : Type} (m : Mem) : DataW H := .agg [.lit (.string m.name), .lit (.int .i64 m.kind), .lit (.string m.text), .lit (.int .i64 m.num), .lit (.bool m.flag)]
theorem S_lst (s : ByteArray) : S s.data.toList = .string s := by unfold S; congr

set_option maxRecDepth 100000 in
theorem members_of {H : Type} {enc : TypeId × Value → H} {W : World} {fuel : Nat} {v : Value} {d : DataW H} {pl : List MemPlace}
    (h : DataW.trod enc Tryd.prog W 0 (fun _ => true) true fuel 22 [v] = some (d, pl)) (hsz : (d.weights Tryd.prog 22).all (· ≤ reachBytes) = true) :
    ∃ l, Lies W v l ∧ l.length * 56 ≤ reachBytes ∧ (∀ m ∈ l, Json.inRange m.num) ∧ ((d = .nil ∧ l = []) ∨ ∃ sp, d = .slice (l.map dat) sp) := by
  rcases Deep.open_slice Tryd.underlying22 h with ⟨hcs, hx⟩ | ⟨a, len, cap, m, n, D, Pl, hcs, hb, hl, hm, hmm, hx, hall⟩
  · obtain rfl : v = .slice none 0 0 := by simpa using hcs
    exact ⟨[], ⟨none, 0, rfl, Nat.le_refl _, fun i hi => absurd hi (Nat.not_lt_zero _)⟩, by decide, fun p hp => (by cases hp), Or.inl ⟨(Prod.mk.inj hx).1, rfl⟩⟩
  · obtain rfl : v = .slice (some a) len cap := by simpa using hcs
    have hd : d = .slice ((List.range len).map D) ((List.range (m - len)).map fun j => D (len + j)) := (Prod.mk.inj hx).1
    subst hd
    simp only [DataW.weights, Tryd.underlying22, List.all_cons, List.all_append, Bool.and_eq_true] at hsz
    have each : ∀ i, ∃ p : Mem, i < len → D i = dat p ∧ Json.inRange p.num ∧ ∃ b o, a = ⟨b, o, none⟩ ∧ b < W.heap.size ∧ At W b (o + i * 5) p := by
      intro i
      by_cases hi : i < len
      · obtain ⟨cs', h1, h2⟩ := hall i (by rw [hmm]; simp; omega)
        rw [cellsMember] at h1
        obtain ⟨_, hlen, hcell⟩ := World.cells?_some h1
        match cs', hlen with
        | [v0, v1, v2, v3, v4], _ =>
          obtain ⟨xs, n', _, hxy, _, hfl, hf⟩ := DataW.trod_struct Tryd.underlying37 h2
          match xs, hfl with
          | [y0, y1, y2, y3, y4], _ =>
          have t0' : DataW.trod enc Tryd.prog W 0 (fun _ => true) true n' 9 [v0] = some y0 := hf 0 _ rfl
          have t1' : DataW.trod enc Tryd.prog W 0 (fun _ => true) true n' 3 [v1] = some y1 := hf 1 _ rfl
          have t2' : DataW.trod enc Tryd.prog W 0 (fun _ => true) true n' 9 [v2] = some y2 := hf 2 _ rfl
          have t3' : DataW.trod enc Tryd.prog W 0 (fun _ => true) true n' 3 [v3] = some y3 := hf 3 _ rfl
          have t4' : DataW.trod enc Tryd.prog W 0 (fun _ => true) true n' 4 [v4] = some y4 := hf 4 _ rfl
          obtain ⟨s, es, rfl, _⟩ := DataW.trod_string Tryd.underlying9 t0'
          obtain ⟨k, ek, rfl, _⟩ := DataW.trod_int Tryd.underlying3 t1'
          obtain ⟨t, et, rfl, _⟩ := DataW.trod_string Tryd.underlying9 t2'
          obtain ⟨u, eu, rfl, wu⟩ := DataW.trod_int Tryd.underlying3 t3'
          obtain ⟨f, ef, rfl⟩ := DataW.trod_bool Tryd.underlying4 t4'
          simp at es ek et eu ef
          subst es ek et eu ef
          have hDi : D i = dat ⟨s.data.toList, k, t.data.toList, u, f⟩ := (Prod.mk.inj hxy).1
          have c0 := hcell 0 (by decide)
          have c1 := hcell 1 (by decide)
          have c2 := hcell 2 (by decide)
          have c3 := hcell 3 (by decide)
          have c4 := hcell 4 (by decide)
          have hsp : a.spot = none := by
            have q0 := hall 0 (by rw [hmm]; simp; omega)
            obtain ⟨cs0, g1, _⟩ := q0
            rw [cellsMember] at g1
            obtain ⟨_, hlen0, hcell0⟩ := World.cells?_some g1
            have g2 := hcell0 0 (by decide)
            rw [List.getElem?_eq_getElem (by omega)] at g2
            have := World.cell?_spot g2
            simpa [Addr.add] using this
          obtain ⟨b, o, sp⟩ := a
          simp at hsp
          subst hsp
          rw [Addr.add_mid, Addr.add_mid] at c0 c1 c2 c3 c4
          have c0' : W.cell? ⟨b, o + i * 5, none⟩ = some (.string s) := by simpa using c0
          refine ⟨⟨s.data.toList, k, t.data.toList, u, f⟩, fun _ => ⟨hDi, bounds_i64 wu, b, o, rfl, World.block_lt_of_cell? W _ c0', ?_, ?_, ?_, ?_, ?_⟩⟩
          · show _ = some (S s.data.toList); rw [S_lst]; exact c0'
          · simpa using c1
          · show _ = some (S t.data.toList); rw [S_lst]; simpa using c2
          · simpa using c3
          · simpa using c4
      · exact ⟨⟨[], 0, [], 0, false⟩, fun h => absurd h hi⟩
    obtain ⟨f, hf⟩ := Classical.axiomOfChoice each
    have hlen : ((List.range len).map f).length = len := by simp
    refine ⟨(List.range len).map f, ⟨some a, cap, by rw [hlen], by rw [hlen]; omega, fun i hi => ?_⟩, ?_, ?_, Or.inr ⟨(List.range (m - len)).map fun j => D (len + j), ?_⟩⟩
    · rw [hlen] at hi
      obtain ⟨_, _, b, o, rfl, hb, c0⟩ := hf i hi
      exact ⟨b, o, rfl, hb, by simpa using c0⟩
    · rw [hlen]
      have h1 := hsz.1
      rw [bytesMember] at h1
      simp at h1
      omega
    · intro p hp
      obtain ⟨i, hi, rfl⟩ := List.mem_map.1 hp
      exact (hf i (List.mem_range.1 hi)).2.1
    · congr 1
      rw [List.map_map]
      apply List.map_congr_left
      intro i hi
      exact (hf i (List.mem_range.1 hi)).1

/-- the bulk of members bounds their text -/
theorem bulk_members {H : Type} : ∀ l : List Mem, tot l ≤ 14 * Rows.uptoBulkAll (l.map (dat (H := H)))
  | [] => Nat.zero_le _
  | p :: r => by
    have ih := bulk_members (H := H) r
    have e : Rows.uptoBulkAll ((p :: r).map (dat (H := H))) = Rows.uptoBulk (dat (H := H) p) + Rows.uptoBulkAll (r.map (dat (H := H))) := by
      rw [List.map_cons, Rows.uptoBulkAll]
    have h2 : p.name.length + p.text.length + 6 ≤ Rows.uptoBulk (dat (H := H) p) := by
      unfold dat
      simp only [Rows.uptoBulk, Rows.uptoBulkAll]
      omega
    rw [e]
    show 6 * (p.name.length + p.text.length) + 40 + tot r ≤ _
    omega
end Go.Proofs.YtkkgngmhdlmgnaaDoor.jw
