import Derived.Test.YticncaoecoehkaaDoorRdKit
import Derived.Lib.SmallJoins
import Derived.Deep.DeepHandedRow
namespace Go.Proofs.YticncaoecoehkaaDoor.wl
open Go.ChangeShapes Go.WideShapes Go.ChangeAt Go.RowKit Go.Joins Go.Deep Go.Proofs.YticncaoecoehkaaDoor.common Go.Proofs.YticncaoecoehkaaDoor.dk

theorem bytesU8 : Tryd.prog.bytesOf 5 = 1 := by kernel_rfl
theorem cellsU8 : Tryd.prog.cellsOf 5 = 1 := by kernel_rfl
/-- a cell as a byte -/
def byteAt (W : World) (b o : Nat) : UInt8 := match W.cell? ⟨b, o, none⟩ with
  | some (.int _ k) => UInt8.ofNat k.toNat
  | _ => 0
theorem bulk_one {H : Type} (d : DataW H) : 1 ≤ Rows.uptoBulk d := by
  cases d with
  | lit x => cases x <;> simp [Rows.uptoBulk]
  | _ => simp [Rows.uptoBulk]
theorem bulk_all {H : Type} (l : List (DataW H)) : l.length ≤ Rows.uptoBulkAll l := by
  induction l with
  | nil => exact Nat.zero_le _
  | cons d r ih =>
    have := bulk_one d
    rw [Rows.uptoBulkAll, List.length_cons]
    omega
set_option maxRecDepth 100000 in
/-- a list of bytes as an argument -/
theorem bytes_of {H : Type} {enc : TypeId × Value → H} {W : World} {fuel : Nat} {v : Value} {d : DataW H} {pl : List MemPlace}
    (h : DataW.trod enc Tryd.prog W 0 (fun _ => true) true fuel 22 [v] = some (d, pl)) (hsz : (d.weights Tryd.prog 22).all (· ≤ reachBytes) = true) : ∃ l : List UInt8, Rd W v l ∧ l.length ≤ reachBytes ∧ l.length + 1 ≤ Rows.uptoBulk d ∧ ∀ oa m c, v = .slice oa m c → m ≤ c := by
  rcases Deep.open_slice Tryd.underlying22 h with ⟨hcs, hx⟩ | ⟨a, len, cap, m, n, D, Pl, hcs, hb, hl, hm, hmm, hx, hall⟩
  · obtain rfl : v = .slice none 0 0 := by simpa using hcs
    exact ⟨[], rd_nil _, by decide, bulk_one _, fun oa m c e => by cases e; exact Nat.le_refl _⟩
  · obtain rfl : v = .slice (some a) len cap := by simpa using hcs
    have hd : d = .slice ((List.range len).map D) ((List.range (m - len)).map fun j => D (len + j)) := (Prod.mk.inj hx).1
    subst hd
    simp only [DataW.weights, Tryd.underlying22, List.all_cons, List.all_append, Bool.and_eq_true] at hsz
    have h1 := hsz.1
    rw [bytesU8] at h1
    simp at h1
    by_cases h0 : len = 0
    · subst h0
      exact ⟨[], ⟨some a, cap, rfl, fun hl => absurd hl (by decide)⟩, by decide, bulk_one _, fun oa m' c e => by cases e; exact Nat.zero_le _⟩
    have hsp : a.spot = none := by
      obtain ⟨cs0, g1, _⟩ := hall 0 (by rw [hmm]; simp; omega)
      rw [cellsU8] at g1
      obtain ⟨_, hlen0, hcell0⟩ := World.cells?_some g1
      have g2 := hcell0 0 (by decide)
      rw [List.getElem?_eq_getElem (by omega)] at g2
      have := World.cell?_spot g2
      simpa [Addr.add] using this
    obtain ⟨b, o, sp⟩ := a
    obtain rfl : sp = none := hsp
    have hc : ∀ i, i < len → W.cell? ⟨b, o + i, none⟩ = some (B (byteAt W b (o + i))) := fun i hi => by
      obtain ⟨cs', h1, h2⟩ := hall i (by rw [hmm]; simp; omega)
      rw [cellsU8] at h1
      obtain ⟨_, hlen, hcell⟩ := World.cells?_some h1
      match cs', hlen with
      | [v0], _ =>
        obtain ⟨k, ek, _, wk⟩ := DataW.trod_int Tryd.underlying5 h2
        simp at ek
        subst ek
        have c0 := hcell 0 (by decide)
        have hk := bounds_u8 wk
        have hcl : W.cell? ⟨b, o + i, none⟩ = some (.int .u8 k) := by
          have := c0
          rw [Addr.add_mid, Addr.add_mid] at this
          simpa using this
        rw [hcl]
        unfold byteAt
        rw [hcl]
        show some (Value.int .u8 k) = some (Value.int .u8 _)
        congr 2
        simp
        omega
    refine ⟨(List.range len).map fun i => byteAt W b (o + i), ⟨some ⟨b, o, none⟩, cap, by simp, fun _ => ⟨b, o, rfl, ?_, fun j u hu => ?_⟩⟩, by simp; omega, ?_, fun oa m' c e => by cases e; omega⟩
    · exact World.block_lt_of_cell? W _ (hc 0 (by omega))
    · have hj : j < len := by have := (List.getElem?_eq_some_iff.1 hu).1; simpa using this
      simp [hj] at hu
      rw [hc j hj, hu]
    · have h2 := bulk_all ((List.range len).map D)
      rw [List.length_map, List.length_range] at h2
      rw [Rows.uptoBulk, List.length_map, List.length_range]
      omega
end Go.Proofs.YticncaoecoehkaaDoor.wl
