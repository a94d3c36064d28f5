import Derived.Shelf.Lays
import Derived.Shelf.Lays2
import Derived.Shelf.LaysM
import Derived.Shelf.LaysC
import Derived.Ground.NamesProg
import Derived.Ground.Names2Prog
import Derived.Test.YtcpflfpgnbihiaaGreatDoorProg
import Derived.Test.YtcpflfpgnbihiaaGreatDoorMBfFold2
import Derived.Shelf.Strings.Fold
namespace Go.Proofs.YtcpflfpgnbihiaaGreatDoor.jl
open Go.Shelf
def lays164_ren : Go.Shelf.Ren := ⟨fun | 164 => 27 | 197 => 44 | 239 => 45 | 260 => 66 | 274 => 67 | 275 => 68 | n => n, fun | 9 => 9 | 4 => 4 | 3 => 3 | 5 => 5 | 0 => 0 | 21 => 21 | 105 => 66 | 156 => 94 | 49 => 93 | 157 => 95 | 46 => 96 | 159 => 98 | 162 => 101 | 160 => 99 | 119 => 87 | 139 => 123 | 138 => 122 | 208 => 128 | 51 => 124 | 206 => 126 | n => n, fun | 11 => 13 | 12 => 14 | 13 => 15 | 3 => 16 | 4 => 17 | n => n⟩
theorem lays164 : Go.Proofs.Lays.n164 Tryz.prog lays164_ren := {
  mixed := by kernel_rfl
  f164 := Tryz.func27.trans (congrArg some (by kernel_rfl))
  f197 := Tryz.func44.trans (congrArg some (by kernel_rfl))
  f239 := Tryz.func45.trans (congrArg some (by kernel_rfl))
  f260 := Tryz.func66.trans (congrArg some (by kernel_rfl))
  f274 := Tryz.func67.trans (congrArg some (by kernel_rfl))
  f275 := Tryz.func68.trans (congrArg some (by kernel_rfl))
  t0 := Tryz.underlying0
  a0 := Tryz.isAgg0
  z0 := Tryz.sizeOf0
  v0 := Tryz.zeroValue0
  t3 := Tryz.underlying3
  a3 := Tryz.isAgg3
  z3 := Tryz.sizeOf3
  v3 := Tryz.zeroValue3
  t4 := Tryz.underlying4
  a4 := Tryz.isAgg4
  z4 := Tryz.sizeOf4
  v4 := Tryz.zeroValue4
  t5 := Tryz.underlying5
  a5 := Tryz.isAgg5
  z5 := Tryz.sizeOf5
  v5 := Tryz.zeroValue5
  t9 := Tryz.underlying9
  a9 := Tryz.isAgg9
  z9 := Tryz.sizeOf9
  v9 := Tryz.zeroValue9
  t21 := Tryz.underlying21
  a21 := Tryz.isAgg21
  z21 := Tryz.sizeOf21
  v21 := Tryz.zeroValue21
  t46 := Tryz.underlying96
  a46 := Tryz.isAgg96
  z46 := Tryz.sizeOf96
  v46 := Tryz.zeroValue96
  t49 := Tryz.underlying93
  a49 := Tryz.isAgg93
  z49 := Tryz.sizeOf93
  v49 := Tryz.zeroValue93
  t51 := Tryz.underlying124
  a51 := Tryz.isAgg124
  z51 := Tryz.sizeOf124
  v51 := Tryz.zeroValue124
  t105 := Tryz.underlying66
  a105 := Tryz.isAgg66
  z105 := Tryz.sizeOf66
  v105 := Tryz.zeroValue66
  t119 := Tryz.underlying87
  a119 := Tryz.isAgg87
  z119 := Tryz.sizeOf87
  t138 := Tryz.underlying122
  a138 := Tryz.isAgg122
  z138 := Tryz.sizeOf122
  v138 := Tryz.zeroValue122
  t139 := Tryz.underlying123
  a139 := Tryz.isAgg123
  z139 := Tryz.sizeOf123
  v139 := Tryz.zeroValue123
  t156 := Tryz.underlying94
  a156 := Tryz.isAgg94
  z156 := Tryz.sizeOf94
  t157 := Tryz.underlying95
  a157 := Tryz.isAgg95
  z157 := Tryz.sizeOf95
  v157 := Tryz.zeroValue95
  t159 := Tryz.underlying98
  a159 := Tryz.isAgg98
  z159 := Tryz.sizeOf98
  v159 := Tryz.zeroValue98
  t160 := Tryz.underlying99
  a160 := Tryz.isAgg99
  z160 := Tryz.sizeOf99
  v160 := Tryz.zeroValue99
  t162 := Tryz.underlying101
  a162 := Tryz.isAgg101
  z162 := Tryz.sizeOf101
  v162 := Tryz.zeroValue101
  t206 := Tryz.underlying126
  a206 := Tryz.isAgg126
  z206 := Tryz.sizeOf126
  v206 := Tryz.zeroValue126
  t208 := Tryz.underlying128
  a208 := Tryz.isAgg128
  z208 := Tryz.sizeOf128
  v208 := Tryz.zeroValue128
  g3 := by kernel_rfl
  g4 := by kernel_rfl
  g11 := by kernel_rfl
  g12 := by kernel_rfl
  g13 := by kernel_rfl }
end Go.Proofs.YtcpflfpgnbihiaaGreatDoor.jl

namespace Go.Proofs.YtcpflfpgnbihiaaGreatDoor.bf
open Go.ChangeShapes Go.WideShapes Go.ChangeAt Go.RowKit Go.Proofs.YtcpflfpgnbihiaaGreatDoor.common Go.Proofs.YtcpflfpgnbihiaaGreatDoor.bk Go.Proofs.YtcpflfpgnbihiaaGreatDoor.fd
attribute [local go_sem ↓] Go.wp_at_zero Go.wp_at_succ

theorem fold_low (x y : UInt8) : Lib.foldEq x y = decide (Fd.low x = Fd.low y) := by
  unfold Lib.foldEq
  refine decide_eq_decide.2 ?_
  rw [← UInt8.toNat_inj]
  rcases Bf.low_cases x with ⟨a1, a2, a3⟩ | ⟨a1, a3⟩ <;> rcases Bf.low_cases y with ⟨b1, b2, b3⟩ | ⟨b1, b3⟩ <;> rw [a3, b3] <;> omega
theorem fold_lows : ∀ l r : List UInt8, Lib.equalFold l r = decide (Fd.lows l = Fd.lows r)
  | [], [] => rfl
  | [], _ :: _ => by simp [Lib.equalFold, Fd.lows]
  | _ :: _, [] => by simp [Lib.equalFold, Fd.lows]
  | x :: l, y :: r => by
    have ih := fold_lows l r
    unfold Lib.equalFold Fd.lows
    rw [fold_low, ih]
    unfold Fd.lows
    simp
abbrev brB : ByteArray := ⟨#[66, 101, 97, 114, 101, 114]⟩
theorem br_low : Fd.lows brB.data.toList = Bf.bearer := by decide
theorem br_isL (k : Nat) (h : k < brB.size) : isL brB[k].toNat := by
  have h6 : k < 6 := h
  match k, h6 with
  | 0, _ => exact Or.inl rfl
  | 1, _ => exact Or.inr (Or.inr (Or.inr (Or.inl rfl)))
  | 2, _ => exact Or.inr (Or.inr (Or.inr (Or.inr (Or.inr (Or.inl rfl)))))
  | 3, _ => exact Or.inr (Or.inr (Or.inr (Or.inr (Or.inr (Or.inr (Or.inr rfl))))))
  | 4, _ => exact Or.inr (Or.inr (Or.inr (Or.inl rfl)))
  | 5, _ => exact Or.inr (Or.inr (Or.inr (Or.inr (Or.inr (Or.inr (Or.inr rfl))))))
/-- the first byte that is not ASCII -/
theorem first_high (s : ByteArray) : (∀ (j : Nat) b, s.data.toList[j]? = some b → b.toNat < 128) ∨ ∃ (m : Nat) (h : m < s.size), 128 ≤ s[m].toNat ∧ ∀ k (h : k < s.size), k < m → s[k].toNat < 128 := by
  have key : ∀ n, n ≤ s.size → (∀ k (h : k < s.size), k < n → s[k].toNat < 128) ∨ ∃ (m : Nat) (h : m < s.size), 128 ≤ s[m].toNat ∧ ∀ k (h : k < s.size), k < m → s[k].toNat < 128 := by
    intro n
    induction n with
    | zero => intro _; exact Or.inl fun k _ h => by omega
    | succ n ih =>
      intro hn
      rcases ih (by omega) with h | h
      · by_cases h8 : 128 ≤ (s[n]'(by omega)).toNat
        · exact Or.inr ⟨n, by omega, h8, h⟩
        · refine Or.inl fun k hk hkn => ?_
          by_cases e : k = n
          · subst e; omega
          · exact h k hk (by omega)
      · exact Or.inr h
  rcases key s.size (Nat.le_refl _) with h | h
  · refine Or.inl fun j b hj => ?_
    obtain ⟨hl, rfl⟩ := List.getElem?_eq_some_iff.1 hj
    have hl2 : j < s.size := by simpa using hl
    exact h j hl2 hl2
  · exact Or.inr h
theorem high_not {s : ByteArray} {m : Nat} (h : m < s.size) (h8 : 128 ≤ s[m].toNat) : Fd.lows s.data.toList ≠ Bf.bearer := by
  intro e
  have hm : Fd.low s[m] ∈ Fd.lows s.data.toList := List.mem_map.2 ⟨s[m], List.getElem_mem (l := s.data.toList) (by simpa using h), rfl⟩
  rw [e] at hm
  have hb : ∀ y ∈ Bf.bearer, y.toNat < 128 := by decide
  have := hb _ hm
  rcases Bf.low_cases s[m] with ⟨a, b, _⟩ | ⟨_, e3⟩
  · omega
  · rw [e3] at this; omega

theorem fold_six (s : ByteArray) (w : World) (hs : s.size = 6) (hT : FoldT w) :
    Calls Tryz.prog 27 #[.string s, .string brB] w fun e w' => e = .returned (.bool (decide (Fd.lows s.data.toList = Bf.bearer))) ∧ Below w.heap.size w w' := by
  rcases first_high s with h | ⟨m, h, h8, hlow⟩
  · refine (Any.strings_EqualFold jl.lays164 s brB w (by omega) h ?_).mono ?_
    · intro j b hj
      have hb : ∀ y ∈ brB.data.toList, y.toNat < 128 := by decide
      exact hb b (List.mem_of_getElem? hj)
    · rintro e w' ⟨rfl, rfl⟩
      exact ⟨by rw [fold_lows, br_low], Below.refl _ _⟩
  · rw [decide_eq_false (high_not h h8)]
    exact fold_no s brB w hs (by decide) m h h8 hlow br_isL hT
end Go.Proofs.YtcpflfpgnbihiaaGreatDoor.bf
