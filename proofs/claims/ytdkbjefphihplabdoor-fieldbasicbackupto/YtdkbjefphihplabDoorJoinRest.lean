import Derived.Test.YtdkbjefphihplabDoorNumbers
namespace Go.Proofs.YtdkbjefphihplabDoor.radw
open Go.ChangeShapes Go.WideShapes Go.ChangeAt Go.RowKit Go.Proofs.YtdkbjefphihplabDoor.common
attribute [local go_sem ↓] Go.wp_at_zero Go.wp_at_succ

/-- a byte out of numbers of six bits -/
def bytB (T s : List UInt8) (m : Nat) : UInt8 := UInt8.ofNat (Rad.byt (Rad.num T 64 s) m)
theorem bytB_val (T s : List UInt8) (m : Nat) : ((bytB T s m).toNat : Int) = ((Rad.byt (Rad.num T 64 s) m : Nat) : Int) := by
  unfold bytB; rw [Rad.toNat_of (Rad.byt_lt _ (Rad.num_lt (by decide) s) m)]
theorem num6_val (T s : List UInt8) (i : Nat) : (numB T 64 s i).toNat = Rad.num T 64 s i := by
  unfold numB; have := Rad.num_lt (T := T) (n := 64) (by decide) s i; rw [Rad.toNat_of (by omega)]

theorem byt0 (x : Nat → Nat) (k : Nat) : Rad.byt x (3 * k) = x (4 * k) * 4 + x (4 * k + 1) / 16 := by
  unfold Rad.byt; rw [show 3 * k % 3 = 0 by omega, show 3 * k / 3 * 4 = 4 * k by omega]; rfl
theorem byt1 (x : Nat → Nat) (k : Nat) : Rad.byt x (3 * k + 1) = x (4 * k + 1) % 16 * 16 + x (4 * k + 2) / 4 := by
  unfold Rad.byt; rw [show (3 * k + 1) % 3 = 1 by omega, show (3 * k + 1) / 3 * 4 = 4 * k by omega]; rfl
theorem byt2 (x : Nat → Nat) (k : Nat) : Rad.byt x (3 * k + 2) = x (4 * k + 2) % 4 * 64 + x (4 * k + 3) := by
  unfold Rad.byt; rw [show (3 * k + 2) % 3 = 2 by omega, show (3 * k + 2) / 3 * 4 = 4 * k by omega]; rfl

theorem tri0 (T s : List UInt8) (k : Nat) : bits .or .u8 (((numB T 64 s (4 * k)).toNat : Int) * 4 % 256) (((numB T 64 s (4 * k + 1)).toNat : Int) / 16) = ((bytB T s (3 * k)).toNat : Int) := by
  have h0 := Rad.num_lt (T := T) (n := 64) (by decide) s (4 * k)
  have h1 := Rad.num_lt (T := T) (n := 64) (by decide) s (4 * k + 1)
  rw [bytB_val, byt0, num6_val, num6_val]
  exact or_at (Rad.num T 64 s (4 * k)) (Rad.num T 64 s (4 * k + 1) / 16) 2 _ _ _ (by decide) (by omega) (by omega) (by omega) (by omega) (by omega)
theorem tri1 (T s : List UInt8) (k : Nat) : bits .or .u8 (((numB T 64 s (4 * k + 1)).toNat : Int) * 16 % 256) (((numB T 64 s (4 * k + 2)).toNat : Int) / 4) = ((bytB T s (3 * k + 1)).toNat : Int) := by
  have h1 := Rad.num_lt (T := T) (n := 64) (by decide) s (4 * k + 1)
  have h2 := Rad.num_lt (T := T) (n := 64) (by decide) s (4 * k + 2)
  rw [bytB_val, byt1, num6_val, num6_val]
  exact or_at (Rad.num T 64 s (4 * k + 1) % 16) (Rad.num T 64 s (4 * k + 2) / 4) 4 _ _ _ (by decide) (by omega) (by omega) (by omega) (by omega) (by omega)
theorem tri2 (T s : List UInt8) (k : Nat) : bits .or .u8 (((numB T 64 s (4 * k + 2)).toNat : Int) * 64 % 256) ((numB T 64 s (4 * k + 3)).toNat : Int) = ((bytB T s (3 * k + 2)).toNat : Int) := by
  have h2 := Rad.num_lt (T := T) (n := 64) (by decide) s (4 * k + 2)
  have h3 := Rad.num_lt (T := T) (n := 64) (by decide) s (4 * k + 3)
  rw [bytB_val, byt2, num6_val, num6_val]
  exact or_at (Rad.num T 64 s (4 * k + 2) % 4) (Rad.num T 64 s (4 * k + 3)) 6 _ _ _ (by decide) (by omega) rfl (by omega) (by omega) (by omega)

theorem could0 (p : Option Addr) (cap : Nat) (w : World) : Calls Tryd.prog 133 #[.slice p 0 cap] w fun e w' => e = .returned (.bool true) ∧ w' = w := by
  go_enter Tryd.func133, Tryd.ntmps133
  go_wp2
  go_ret
  exact ⟨rfl, rfl⟩
theorem could1 (p : Option Addr) (cap : Nat) (w : World) : Calls Tryd.prog 133 #[.slice p 1 cap] w fun e w' => e = .returned (.bool false) ∧ w' = w := by
  go_enter Tryd.func133, Tryd.ntmps133
  go_wp2
  go_ret
  exact ⟨rfl, rfl⟩
theorem could2 (g o cap : Nat) (x : UInt8) (m : Nat) (hm : bits .and .u8 (x.toNat : Int) 15 = (m : Int)) (w : World) (hc : w.cell? ⟨g, o + 1, none⟩ = some (B x)) : Calls Tryd.prog 133 #[.slice (some ⟨g, o, none⟩) 2 cap] w fun e w' => e = .returned (.bool (decide (m = 0))) ∧ w' = w := by
  by_cases h : m = 0
  · subst h
    go_enter Tryd.func133, Tryd.ntmps133
    go_wp2
    go_ret
    exact ⟨rfl, rfl⟩
  · have h1 : ((m : Int) == 0) = false := beq_false_of_ne (by omega)
    have h2 := hide (decide_eq_false h)
    clear h
    go_enter Tryd.func133, Tryd.ntmps133
    go_wp2
    go_ret
    rw [h2.out]
    exact ⟨rfl, rfl⟩
theorem could3 (g o cap : Nat) (x : UInt8) (m : Nat) (hm : bits .and .u8 (x.toNat : Int) 3 = (m : Int)) (w : World) (hc : w.cell? ⟨g, o + 2, none⟩ = some (B x)) : Calls Tryd.prog 133 #[.slice (some ⟨g, o, none⟩) 3 cap] w fun e w' => e = .returned (.bool (decide (m = 0))) ∧ w' = w := by
  by_cases h : m = 0
  · subst h
    go_enter Tryd.func133, Tryd.ntmps133
    go_wp2
    go_ret
    exact ⟨rfl, rfl⟩
  · have h1 : ((m : Int) == 0) = false := beq_false_of_ne (by omega)
    have h2 := hide (decide_eq_false h)
    clear h
    go_enter Tryd.func133, Tryd.ntmps133
    go_wp2
    go_ret
    rw [h2.out]
    exact ⟨rfl, rfl⟩

theorem and15' : ∀ c : Fin 256, c.val &&& 15 = c.val % 16 := by decide +kernel
theorem and3 : ∀ c : Fin 256, c.val &&& 3 = c.val % 4 := by decide +kernel

/-- does what is left at the end keep its bits? -/
theorem could_any (T s : List UInt8) (W n g : Nat) (hn : n = s.length) (hW1 : 4 * W ≤ n) (hW2 : n < 4 * W + 4) (w : World) (hl : Lay w g ((List.range n).map (numB T 64 s))) :
    Calls Tryd.prog 133 #[.slice (if n = 4 * W then some ⟨g, 0, none⟩ else some ⟨g, 4 * W, none⟩) (n - 4 * W) (n - 4 * W)] w fun e w' => ((Rad.restOk T s ∧ e = .returned (.bool true)) ∨ (¬ Rad.restOk T s ∧ e = .returned (.bool false))) ∧ w' = w := by
  unfold Rad.restOk
  rw [← hn]
  have hlen : ((List.range n).map (numB T 64 s)).length = n := by simp
  by_cases h0 : n = 4 * W
  · rw [show n - 4 * W = 0 by omega]
    refine (could0 _ _ w).mono ?_
    rintro e w' ⟨rfl, rfl⟩
    exact ⟨Or.inl ⟨⟨by omega, fun h => by omega, fun h => by omega⟩, rfl⟩, rfl⟩
  · rw [if_neg h0]
    by_cases h1 : n = 4 * W + 1
    · rw [show n - 4 * W = 1 by omega]
      refine (could1 _ _ w).mono ?_
      rintro e w' ⟨rfl, rfl⟩
      exact ⟨Or.inr ⟨fun h => h.1 (by omega), rfl⟩, rfl⟩
    · by_cases h2 : n = 4 * W + 2
      · rw [show n - 4 * W = 2 by omega]
        have hc := hl.cell (4 * W + 1) (by omega)
        rw [Rad.getD_map, if_pos (by omega)] at hc
        have hm : bits .and .u8 ((numB T 64 s (4 * W + 1)).toNat : Int) 15 = ((Rad.num T 64 s (4 * W + 1) % 16 : Nat) : Int) := by
          rw [← num6_val, ← and15' ⟨_, (numB T 64 s (4 * W + 1)).toNat_lt⟩]
          exact and_nat _ 15 (by decide)
        refine (could2 g (4 * W) 2 _ _ hm w hc).mono ?_
        rintro e w' ⟨rfl, rfl⟩
        have hx : n - 1 = 4 * W + 1 := by omega
        rw [hx]
        by_cases hz : Rad.num T 64 s (4 * W + 1) % 16 = 0
        · exact ⟨Or.inl ⟨⟨by omega, fun _ => hz, fun h => by omega⟩, by rw [decide_eq_true hz]⟩, rfl⟩
        · exact ⟨Or.inr ⟨fun h => hz (h.2.1 (by omega)), by rw [decide_eq_false hz]⟩, rfl⟩
      · rw [show n - 4 * W = 3 by omega]
        have hc := hl.cell (4 * W + 2) (by omega)
        rw [Rad.getD_map, if_pos (by omega)] at hc
        have hm : bits .and .u8 ((numB T 64 s (4 * W + 2)).toNat : Int) 3 = ((Rad.num T 64 s (4 * W + 2) % 4 : Nat) : Int) := by
          rw [← num6_val, ← and3 ⟨_, (numB T 64 s (4 * W + 2)).toNat_lt⟩]
          exact and_nat _ 3 (by decide)
        refine (could3 g (4 * W) 3 _ _ hm w hc).mono ?_
        rintro e w' ⟨rfl, rfl⟩
        have hx : n - 1 = 4 * W + 2 := by omega
        rw [hx]
        by_cases hz : Rad.num T 64 s (4 * W + 2) % 4 = 0
        · exact ⟨Or.inl ⟨⟨by omega, fun h => by omega, fun _ => hz⟩, by rw [decide_eq_true hz]⟩, rfl⟩
        · exact ⟨Or.inr ⟨fun h => hz (h.2.2 (by omega)), by rw [decide_eq_false hz]⟩, rfl⟩

theorem join0 (p : Option Addr) (r cap : Nat) (hr : r = 0) (v : Value) (w : World) : Calls Tryd.prog 134 #[.slice p r cap, v] w fun e w' => e = .returned (.tuple #[]) ∧ w' = w := by
  subst hr
  go_enter Tryd.func134, Tryd.ntmps134
  go_wp2_with fail
  go_end0
  exact ⟨rfl, rfl⟩

set_option maxRecDepth 100000 in
set_option maxHeartbeats 400000 in
theorem join2_core (g o cap g2 o2 cap2 : Nat) (w : World) (l : List UInt8) (hl : Lay w g2 l) (ho : o2 < l.length) (x0 x1 y0 : UInt8) (c0 : w.cell? ⟨g, o, none⟩ = some (B x0)) (c1 : w.cell? ⟨g, o + 1, none⟩ = some (B x1))
    (h0 : bits .or .u8 ((x0.toNat : Int) * 4 % 256) ((x1.toNat : Int) / 16) = (y0.toNat : Int)) :
    Calls Tryd.prog 134 #[.slice (some ⟨g, o, none⟩) 2 cap, .slice (some ⟨g2, o2, none⟩) 1 cap2] w fun e w' => e = .returned (.tuple #[]) ∧ Lay w' g2 (l.set o2 y0) ∧ ∀ b, b ≤ g2 → Below b w w' := by
  have f0 := hl.frozen o2 ho
  obtain ⟨v0, hv0⟩ : ∃ v, w.cell? ⟨g2, o2, none⟩ = some v := ⟨_, hl.cell o2 ho⟩
  have HL := hide hl
  clear hl
  go_enter Tryd.func134, Tryd.ntmps134
  go_wp2_with fail
  go_region
  go_wp2
  go_end0
  refine ⟨rfl, ?_, fun b hb => ?_⟩
  · exact (HL.out.set o2 ho y0).drew
  · exact ((Below.refl _ _).setCell hb _).drew

set_option maxRecDepth 100000 in
set_option maxHeartbeats 400000 in
theorem join3_core (g o cap g2 o2 cap2 : Nat) (hne : g2 ≠ g) (w : World) (l : List UInt8) (hl : Lay w g2 l) (ho : o2 + 1 < l.length) (x0 x1 x2 y0 y1 : UInt8) (c0 : w.cell? ⟨g, o, none⟩ = some (B x0)) (c1 : w.cell? ⟨g, o + 1, none⟩ = some (B x1)) (c2 : w.cell? ⟨g, o + 2, none⟩ = some (B x2))
    (h0 : bits .or .u8 ((x0.toNat : Int) * 4 % 256) ((x1.toNat : Int) / 16) = (y0.toNat : Int)) (h1 : bits .or .u8 ((x1.toNat : Int) * 16 % 256) ((x2.toNat : Int) / 4) = (y1.toNat : Int)) :
    Calls Tryd.prog 134 #[.slice (some ⟨g, o, none⟩) 3 cap, .slice (some ⟨g2, o2, none⟩) 2 cap2] w fun e w' => e = .returned (.tuple #[]) ∧ Lay w' g2 ((l.set (o2 + 1) y1).set o2 y0) ∧ ∀ b, b ≤ g2 → Below b w w' := by
  have f0 := hl.frozen o2 (by omega)
  have f1 := hl.frozen (o2 + 1) ho
  obtain ⟨v0, hv0⟩ : ∃ v, w.cell? ⟨g2, o2, none⟩ = some v := ⟨_, hl.cell o2 (by omega)⟩
  obtain ⟨v1, hv1⟩ : ∃ v, w.cell? ⟨g2, o2 + 1, none⟩ = some v := ⟨_, hl.cell (o2 + 1) ho⟩
  have n0 : (⟨g2, o2 + 1, none⟩ : Addr) ≠ ⟨g, o, none⟩ := fun he => hne (Addr.mk.inj he).1
  have n1 : (⟨g2, o2 + 1, none⟩ : Addr) ≠ ⟨g, o + 1, none⟩ := fun he => hne (Addr.mk.inj he).1
  have HL := hide hl
  clear hl
  go_enter Tryd.func134, Tryd.ntmps134
  go_wp2_with fail
  go_region
  go_wp2_with fail
  go_region
  go_wp2
  go_end0
  refine ⟨rfl, ?_, fun b hb => ?_⟩
  · exact ((HL.out.set (o2 + 1) ho y1).drew.set o2 (by simp; omega) y0).drew
  · exact ((((Below.refl _ _).setCell hb _).drew).setCell hb _).drew

end Go.Proofs.YtdkbjefphihplabDoor.radw
