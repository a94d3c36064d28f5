import Derived.Test.YtocpikgcbibcoaaGreatDoorMRadixRead
import Derived.Test.YtocpikgcbibcoaaGreatDoorMErrWalks
import Derived.Deep.OwnRows
namespace Go.Proofs.YtocpikgcbibcoaaGreatDoor.radw
open Go.ChangeShapes Go.WideShapes Go.ChangeAt Go.RowKit Go.Proofs.YtocpikgcbibcoaaGreatDoor.common
attribute [local go_sem ↓] Go.wp_at_zero Go.wp_at_succ

/-- the refusal of a text lies in its variable -/
abbrev X (a : Addr) : Value := .iface 195 (.pointer (some a))
def Txt (w : World) (a : Addr) : Prop := w.cell? ⟨2, 0, none⟩ = some (X a)
theorem Txt.below {w w' : World} {a : Addr} (h : Txt w a) (hb : Below w.heap.size w w') : Txt w' a := by
  unfold Txt
  rw [← h]
  exact hb.cell (World.block_lt_of_cell? w _ h)
theorem Txt.of {w : World} {e : Nat → Addr} (h : errw.Errs w e) : Txt w (e 1) := h.cell 1 (by decide)

/-- the numbers of a text, as bytes -/
def numB (T : List UInt8) (n : Nat) (s : List UInt8) (i : Nat) : UInt8 := UInt8.ofNat (Rad.num T n s i)

theorem Lay.alloc {w : World} {g : Nat} {l : List UInt8} (h : Lay w g l) (hg : g < w.heap.size) (o : Obj) : Lay (w.alloc o) g l := h.below ((Below.refl w.heap.size w).alloc (Nat.le_refl _) o) hg

theorem lay_boxed (w : World) (l : List UInt8) (t : TypeId) : Lay (w.alloc (.cells (l.map B).toArray t)) w.heap.size l :=
  ⟨there_new_at w _ _ _ _ rfl (by simp), range_new_at w _ _ _ _ rfl rfl⟩

set_option maxRecDepth 100000 in
set_option maxHeartbeats 800000 in
theorem numbers_any (T : List UInt8) (n : Nat) (hn : n ≤ 64) (s : ByteArray) (w : World) (hs : s.size ≤ reachBytes) (ea : Addr) (he : Txt w ea) :
    Calls Tryz.prog 66 #[.agg ((rdT T n).map B).toArray, .string s] w fun x w' => Below w.heap.size w w' ∧
      ((Rad.valid T n s.data.toList ∧ x = .returned (.tuple #[.slice (some ⟨w.heap.size + 1, 0, none⟩) s.size s.size, .nilIface]) ∧ Lay w' (w.heap.size + 1) ((List.range s.size).map (numB T n s.data.toList))) ∨
        (¬ Rad.valid T n s.data.toList ∧ x = .returned (.tuple #[.slice none 0 0, X ea]))) := by
  unfold reachBytes at hs
  have HE := hide he
  clear he
  obtain ⟨i0, hi, hz0, hz1, hz2⟩ := info_parts info8
  have hbox := hide (lay_boxed w (rdT T n) 104)
  generalize hC : ((rdT T n).map B).toArray = C at *
  clear hC
  go_enter Tryz.func66, Tryz.ntmps66
  go_wp2_with (refine wpList_make_row _ rfl _ _ 27 rfl 5 i0 (.int .u8 0) Tryz.underlying27 hi hz0 hz1 rfl .i64 .i64 s.size ?c1 ?c2 ?c3 ?c4 ?_)
  case c1 => rfl
  case c2 => rfl
  case c3 => rw [hz2]; omega
  case c4 => omega
  clear hz0 hz1 hz2 hi
  go_loopw [14] (fun i wr => ∃ k : Nat, k ≤ s.size ∧ i = .int .i64 k ∧ Lay wr w.heap.size (rdT T n) ∧ Lay wr (w.heap.size + 1) (upto (numB T n s.data.toList) s.size k) ∧ (∀ i, i < k → Rad.rd T n (s.data.toList.getD i 0) ≠ 0) ∧ Below w.heap.size w wr) (fun i _ => s.size - (intOf i).toNat)
  case atStart =>
    refine ⟨0, Nat.zero_le _, rfl, ?_, ?_, fun i hi => by omega, ?_⟩
    · exact hbox.out.alloc (by simp) _
    · rw [upto_zero]
      have := lay_made (w.alloc (.cells C 104)) s.size 5
      simpa using this
    · exact ((Below.refl _ _).alloc (Nat.le_refl _) _).alloc (by simp) _
  case round =>
    obtain ⟨k, hk, rfl, hr, hl, hv, hb⟩ := hrel
    by_cases hlt : k < s.size
    · have hki : (k : Int) < (s.size : Int) := by omega
      have hgd := getD_list s k hlt
      have hcell := hr.cell s[k].toNat (by rw [rdT_len]; exact s[k].toNat_lt)
      rw [rdT_at] at hcell
      have hq := Rad.rd_le T n s[k]
      have HQ : Hid (Rad.rd T n (s.data.toList.getD k 0) = Rad.rd T n s[k]) := by show _ = _; rw [hgd]
      have HN : Hid (numB T n s.data.toList k = UInt8.ofNat (Rad.rd T n s[k] - 1)) := by show _ = _; unfold numB Rad.num; rw [hgd]
      have hc : wr.cell? ⟨w.heap.size, s[k].toNat, none⟩ = some (.int .u8 ((Rad.rd T n s[k] : Nat) : Int)) := by
        rw [hcell]; unfold B; rw [Rad.toNat_of (by omega)]
      have hx := s[k].toNat_lt
      have ce : wr.cell? ⟨2, 0, none⟩ = some (X ea) := HE.out.below hb
      have f1 := hl.frozen k (by rw [upto_len]; exact hlt)
      obtain ⟨v1, hv1⟩ : ∃ v, wr.cell? ⟨w.heap.size + 1, k, none⟩ = some v := ⟨_, hl.cell k (by rw [upto_len]; exact hlt)⟩
      have HR := hide hr
      have HL := hide hl
      have HV := hide hv
      have HB := hide hb
      clear hr hl hv hb hcell hgd
      generalize Rad.rd T n s[k] = q at *
      by_cases h0 : q = 0
      · subst h0
        clear hv1 f1
        go_wp2_with fail
        go_region
        go_wp2
        go_ret2
        exact ⟨HB.out.drew, Or.inr ⟨fun hval => hval k (by rw [len_list]; exact hlt) HQ.out, rfl⟩⟩
      · have h1 : ¬ (q : Int) = 0 := by omega
        have h2 : (1 : Int) ≤ (q : Int) := by omega
        have h3 : Hid ((q : Int) - 1 = (((UInt8.ofNat (q - 1)).toNat : Nat) : Int)) := by show _ = _; rw [Rad.toNat_of (by omega)]; omega
        clear ce
        go_wp2_with fail
        go_roundw
        case rel =>
          refine ⟨k + 1, by omega, by go_num, ?_, ?_, ?_, ?_⟩
          · exact ⟨there_set HR.out.1 _ _, range_other HR.out.2 _ (Or.inl (by simp)) _⟩
          · have L1 := HL.out.set k (by rw [upto_len]; exact hlt) (UInt8.ofNat (q - 1))
            rw [upto_set _ _ _ hlt HN.out.symm] at L1
            unfold B at L1
            rw [← h3.out] at L1
            exact L1
          · intro i hi
            by_cases hik : i = k
            · subst hik; rw [HQ.out]; exact h0
            · exact HV.out i (by omega)
          · exact HB.out.setCell (Nat.le_succ _) _
        case measure => simp [intOf]; omega
    · obtain rfl : k = s.size := by omega
      rw [upto_all] at hl
      have HL := hide hl
      have HV := hide hv
      have HB := hide hb
      clear hr hl hv hb
      go_wp2
      go_ret2
      exact ⟨HB.out, Or.inl ⟨fun i hi => HV.out i (by rw [len_list] at hi; exact hi), rfl, HL.out⟩⟩

end Go.Proofs.YtocpikgcbibcoaaGreatDoor.radw

namespace Go.Proofs.YtocpikgcbibcoaaGreatDoor.radw
open Go.ChangeShapes Go.WideShapes Go.ChangeAt Go.RowKit Go.Proofs.YtocpikgcbibcoaaGreatDoor.common
attribute [local go_sem ↓] Go.wp_at_zero Go.wp_at_succ

/-- a byte out of numbers of six bits -/
def bytB (T s : List UInt8) (m : Nat) : UInt8 := UInt8.ofNat (Rad.byt (Rad.num T 64 s) m)
theorem bytB_val (T s : List UInt8) (m : Nat) : ((bytB T s m).toNat : Int) = ((Rad.byt (Rad.num T 64 s) m : Nat) : Int) := by
  unfold bytB; rw [Rad.toNat_of (Rad.byt_lt _ (Rad.num_lt (by decide) s) m)]
theorem num6_val (T s : List UInt8) (i : Nat) : (numB T 64 s i).toNat = Rad.num T 64 s i := by
  unfold numB; have := Rad.num_lt (T := T) (n := 64) (by decide) s i; rw [Rad.toNat_of (by omega)]

theorem byt0 (x : Nat → Nat) (k : Nat) : Rad.byt x (3 * k) = x (4 * k) * 4 + x (4 * k + 1) / 16 := by
  unfold Rad.byt; rw [show 3 * k % 3 = 0 by omega, show 3 * k / 3 * 4 = 4 * k by omega]; rfl
theorem byt1 (x : Nat → Nat) (k : Nat) : Rad.byt x (3 * k + 1) = x (4 * k + 1) % 16 * 16 + x (4 * k + 2) / 4 := by
  unfold Rad.byt; rw [show (3 * k + 1) % 3 = 1 by omega, show (3 * k + 1) / 3 * 4 = 4 * k by omega]; rfl
theorem byt2 (x : Nat → Nat) (k : Nat) : Rad.byt x (3 * k + 2) = x (4 * k + 2) % 4 * 64 + x (4 * k + 3) := by
  unfold Rad.byt; rw [show (3 * k + 2) % 3 = 2 by omega, show (3 * k + 2) / 3 * 4 = 4 * k by omega]; rfl

theorem tri0 (T s : List UInt8) (k : Nat) : bits .or .u8 (((numB T 64 s (4 * k)).toNat : Int) * 4 % 256) (((numB T 64 s (4 * k + 1)).toNat : Int) / 16) = ((bytB T s (3 * k)).toNat : Int) := by
  have h0 := Rad.num_lt (T := T) (n := 64) (by decide) s (4 * k)
  have h1 := Rad.num_lt (T := T) (n := 64) (by decide) s (4 * k + 1)
  rw [bytB_val, byt0, num6_val, num6_val]
  exact or_at (Rad.num T 64 s (4 * k)) (Rad.num T 64 s (4 * k + 1) / 16) 2 _ _ _ (by decide) (by omega) (by omega) (by omega) (by omega) (by omega)
theorem tri1 (T s : List UInt8) (k : Nat) : bits .or .u8 (((numB T 64 s (4 * k + 1)).toNat : Int) * 16 % 256) (((numB T 64 s (4 * k + 2)).toNat : Int) / 4) = ((bytB T s (3 * k + 1)).toNat : Int) := by
  have h1 := Rad.num_lt (T := T) (n := 64) (by decide) s (4 * k + 1)
  have h2 := Rad.num_lt (T := T) (n := 64) (by decide) s (4 * k + 2)
  rw [bytB_val, byt1, num6_val, num6_val]
  exact or_at (Rad.num T 64 s (4 * k + 1) % 16) (Rad.num T 64 s (4 * k + 2) / 4) 4 _ _ _ (by decide) (by omega) (by omega) (by omega) (by omega) (by omega)
theorem tri2 (T s : List UInt8) (k : Nat) : bits .or .u8 (((numB T 64 s (4 * k + 2)).toNat : Int) * 64 % 256) ((numB T 64 s (4 * k + 3)).toNat : Int) = ((bytB T s (3 * k + 2)).toNat : Int) := by
  have h2 := Rad.num_lt (T := T) (n := 64) (by decide) s (4 * k + 2)
  have h3 := Rad.num_lt (T := T) (n := 64) (by decide) s (4 * k + 3)
  rw [bytB_val, byt2, num6_val, num6_val]
  exact or_at (Rad.num T 64 s (4 * k + 2) % 4) (Rad.num T 64 s (4 * k + 3)) 6 _ _ _ (by decide) (by omega) rfl (by omega) (by omega) (by omega)

theorem could0 (p : Option Addr) (cap : Nat) (w : World) : Calls Tryz.prog 80 #[.slice p 0 cap] w fun e w' => e = .returned (.bool true) ∧ w' = w := by
  go_enter Tryz.func80, Tryz.ntmps80
  go_wp2
  go_ret
  exact ⟨rfl, rfl⟩
theorem could1 (p : Option Addr) (cap : Nat) (w : World) : Calls Tryz.prog 80 #[.slice p 1 cap] w fun e w' => e = .returned (.bool false) ∧ w' = w := by
  go_enter Tryz.func80, Tryz.ntmps80
  go_wp2
  go_ret
  exact ⟨rfl, rfl⟩
theorem could2 (g o cap : Nat) (x : UInt8) (m : Nat) (hm : bits .and .u8 (x.toNat : Int) 15 = (m : Int)) (w : World) (hc : w.cell? ⟨g, o + 1, none⟩ = some (B x)) : Calls Tryz.prog 80 #[.slice (some ⟨g, o, none⟩) 2 cap] w fun e w' => e = .returned (.bool (decide (m = 0))) ∧ w' = w := by
  by_cases h : m = 0
  · subst h
    go_enter Tryz.func80, Tryz.ntmps80
    go_wp2
    go_ret
    exact ⟨rfl, rfl⟩
  · have h1 : ((m : Int) == 0) = false := beq_false_of_ne (by omega)
    have h2 := hide (decide_eq_false h)
    clear h
    go_enter Tryz.func80, Tryz.ntmps80
    go_wp2
    go_ret
    rw [h2.out]
    exact ⟨rfl, rfl⟩
theorem could3 (g o cap : Nat) (x : UInt8) (m : Nat) (hm : bits .and .u8 (x.toNat : Int) 3 = (m : Int)) (w : World) (hc : w.cell? ⟨g, o + 2, none⟩ = some (B x)) : Calls Tryz.prog 80 #[.slice (some ⟨g, o, none⟩) 3 cap] w fun e w' => e = .returned (.bool (decide (m = 0))) ∧ w' = w := by
  by_cases h : m = 0
  · subst h
    go_enter Tryz.func80, Tryz.ntmps80
    go_wp2
    go_ret
    exact ⟨rfl, rfl⟩
  · have h1 : ((m : Int) == 0) = false := beq_false_of_ne (by omega)
    have h2 := hide (decide_eq_false h)
    clear h
    go_enter Tryz.func80, Tryz.ntmps80
    go_wp2
    go_ret
    rw [h2.out]
    exact ⟨rfl, rfl⟩

theorem and15' : ∀ c : Fin 256, c.val &&& 15 = c.val % 16 := by decide +kernel
theorem and3 : ∀ c : Fin 256, c.val &&& 3 = c.val % 4 := by decide +kernel

/-- does what is left at the end keep its bits? -/
theorem could_any (T s : List UInt8) (W n g : Nat) (hn : n = s.length) (hW1 : 4 * W ≤ n) (hW2 : n < 4 * W + 4) (w : World) (hl : Lay w g ((List.range n).map (numB T 64 s))) :
    Calls Tryz.prog 80 #[.slice (if n = 4 * W then some ⟨g, 0, none⟩ else some ⟨g, 4 * W, none⟩) (n - 4 * W) (n - 4 * W)] w fun e w' => ((Rad.restOk T s ∧ e = .returned (.bool true)) ∨ (¬ Rad.restOk T s ∧ e = .returned (.bool false))) ∧ w' = w := by
  unfold Rad.restOk
  rw [← hn]
  have hlen : ((List.range n).map (numB T 64 s)).length = n := by simp
  by_cases h0 : n = 4 * W
  · rw [show n - 4 * W = 0 by omega]
    refine (could0 _ _ w).mono ?_
    rintro e w' ⟨rfl, rfl⟩
    exact ⟨Or.inl ⟨⟨by omega, fun h => by omega, fun h => by omega⟩, rfl⟩, rfl⟩
  · rw [if_neg h0]
    by_cases h1 : n = 4 * W + 1
    · rw [show n - 4 * W = 1 by omega]
      refine (could1 _ _ w).mono ?_
      rintro e w' ⟨rfl, rfl⟩
      exact ⟨Or.inr ⟨fun h => h.1 (by omega), rfl⟩, rfl⟩
    · by_cases h2 : n = 4 * W + 2
      · rw [show n - 4 * W = 2 by omega]
        have hc := hl.cell (4 * W + 1) (by omega)
        rw [Rad.getD_map, if_pos (by omega)] at hc
        have hm : bits .and .u8 ((numB T 64 s (4 * W + 1)).toNat : Int) 15 = ((Rad.num T 64 s (4 * W + 1) % 16 : Nat) : Int) := by
          rw [← num6_val, ← and15' ⟨_, (numB T 64 s (4 * W + 1)).toNat_lt⟩]
          exact and_nat _ 15 (by decide)
        refine (could2 g (4 * W) 2 _ _ hm w hc).mono ?_
        rintro e w' ⟨rfl, rfl⟩
        have hx : n - 1 = 4 * W + 1 := by omega
        rw [hx]
        by_cases hz : Rad.num T 64 s (4 * W + 1) % 16 = 0
        · exact ⟨Or.inl ⟨⟨by omega, fun _ => hz, fun h => by omega⟩, by rw [decide_eq_true hz]⟩, rfl⟩
        · exact ⟨Or.inr ⟨fun h => hz (h.2.1 (by omega)), by rw [decide_eq_false hz]⟩, rfl⟩
      · rw [show n - 4 * W = 3 by omega]
        have hc := hl.cell (4 * W + 2) (by omega)
        rw [Rad.getD_map, if_pos (by omega)] at hc
        have hm : bits .and .u8 ((numB T 64 s (4 * W + 2)).toNat : Int) 3 = ((Rad.num T 64 s (4 * W + 2) % 4 : Nat) : Int) := by
          rw [← num6_val, ← and3 ⟨_, (numB T 64 s (4 * W + 2)).toNat_lt⟩]
          exact and_nat _ 3 (by decide)
        refine (could3 g (4 * W) 3 _ _ hm w hc).mono ?_
        rintro e w' ⟨rfl, rfl⟩
        have hx : n - 1 = 4 * W + 2 := by omega
        rw [hx]
        by_cases hz : Rad.num T 64 s (4 * W + 2) % 4 = 0
        · exact ⟨Or.inl ⟨⟨by omega, fun h => by omega, fun _ => hz⟩, by rw [decide_eq_true hz]⟩, rfl⟩
        · exact ⟨Or.inr ⟨fun h => hz (h.2.2 (by omega)), by rw [decide_eq_false hz]⟩, rfl⟩

theorem join0 (p : Option Addr) (r cap : Nat) (hr : r = 0) (v : Value) (w : World) : Calls Tryz.prog 81 #[.slice p r cap, v] w fun e w' => e = .returned (.tuple #[]) ∧ w' = w := by
  subst hr
  go_enter Tryz.func81, Tryz.ntmps81
  go_wp2_with fail
  go_end0
  exact ⟨rfl, rfl⟩

set_option maxRecDepth 100000 in
set_option maxHeartbeats 400000 in
theorem join2_core (g o cap g2 o2 cap2 : Nat) (w : World) (l : List UInt8) (hl : Lay w g2 l) (ho : o2 < l.length) (x0 x1 y0 : UInt8) (c0 : w.cell? ⟨g, o, none⟩ = some (B x0)) (c1 : w.cell? ⟨g, o + 1, none⟩ = some (B x1))
    (h0 : bits .or .u8 ((x0.toNat : Int) * 4 % 256) ((x1.toNat : Int) / 16) = (y0.toNat : Int)) :
    Calls Tryz.prog 81 #[.slice (some ⟨g, o, none⟩) 2 cap, .slice (some ⟨g2, o2, none⟩) 1 cap2] w fun e w' => e = .returned (.tuple #[]) ∧ Lay w' g2 (l.set o2 y0) ∧ ∀ b, b ≤ g2 → Below b w w' := by
  have f0 := hl.frozen o2 ho
  obtain ⟨v0, hv0⟩ : ∃ v, w.cell? ⟨g2, o2, none⟩ = some v := ⟨_, hl.cell o2 ho⟩
  have HL := hide hl
  clear hl
  go_enter Tryz.func81, Tryz.ntmps81
  go_wp2_with fail
  go_region
  go_wp2
  go_end0
  refine ⟨rfl, ?_, fun b hb => ?_⟩
  · exact (HL.out.set o2 ho y0).drew
  · exact ((Below.refl _ _).setCell hb _).drew

set_option maxRecDepth 100000 in
set_option maxHeartbeats 400000 in
theorem join3_core (g o cap g2 o2 cap2 : Nat) (hne : g2 ≠ g) (w : World) (l : List UInt8) (hl : Lay w g2 l) (ho : o2 + 1 < l.length) (x0 x1 x2 y0 y1 : UInt8) (c0 : w.cell? ⟨g, o, none⟩ = some (B x0)) (c1 : w.cell? ⟨g, o + 1, none⟩ = some (B x1)) (c2 : w.cell? ⟨g, o + 2, none⟩ = some (B x2))
    (h0 : bits .or .u8 ((x0.toNat : Int) * 4 % 256) ((x1.toNat : Int) / 16) = (y0.toNat : Int)) (h1 : bits .or .u8 ((x1.toNat : Int) * 16 % 256) ((x2.toNat : Int) / 4) = (y1.toNat : Int)) :
    Calls Tryz.prog 81 #[.slice (some ⟨g, o, none⟩) 3 cap, .slice (some ⟨g2, o2, none⟩) 2 cap2] w fun e w' => e = .returned (.tuple #[]) ∧ Lay w' g2 ((l.set (o2 + 1) y1).set o2 y0) ∧ ∀ b, b ≤ g2 → Below b w w' := by
  have f0 := hl.frozen o2 (by omega)
  have f1 := hl.frozen (o2 + 1) ho
  obtain ⟨v0, hv0⟩ : ∃ v, w.cell? ⟨g2, o2, none⟩ = some v := ⟨_, hl.cell o2 (by omega)⟩
  obtain ⟨v1, hv1⟩ : ∃ v, w.cell? ⟨g2, o2 + 1, none⟩ = some v := ⟨_, hl.cell (o2 + 1) ho⟩
  have n0 : (⟨g2, o2 + 1, none⟩ : Addr) ≠ ⟨g, o, none⟩ := fun he => hne (Addr.mk.inj he).1
  have n1 : (⟨g2, o2 + 1, none⟩ : Addr) ≠ ⟨g, o + 1, none⟩ := fun he => hne (Addr.mk.inj he).1
  have HL := hide hl
  clear hl
  go_enter Tryz.func81, Tryz.ntmps81
  go_wp2_with fail
  go_region
  go_wp2_with fail
  go_region
  go_wp2
  go_end0
  refine ⟨rfl, ?_, fun b hb => ?_⟩
  · exact ((HL.out.set (o2 + 1) ho y1).drew.set o2 (by simp; omega) y0).drew
  · exact ((((Below.refl _ _).setCell hb _).drew).setCell hb _).drew

end Go.Proofs.YtocpikgcbibcoaaGreatDoor.radw

namespace Go.Proofs.YtocpikgcbibcoaaGreatDoor.radw
open Go.ChangeShapes Go.WideShapes Go.ChangeAt Go.RowKit Go.Proofs.YtocpikgcbibcoaaGreatDoor.common
attribute [local go_sem ↓] Go.wp_at_zero Go.wp_at_succ

theorem joinRest_any (T s : List UInt8) (W n M g g2 : Nat) (hgg : g2 ≠ g) (hW1 : 4 * W ≤ n) (hW2 : n < 4 * W + 4) (hr : n % 4 ≠ 1) (hM : M = Rad.n8 n) (w : World) (hl : Lay w g ((List.range n).map (numB T 64 s))) (hl2 : Lay w g2 (upto (bytB T s) M (3 * W))) :
    Calls Tryz.prog 81 #[.slice (if n = 4 * W then some ⟨g, 0, none⟩ else some ⟨g, 4 * W, none⟩) (n - 4 * W) (n - 4 * W), .slice (if M = 3 * W then some ⟨g2, 0, none⟩ else some ⟨g2, 3 * W, none⟩) (M - 3 * W) (M - 3 * W)] w
      fun e w' => e = .returned (.tuple #[]) ∧ Lay w' g2 ((List.range M).map (bytB T s)) ∧ ∀ b, b ≤ g2 → Below b w w' := by
  rw [← upto_all]
  have hlen : ((List.range n).map (numB T 64 s)).length = n := by simp
  unfold Rad.n8 at hM
  by_cases h0 : n = 4 * W
  · obtain rfl : M = 3 * W := by omega
    refine (join0 _ _ _ (by omega) _ w).mono ?_
    rintro e w' ⟨rfl, rfl⟩
    exact ⟨rfl, hl2, fun b _ => Below.refl _ _⟩
  · have c0 := hl.cell (4 * W) (by omega)
    have c1 := hl.cell (4 * W + 1) (by omega)
    rw [Rad.getD_map, if_pos (by omega)] at c0 c1
    rw [if_neg h0]
    by_cases h2 : n = 4 * W + 2
    · obtain rfl : M = 3 * W + 1 := by omega
      rw [if_neg (by omega), show n - 4 * W = 2 by omega, show 3 * W + 1 - 3 * W = 1 by omega]
      refine (join2_core g (4 * W) 2 g2 (3 * W) 1 w _ hl2 (by rw [upto_len]; omega) _ _ _ c0 c1 (tri0 T s W)).mono ?_
      rintro e w' ⟨rfl, h, hb⟩
      rw [upto_set _ _ _ (by omega) rfl] at h
      exact ⟨rfl, h, hb⟩
    · obtain rfl : M = 3 * W + 2 := by omega
      have c2 := hl.cell (4 * W + 2) (by omega)
      rw [Rad.getD_map, if_pos (by omega)] at c2
      rw [if_neg (by omega), show n - 4 * W = 3 by omega, show 3 * W + 2 - 3 * W = 2 by omega]
      refine (join3_core g (4 * W) 3 g2 (3 * W) 2 hgg w _ hl2 (by rw [upto_len]; omega) _ _ _ _ _ c0 c1 c2 (tri0 T s W) (tri1 T s W)).mono ?_
      rintro e w' ⟨rfl, h, hb⟩
      rw [fill1] at h
      exact ⟨rfl, h, hb⟩

theorem un64_of (T s : List UInt8) (M : Nat) (h : M = Rad.n8 s.length) : (List.range M).map (bytB T s) = Rad.un64 T s := by
  subst h; rfl


set_option maxRecDepth 100000 in
set_option maxHeartbeats 1600000 in
theorem joinSixes_whole (T s : List UInt8) (W g : Nat) (hn : 4 * W = s.length) (hs : 4 * W ≤ 140737488351232) (w : World) (hgw : g < w.heap.size ∨ 4 * W = 0) (hl : Lay w g ((List.range (4 * W)).map (numB T 64 s))) (ea : Addr) (he : Txt w ea) :
    Calls Tryz.prog 67 #[.slice (some ⟨g, 0, none⟩) (4 * W) (4 * W)] w fun x w' => Below w.heap.size w w' ∧
      ((Rad.restOk T s ∧ x = .returned (.tuple #[.string ⟨(Rad.un64 T s).toArray⟩, .nilIface])) ∨ (¬ Rad.restOk T s ∧ x = .returned (.tuple #[.string ⟨#[]⟩, X ea]))) := by
  have hW0 : 4 * (W : Int) / 4 = (W : Int) := by omega
  have hM0 : 6 * (4 * (W : Int)) / 8 = 3 * (W : Int) := by omega
  have HM8 : Hid (3 * W = Rad.n8 s.length) := by show _ = _; rw [← hn]; unfold Rad.n8; omega
  have HL := hide hl
  have HE := hide he
  have HGW := hide hgw
  have HN := hide hn
  clear hl he hgw hn
  obtain ⟨i0, hi, hz0, hz1, hz2⟩ := info_parts info8
  have hco := could_any T s W (4 * W) g HN.out (by omega) (by omega) w HL.out
  rw [if_pos rfl, show 4 * W - 4 * W = 0 by omega] at hco
  have HCO := hide hco
  clear hco
  have n4 : (4 * (W : Int)).toNat = 4 * W := by omega
  have n3 : (3 * (W : Int)).toNat = 3 * W := by omega
  have ce : w.cell? ⟨2, 0, none⟩ = some (X ea) := HE.out
  go_enter Tryz.func67, Tryz.ntmps67
  go_wp2_with fail
  refine HCO.out.mono ?_
  rintro x w' ⟨⟨hok, rfl⟩ | ⟨hok, rfl⟩, rfl⟩
  · have HOK := hide hok
    clear hok HCO ce
    go_wp2_with (refine wpList_make_row _ rfl _ _ 27 rfl 5 i0 (.int .u8 0) Tryz.underlying27 hi hz0 hz1 rfl .i64 .i64 (3 * W) ?c1 ?c2 ?c3 ?c4 ?_)
    case c1 => exact int_eq (by omega)
    case c2 => exact int_eq (by omega)
    case c3 => rw [hz2]; omega
    case c4 => omega
    clear hz0 hz1 hz2 hi
    go_loopw [27] (fun i wr => ∃ k : Nat, k ≤ W ∧ i = .int .i64 k ∧ Lay wr w'.heap.size (upto (bytB T s) (3 * W) (3 * k)) ∧ Below w'.heap.size w' wr) (fun i _ => W - (intOf i).toNat)
    case atStart => exact ⟨0, Nat.zero_le _, rfl, by rw [upto_zero]; exact lay_made _ _ _, (Below.refl _ _).alloc (Nat.le_refl _) _⟩
    case round =>
      obtain ⟨k, hk, rfl, hl, hb⟩ := hrel
      have HL2 := hide hl
      have HB := hide hb
      clear hl hb
      by_cases hlt : k < W
      · have hgl : g < w'.heap.size := by
          rcases HGW.out with h | h
          · exact h
          · omega
        have hlg := HL.out.below HB.out hgl
        have hlen : ((List.range (4 * W)).map (numB T 64 s)).length = 4 * W := by simp
        have x0 := hlg.cell (4 * k) (by omega)
        have x1 := hlg.cell (4 * k + 1) (by omega)
        have x2 := hlg.cell (4 * k + 2) (by omega)
        have x3 := hlg.cell (4 * k + 3) (by omega)
        rw [Rad.getD_map, if_pos (by omega)] at x0 x1 x2 x3
        have hlen2 := upto_len (bytB T s) (3 * W) (3 * k)
        have f0 := HL2.out.frozen (3 * k) (by omega)
        have f1 := HL2.out.frozen (3 * k + 1) (by omega)
        have f2 := HL2.out.frozen (3 * k + 2) (by omega)
        obtain ⟨v0, hv0⟩ : ∃ v, wr.cell? ⟨w'.heap.size, 3 * k, none⟩ = some v := ⟨_, HL2.out.cell _ (by omega)⟩
        obtain ⟨v1, hv1⟩ : ∃ v, wr.cell? ⟨w'.heap.size, 3 * k + 1, none⟩ = some v := ⟨_, HL2.out.cell _ (by omega)⟩
        obtain ⟨v2, hv2⟩ : ∃ v, wr.cell? ⟨w'.heap.size, 3 * k + 2, none⟩ = some v := ⟨_, HL2.out.cell _ (by omega)⟩
        have t0 := tri0 T s k
        have t1 := tri1 T s k
        have t2 := tri2 T s k
        have hne : ∀ i j, (⟨w'.heap.size, i, none⟩ : Addr) ≠ ⟨g, j, none⟩ := fun i j he => by have := (Addr.mk.inj he).1; omega
        have e01 := hne (3 * k) (4 * k + 1)
        have e02 := hne (3 * k) (4 * k + 2)
        have e03 := hne (3 * k) (4 * k + 3)
        have e12 := hne (3 * k + 1) (4 * k + 2)
        have e13 := hne (3 * k + 1) (4 * k + 3)
        generalize numB T 64 s (4 * k) = z0 at *
        generalize numB T 64 s (4 * k + 1) = z1 at *
        generalize numB T 64 s (4 * k + 2) = z2 at *
        generalize numB T 64 s (4 * k + 3) = z3 at *
        generalize hy0 : bytB T s (3 * k) = y0 at t0
        generalize hy1 : bytB T s (3 * k + 1) = y1 at t1
        generalize hy2 : bytB T s (3 * k + 2) = y2 at t2
        have Y0 := hide hy0.symm
        have Y1 := hide hy1.symm
        have Y2 := hide hy2.symm
        have m0 : (4 * (k : Int)).toNat = 4 * k := by omega
        have m1 : (4 * (k : Int) + 4).toNat = 4 * k + 4 := by omega
        have m2 : (3 * (k : Int)).toNat = 3 * k := by omega
        have m3 : (3 * (k : Int) + 3).toNat = 3 * k + 3 := by omega
        have l0 : (0 : Int) ≤ 4 * (k : Int) ∧ 4 * (k : Int) + 4 ≤ 4 * (W : Int) := by omega
        have l1 : (0 : Int) ≤ 3 * (k : Int) ∧ 3 * (k : Int) + 3 ≤ 3 * (W : Int) := by omega
        clear hne hlen hlen2 hlg hy0 hy1 hy2 n4 n3
        go_wp2_with fail
        go_region
        go_wp2_with fail
        go_region
        go_wp2_with fail
        go_region
        go_wp2_with fail
        go_region
        go_wp2
        go_roundw
        case rel =>
          refine ⟨k + 1, by omega, by go_num, ?_, ?_⟩
          · have L0 := HL2.out.set (3 * k) (by rw [upto_len]; omega) y0
            rw [upto_set _ _ _ (by omega) Y0.out] at L0
            have L1 := L0.set (3 * k + 1) (by rw [upto_len]; omega) y1
            rw [upto_set _ _ _ (by omega) Y1.out] at L1
            have L2 := L1.set (3 * k + 2) (by rw [upto_len]; omega) y2
            rw [upto_set _ _ _ (by omega) Y2.out] at L2
            exact L2.drew.drew.drew.drew
          · exact ((((HB.out.setCell (Nat.le_refl _) _).setCell (Nat.le_refl _) _).setCell (Nat.le_refl _) _).drew.drew.drew.drew)
        case measure => simp [intOf]; omega
      · obtain rfl : k = W := by omega
        have hl := HL2.out
        rw [upto_all, un64_of _ _ _ HM8.out] at hl
        have hconv := hl.conv (cap := 3 * k) (n := 3 * k) (by rw [Rad.un64_len, ← HM8.out])
        clear hl
        go_wp2_with (go_at_call 81; refine (join0 _ _ _ rfl _ _).mono ?_; rintro x w2 ⟨rfl, rfl⟩)
        go_ret2
        exact ⟨HB.out, Or.inl ⟨HOK.out, rfl⟩⟩
  · have HOK := hide hok
    clear hok HCO hz0 hz1 hz2 hi
    go_wp2_with fail
    go_region
    go_wp2
    go_ret2
    exact ⟨(Below.refl _ _).drew, Or.inr ⟨HOK.out, rfl⟩⟩

end Go.Proofs.YtocpikgcbibcoaaGreatDoor.radw

namespace Go.Proofs.YtocpikgcbibcoaaGreatDoor.radw
open Go.ChangeShapes Go.WideShapes Go.ChangeAt Go.RowKit Go.Proofs.YtocpikgcbibcoaaGreatDoor.common
attribute [local go_sem ↓] Go.wp_at_zero Go.wp_at_succ

set_option maxRecDepth 100000 in
set_option maxHeartbeats 1600000 in
theorem joinSixes_rest (T s : List UInt8) (n g : Nat) (hn : n = s.length) (hs : n ≤ 140737488351232) (w : World) (hgw : g < w.heap.size ∨ n = 0) (hl : Lay w g ((List.range (n)).map (numB T 64 s))) (ea : Addr) (he : Txt w ea) (W : Nat) (M : Nat) (hW : (n : Int) / 4 = (W : Int)) (hM : 6 * (n : Int) / 8 = (M : Int)) (hn4 : ¬ n = 4 * W) :
    Calls Tryz.prog 67 #[.slice (some ⟨g, 0, none⟩) (n) (n)] w fun x w' => Below w.heap.size w w' ∧
      ((Rad.restOk T s ∧ x = .returned (.tuple #[.string ⟨(Rad.un64 T s).toArray⟩, .nilIface])) ∨ (¬ Rad.restOk T s ∧ x = .returned (.tuple #[.string ⟨#[]⟩, X ea]))) := by
  have hW1 : 4 * W ≤ n := by omega
  have hW2 : n < 4 * W + 4 := by omega
  have hM1 : 8 * M ≤ 6 * n := by omega
  have hM2 : 6 * n < 8 * M + 8 := by omega
  have HM8 : Hid (M = Rad.n8 s.length) := by show _ = _; rw [← hn]; unfold Rad.n8; omega
  have HMN : Hid (M = Rad.n8 n) := by show _ = _; unfold Rad.n8; omega
  have HL := hide hl
  have HE := hide he
  have HGW := hide hgw
  have HN := hide hn
  clear hl he hgw hn
  obtain ⟨i0, hi, hz0, hz1, hz2⟩ := info_parts info8
  have hco := could_any T s W (n) g HN.out (by omega) (by omega) w HL.out
  rw [if_neg hn4] at hco
  have HCO := hide hco
  clear hco
  have n4 : (4 * (W : Int)).toNat = 4 * W := by omega
  have n3 : (3 * (W : Int)).toNat = 3 * W := by omega
  have ce : w.cell? ⟨2, 0, none⟩ = some (X ea) := HE.out
  go_enter Tryz.func67, Tryz.ntmps67
  go_wp2_with fail
  refine HCO.out.mono ?_
  rintro x w' ⟨⟨hok, rfl⟩ | ⟨hok, rfl⟩, rfl⟩
  · have HOK := hide hok
    have hr4 : n % 4 ≠ 1 := by have := hok.1; rw [← HN.out] at this; exact this
    have hM3 : ¬ M = 3 * W := by omega
    clear hok HCO ce
    go_wp2_with (refine wpList_make_row _ rfl _ _ 27 rfl 5 i0 (.int .u8 0) Tryz.underlying27 hi hz0 hz1 rfl .i64 .i64 (M) ?c1 ?c2 ?c3 ?c4 ?_)
    case c1 => exact int_eq (by omega)
    case c2 => exact int_eq (by omega)
    case c3 => rw [hz2]; omega
    case c4 => omega
    clear hz0 hz1 hz2 hi
    go_loopw [27] (fun i wr => ∃ k : Nat, k ≤ W ∧ i = .int .i64 k ∧ Lay wr w'.heap.size (upto (bytB T s) (M) (3 * k)) ∧ Below w'.heap.size w' wr) (fun i _ => W - (intOf i).toNat)
    case atStart => exact ⟨0, Nat.zero_le _, rfl, by rw [upto_zero]; exact lay_made _ _ _, (Below.refl _ _).alloc (Nat.le_refl _) _⟩
    case round =>
      obtain ⟨k, hk, rfl, hl, hb⟩ := hrel
      have HL2 := hide hl
      have HB := hide hb
      clear hl hb
      by_cases hlt : k < W
      · have hgl : g < w'.heap.size := by
          rcases HGW.out with h | h
          · exact h
          · omega
        have hlg := HL.out.below HB.out hgl
        have hlen : ((List.range (n)).map (numB T 64 s)).length = n := by simp
        have x0 := hlg.cell (4 * k) (by omega)
        have x1 := hlg.cell (4 * k + 1) (by omega)
        have x2 := hlg.cell (4 * k + 2) (by omega)
        have x3 := hlg.cell (4 * k + 3) (by omega)
        rw [Rad.getD_map, if_pos (by omega)] at x0 x1 x2 x3
        have hlen2 := upto_len (bytB T s) (M) (3 * k)
        have f0 := HL2.out.frozen (3 * k) (by omega)
        have f1 := HL2.out.frozen (3 * k + 1) (by omega)
        have f2 := HL2.out.frozen (3 * k + 2) (by omega)
        obtain ⟨v0, hv0⟩ : ∃ v, wr.cell? ⟨w'.heap.size, 3 * k, none⟩ = some v := ⟨_, HL2.out.cell _ (by omega)⟩
        obtain ⟨v1, hv1⟩ : ∃ v, wr.cell? ⟨w'.heap.size, 3 * k + 1, none⟩ = some v := ⟨_, HL2.out.cell _ (by omega)⟩
        obtain ⟨v2, hv2⟩ : ∃ v, wr.cell? ⟨w'.heap.size, 3 * k + 2, none⟩ = some v := ⟨_, HL2.out.cell _ (by omega)⟩
        have t0 := tri0 T s k
        have t1 := tri1 T s k
        have t2 := tri2 T s k
        have hne : ∀ i j, (⟨w'.heap.size, i, none⟩ : Addr) ≠ ⟨g, j, none⟩ := fun i j he => by have := (Addr.mk.inj he).1; omega
        have e01 := hne (3 * k) (4 * k + 1)
        have e02 := hne (3 * k) (4 * k + 2)
        have e03 := hne (3 * k) (4 * k + 3)
        have e12 := hne (3 * k + 1) (4 * k + 2)
        have e13 := hne (3 * k + 1) (4 * k + 3)
        generalize numB T 64 s (4 * k) = z0 at *
        generalize numB T 64 s (4 * k + 1) = z1 at *
        generalize numB T 64 s (4 * k + 2) = z2 at *
        generalize numB T 64 s (4 * k + 3) = z3 at *
        generalize hy0 : bytB T s (3 * k) = y0 at t0
        generalize hy1 : bytB T s (3 * k + 1) = y1 at t1
        generalize hy2 : bytB T s (3 * k + 2) = y2 at t2
        have Y0 := hide hy0.symm
        have Y1 := hide hy1.symm
        have Y2 := hide hy2.symm
        have m0 : (4 * (k : Int)).toNat = 4 * k := by omega
        have m1 : (4 * (k : Int) + 4).toNat = 4 * k + 4 := by omega
        have m2 : (3 * (k : Int)).toNat = 3 * k := by omega
        have m3 : (3 * (k : Int) + 3).toNat = 3 * k + 3 := by omega
        have l0 : (0 : Int) ≤ 4 * (k : Int) ∧ 4 * (k : Int) + 4 ≤ (n : Int) := by omega
        have l1 : (0 : Int) ≤ 3 * (k : Int) ∧ 3 * (k : Int) + 3 ≤ (M : Int) := by omega
        clear hne hlen hlen2 hlg hy0 hy1 hy2 n4 n3 hr4 hM3
        go_wp2_with fail
        go_region
        go_wp2_with fail
        go_region
        go_wp2_with fail
        go_region
        go_wp2_with fail
        go_region
        go_wp2
        go_roundw
        case rel =>
          refine ⟨k + 1, by omega, by go_num, ?_, ?_⟩
          · have L0 := HL2.out.set (3 * k) (by rw [upto_len]; omega) y0
            rw [upto_set _ _ _ (by omega) Y0.out] at L0
            have L1 := L0.set (3 * k + 1) (by rw [upto_len]; omega) y1
            rw [upto_set _ _ _ (by omega) Y1.out] at L1
            have L2 := L1.set (3 * k + 2) (by rw [upto_len]; omega) y2
            rw [upto_set _ _ _ (by omega) Y2.out] at L2
            exact L2.drew.drew.drew.drew
          · exact ((((HB.out.setCell (Nat.le_refl _) _).setCell (Nat.le_refl _) _).setCell (Nat.le_refl _) _).drew.drew.drew.drew)
        case measure => simp [intOf]; omega
      · obtain rfl : k = W := by omega
        have hgl : g < w'.heap.size := by
          rcases HGW.out with h | h
          · exact h
          · omega
        have hj := joinRest_any T s k n M g w'.heap.size (by omega) (by omega) (by omega) hr4 HMN.out wr (HL.out.below HB.out hgl) HL2.out
        rw [if_neg hn4, if_neg hM3] at hj
        have HJ := hide hj
        clear hj
        go_wp2_with fail
        refine HJ.out.mono ?_
        rintro x w2 ⟨rfl, hl3, hb3⟩
        rw [un64_of _ _ _ HM8.out] at hl3
        have hconv := hl3.conv (cap := M) (n := M) (by rw [Rad.un64_len, ← HM8.out])
        have HB3 := hide (HB.out.trans (hb3 _ (Nat.le_refl _)))
        clear hl3 hb3
        go_wp2
        go_ret2
        exact ⟨HB3.out, Or.inl ⟨HOK.out, rfl⟩⟩
  · have HOK := hide hok
    clear hok HCO hz0 hz1 hz2 hi
    go_wp2_with fail
    go_region
    go_wp2
    go_ret2
    exact ⟨(Below.refl _ _).drew, Or.inr ⟨HOK.out, rfl⟩⟩

end Go.Proofs.YtocpikgcbibcoaaGreatDoor.radw

namespace Go.Proofs.YtocpikgcbibcoaaGreatDoor.radw
open Go.ChangeShapes Go.WideShapes Go.ChangeAt Go.RowKit Go.Proofs.YtocpikgcbibcoaaGreatDoor.common

theorem joinSixes_any (T : List UInt8) (s : ByteArray) (g : Nat) (hs : s.size ≤ reachBytes) (w : World) (hgw : g < w.heap.size ∨ s.size = 0) (hl : Lay w g ((List.range s.size).map (numB T 64 s.data.toList))) (ea : Addr) (he : Txt w ea) :
    Calls Tryz.prog 67 #[.slice (some ⟨g, 0, none⟩) s.size s.size] w fun x w' => Below w.heap.size w w' ∧
      ((Rad.restOk T s.data.toList ∧ x = .returned (.tuple #[.string ⟨(Rad.un64 T s.data.toList).toArray⟩, .nilIface])) ∨ (¬ Rad.restOk T s.data.toList ∧ x = .returned (.tuple #[.string ⟨#[]⟩, X ea]))) := by
  unfold reachBytes at hs
  have hn := (len_list s).symm
  generalize s.size = n at *
  by_cases h : n = 4 * (n / 4)
  · generalize n / 4 = W at h
    subst h
    exact joinSixes_whole T s.data.toList W g hn hs w hgw hl ea he
  · exact joinSixes_rest T s.data.toList n g hn hs w hgw hl ea he (n / 4) (6 * n / 8) (by omega) (by omega) h

end Go.Proofs.YtocpikgcbibcoaaGreatDoor.radw
