import Derived.Test.YtcpflfpgnbihiaaGreatDoorMLookWalks
namespace Go.Proofs.YtcpflfpgnbihiaaGreatDoor.gtn
open Go.Proofs.YtcpflfpgnbihiaaGreatDoor.lst (PB Lies takeP)
open Go.ChangeShapes Go.WideShapes Go.ChangeAt Go.RowKit Go.Proofs.YtcpflfpgnbihiaaGreatDoor.common
attribute [local go_sem ↓] Go.wp_at_zero Go.wp_at_succ

abbrev emp : ByteArray := ⟨#[]⟩
/-- what a parameter's pairs give, one pair more -/
def step (n : ByteArray) (a : ByteArray × Nat) (p : PB) : ByteArray × Nat := if p.1 = n ∧ p.2 ≠ emp then (if a.2 = 0 then p.2 else a.1, a.2 + 1) else a
def getOf (l : List PB) (n : ByteArray) : ByteArray × Nat := l.foldl (step n) (emp, 0)
theorem getOf_snoc (l : List PB) (n : ByteArray) (p : PB) : getOf (l ++ [p]) n = step n (getOf l n) p := by unfold getOf; rw [List.foldl_append]; rfl
theorem getOf_le (l : List PB) (n : ByteArray) : (getOf l n).2 ≤ l.length := by
  unfold getOf
  have : ∀ (l : List PB) (a : ByteArray × Nat), (l.foldl (step n) a).2 ≤ a.2 + l.length := by
    intro l
    induction l with
    | nil => intro a; exact Nat.le_refl _
    | cons p r ih =>
      intro a
      have h1 := ih (step n a p)
      have h2 : (step n a p).2 ≤ a.2 + 1 := by unfold step; split <;> simp
      rw [List.foldl_cons, List.length_cons]; omega
  have := this l (emp, 0)
  simpa using this

theorem ba_ext {a b : ByteArray} (h : a.data.toList = b.data.toList) : a = b := by
  apply ByteArray.ext; apply Array.toList_inj.1; exact h
theorem ne_list {a b : ByteArray} (h : a ≠ b) : (a.toList == b.toList) = false := by
  rw [ByteArray.toList_eq, ByteArray.toList_eq]
  exact beq_false_of_ne fun e => h (ba_ext e)

set_option maxRecDepth 100000 in
set_option maxHeartbeats 1600000 in
theorem get_any (v : Value) (l : List PB) (n : ByteArray) (w : World) (hl : Lies w v l) (hs : l.length ≤ 4611686018427387904) :
    Calls Tryz.prog 11 #[v, .string n] w fun e w' => e = .returned (.tuple #[.string (getOf l n).1, .int .i64 ((getOf l n).2 : Int)]) ∧ Below w.heap.size w w' := by
  obtain ⟨oa, ca, rfl, hca⟩ := hl
  have HA := hide hca
  clear hca
  go_enter Tryz.func11, Tryz.ntmps11
  go_wp2_with fail
  go_loopw [6, 7, 12] (fun f c i wr => ∃ k : Nat, k ≤ l.length ∧ i = .int .i64 k ∧ f = .string (getOf (l.take k) n).1 ∧ c = .int .i64 ((getOf (l.take k) n).2 : Int) ∧ Below w.heap.size w wr) (fun _ _ i _ => l.length - (intOf i).toNat)
  case atStart => exact ⟨0, Nat.zero_le _, rfl, rfl, rfl, Below.refl _ _⟩
  case round =>
    obtain ⟨k, hk, rfl, rfl, rfl, hnx⟩ := hrel
    have hsz := hnx.size
    have hle := getOf_le (l.take k) n
    have hle2 : (l.take k).length ≤ k := by rw [List.length_take]; exact Nat.min_le_left _ _
    by_cases hlt : k < l.length
    · have hki : (k : Int) < (l.length : Int) := by omega
      obtain ⟨b, o, rfl, hb, c0, c1⟩ := HA.out k hlt
      have d0 := (hnx.cell (p := ⟨b, o + k * 2, none⟩) hb).trans c0
      have d1 := (hnx.cell (p := ⟨b, o + k * 2 + 1, none⟩) hb).trans c1
      have HSN : Hid (getOf (l.take (k + 1)) n = step n (getOf (l.take k) n) l[k]) := by show _ = _; rw [takeP l k hlt, getOf_snoc]
      have HX := hide hnx
      clear hnx c0 c1
      generalize l[k] = p at *
      obtain ⟨pn, pv⟩ := p
      generalize getOf (l.take k) n = a at *
      obtain ⟨af, ac⟩ := a
      simp only [] at d0 d1 hle ⊢
      have k0 : (0 : Int) ≤ (k : Int) := Int.natCast_nonneg _
      by_cases h1 : pn = n
      · subst h1
        by_cases h2 : pv = emp
        · subst h2
          have HS : Hid (getOf (l.take (k + 1)) pn = (af, ac)) := by show _ = _; rw [HSN.out]; unfold step; rw [if_neg (fun h => h.2 rfl)]
          go_wp2_with fail
          go_roundw
          case rel => exact ⟨k + 1, by omega, by go_num, by rw [HS.out], by rw [HS.out], HX.out.alloc hsz _⟩
          case measure => simp [intOf]; omega
        · have HS : Hid (getOf (l.take (k + 1)) pn = (if ac = 0 then pv else af, ac + 1)) := by show _ = _; rw [HSN.out]; unfold step; rw [if_pos ⟨rfl, h2⟩]
          have hne : (pv.toList == (⟨#[]⟩ : ByteArray).toList) = false := ne_list h2
          have hne2 : ¬ pv.toList = [] := fun e => h2 (ba_ext (by rw [ByteArray.toList_eq] at e; rw [e]))
          have hne3 : (pv.toList == []) = false := beq_false_of_ne hne2
          have hne4 : pv.toList.isEmpty = false := by cases hh : pv.toList with
            | nil => exact absurd hh hne2
            | cons _ _ => rfl
          by_cases h3 : ac = 0
          · subst h3
            rw [if_pos rfl] at HS
            go_wp2_with fail
            go_roundw
            case rel => exact ⟨k + 1, by omega, by go_num, by rw [HS.out], by rw [HS.out]; rfl, HX.out.alloc hsz _⟩
            case measure => simp [intOf]; omega
          · have h3i : ¬ (ac : Int) = 0 := by omega
            rw [if_neg h3] at HS
            go_wp2_with fail
            go_roundw
            case rel => exact ⟨k + 1, by omega, by go_num, by rw [HS.out], by rw [HS.out]; rfl, HX.out.alloc hsz _⟩
            case measure => simp [intOf]; omega
      · have HS : Hid (getOf (l.take (k + 1)) n = (af, ac)) := by show _ = _; rw [HSN.out]; unfold step; rw [if_neg (fun h => h1 h.1)]
        have hne : (pn.toList == n.toList) = false := ne_list h1
        go_wp2_with fail
        go_roundw
        case rel => exact ⟨k + 1, by omega, by go_num, by rw [HS.out], by rw [HS.out], HX.out.alloc hsz _⟩
        case measure => simp [intOf]; omega
    · obtain rfl : k = l.length := by omega
      rw [List.take_length]
      have H2 := hide hnx
      clear hnx
      go_wp2_with fail
      go_ret2
      exact ⟨rfl, H2.out⟩


set_option maxRecDepth 100000 in
set_option maxHeartbeats 1600000 in
theorem refGet_any (v : Value) (l : List PB) (n : ByteArray) (w : World) (hl : Lies w v l) (hs : l.length ≤ 4611686018427387904) :
    Calls Tryz.prog 35 #[v, .string n] w fun e w' => e = .returned (.tuple #[.string (getOf l n).1, .int .i64 ((getOf l n).2 : Int)]) ∧ Below w.heap.size w w' := by
  obtain ⟨oa, ca, rfl, hca⟩ := hl
  have HA := hide hca
  clear hca
  go_enter Tryz.func35, Tryz.ntmps35
  go_wp2_with fail
  go_loopw [6, 7, 8] (fun f c i wr => ∃ k : Nat, k ≤ l.length ∧ i = .int .i64 k ∧ f = .string (getOf (l.take k) n).1 ∧ c = .int .i64 ((getOf (l.take k) n).2 : Int) ∧ Below w.heap.size w wr) (fun _ _ i _ => l.length - (intOf i).toNat)
  case atStart => exact ⟨0, Nat.zero_le _, rfl, rfl, rfl, Below.refl _ _⟩
  case round =>
    obtain ⟨k, hk, rfl, rfl, rfl, hnx⟩ := hrel
    have hsz := hnx.size
    have hle := getOf_le (l.take k) n
    have hle2 : (l.take k).length ≤ k := by rw [List.length_take]; exact Nat.min_le_left _ _
    by_cases hlt : k < l.length
    · have hki : (k : Int) < (l.length : Int) := by omega
      obtain ⟨b, o, rfl, hb, c0, c1⟩ := HA.out k hlt
      have d0 := (hnx.cell (p := ⟨b, o + k * 2, none⟩) hb).trans c0
      have d1 := (hnx.cell (p := ⟨b, o + k * 2 + 1, none⟩) hb).trans c1
      have HSN : Hid (getOf (l.take (k + 1)) n = step n (getOf (l.take k) n) l[k]) := by show _ = _; rw [takeP l k hlt, getOf_snoc]
      have HX := hide hnx
      clear hnx c0 c1
      generalize l[k] = p at *
      obtain ⟨pn, pv⟩ := p
      generalize getOf (l.take k) n = a at *
      obtain ⟨af, ac⟩ := a
      simp only [] at d0 d1 hle ⊢
      have k0 : (0 : Int) ≤ (k : Int) := Int.natCast_nonneg _
      by_cases h1 : pn = n
      · subst h1
        by_cases h2 : pv = emp
        · subst h2
          have HS : Hid (getOf (l.take (k + 1)) pn = (af, ac)) := by show _ = _; rw [HSN.out]; unfold step; rw [if_neg (fun h => h.2 rfl)]
          go_wp2_with fail
          go_roundw
          case rel => exact ⟨k + 1, by omega, by go_num, by rw [HS.out], by rw [HS.out], HX.out⟩
          case measure => simp [intOf]; omega
        · have HS : Hid (getOf (l.take (k + 1)) pn = (if ac = 0 then pv else af, ac + 1)) := by show _ = _; rw [HSN.out]; unfold step; rw [if_pos ⟨rfl, h2⟩]
          have hne : (pv.toList == (⟨#[]⟩ : ByteArray).toList) = false := ne_list h2
          have hne2 : ¬ pv.toList = [] := fun e => h2 (ba_ext (by rw [ByteArray.toList_eq] at e; rw [e]))
          have hne3 : (pv.toList == []) = false := beq_false_of_ne hne2
          have hne4 : pv.toList.isEmpty = false := by cases hh : pv.toList with
            | nil => exact absurd hh hne2
            | cons _ _ => rfl
          by_cases h3 : ac = 0
          · subst h3
            rw [if_pos rfl] at HS
            go_wp2_with fail
            go_roundw
            case rel => exact ⟨k + 1, by omega, by go_num, by rw [HS.out], by rw [HS.out]; rfl, HX.out⟩
            case measure => simp [intOf]; omega
          · have h3i : ¬ (ac : Int) = 0 := by omega
            rw [if_neg h3] at HS
            go_wp2_with fail
            go_roundw
            case rel => exact ⟨k + 1, by omega, by go_num, by rw [HS.out], by rw [HS.out]; rfl, HX.out⟩
            case measure => simp [intOf]; omega
      · have HS : Hid (getOf (l.take (k + 1)) n = (af, ac)) := by show _ = _; rw [HSN.out]; unfold step; rw [if_neg (fun h => h1 h.1)]
        have hne : (pn.toList == n.toList) = false := ne_list h1
        go_wp2_with fail
        go_roundw
        case rel => exact ⟨k + 1, by omega, by go_num, by rw [HS.out], by rw [HS.out], HX.out⟩
        case measure => simp [intOf]; omega
    · obtain rfl : k = l.length := by omega
      rw [List.take_length]
      have H2 := hide hnx
      clear hnx
      go_wp2_with fail
      go_ret2
      exact ⟨rfl, H2.out⟩

/-- the first k turned -/
def mix (l : List PB) (k : Nat) : List PB := ((l.take k).map fun p => (p.2, p.1)) ++ l.drop k
end Go.Proofs.YtcpflfpgnbihiaaGreatDoor.gtn
