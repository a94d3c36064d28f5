import Derived.Test.YtobflealcldgnaaGreatDoorRadixRead
import Derived.Test.YtobflealcldgnaaGreatDoorErrWalks
import Derived.Deep.OwnRows
namespace Go.Proofs.YtobflealcldgnaaGreatDoor.radw
open Go.ChangeShapes Go.WideShapes Go.ChangeAt Go.RowKit Go.Proofs.YtobflealcldgnaaGreatDoor.common
attribute [local go_sem ↓] Go.wp_at_zero Go.wp_at_succ

/-- the refusal of a text lies in its variable -/
abbrev X (a : Addr) : Value := .iface 182 (.pointer (some a))
def Txt (w : World) (a : Addr) : Prop := w.cell? ⟨2, 0, none⟩ = some (X a)
theorem Txt.below {w w' : World} {a : Addr} (h : Txt w a) (hb : Below w.heap.size w w') : Txt w' a := by
  unfold Txt
  rw [← h]
  exact hb.cell (World.block_lt_of_cell? w _ h)
theorem Txt.of {w : World} {e : Nat → Addr} (h : errw.Errs w e) : Txt w (e 1) := h.cell 1 (by decide)

/-- the numbers of a text, as bytes -/
def numB (T : List UInt8) (n : Nat) (s : List UInt8) (i : Nat) : UInt8 := UInt8.ofNat (Rad.num T n s i)

theorem Lay.alloc {w : World} {g : Nat} {l : List UInt8} (h : Lay w g l) (hg : g < w.heap.size) (o : Obj) : Lay (w.alloc o) g l := h.below ((Below.refl w.heap.size w).alloc (Nat.le_refl _) o) hg

theorem lay_boxed (w : World) (l : List UInt8) (t : TypeId) : Lay (w.alloc (.cells (l.map B).toArray t)) w.heap.size l :=
  ⟨there_new_at w _ _ _ _ rfl (by simp), range_new_at w _ _ _ _ rfl rfl⟩

set_option maxRecDepth 100000 in
set_option maxHeartbeats 800000 in
theorem numbers_any (T : List UInt8) (n : Nat) (hn : n ≤ 64) (s : ByteArray) (w : World) (hs : s.size ≤ reachBytes) (ea : Addr) (he : Txt w ea) :
    Calls Tryz.prog 68 #[.agg ((rdT T n).map B).toArray, .string s] w fun x w' => Below w.heap.size w w' ∧
      ((Rad.valid T n s.data.toList ∧ x = .returned (.tuple #[.slice (some ⟨w.heap.size + 1, 0, none⟩) s.size s.size, .nilIface]) ∧ Lay w' (w.heap.size + 1) ((List.range s.size).map (numB T n s.data.toList))) ∨
        (¬ Rad.valid T n s.data.toList ∧ x = .returned (.tuple #[.slice none 0 0, X ea]))) := by
  unfold reachBytes at hs
  have HE := hide he
  clear he
  obtain ⟨i0, hi, hz0, hz1, hz2⟩ := info_parts info8
  have hbox := hide (lay_boxed w (rdT T n) 100)
  generalize hC : ((rdT T n).map B).toArray = C at *
  clear hC
  go_enter Tryz.func68, Tryz.ntmps68
  go_wp2_with (refine wpList_make_row _ rfl _ _ 27 rfl 5 i0 (.int .u8 0) Tryz.underlying27 hi hz0 hz1 rfl .i64 .i64 s.size ?c1 ?c2 ?c3 ?c4 ?_)
  case c1 => rfl
  case c2 => rfl
  case c3 => rw [hz2]; omega
  case c4 => omega
  clear hz0 hz1 hz2 hi
  go_loopw [14] (fun i wr => ∃ k : Nat, k ≤ s.size ∧ i = .int .i64 k ∧ Lay wr w.heap.size (rdT T n) ∧ Lay wr (w.heap.size + 1) (upto (numB T n s.data.toList) s.size k) ∧ (∀ i, i < k → Rad.rd T n (s.data.toList.getD i 0) ≠ 0) ∧ Below w.heap.size w wr) (fun i _ => s.size - (intOf i).toNat)
  case atStart =>
    refine ⟨0, Nat.zero_le _, rfl, ?_, ?_, fun i hi => by omega, ?_⟩
    · exact hbox.out.alloc (by simp) _
    · rw [upto_zero]
      have := lay_made (w.alloc (.cells C 100)) s.size 5
      simpa using this
    · exact ((Below.refl _ _).alloc (Nat.le_refl _) _).alloc (by simp) _
  case round =>
    obtain ⟨k, hk, rfl, hr, hl, hv, hb⟩ := hrel
    by_cases hlt : k < s.size
    · have hki : (k : Int) < (s.size : Int) := by omega
      have hgd := getD_list s k hlt
      have hcell := hr.cell s[k].toNat (by rw [rdT_len]; exact s[k].toNat_lt)
      rw [rdT_at] at hcell
      have hq := Rad.rd_le T n s[k]
      have HQ : Hid (Rad.rd T n (s.data.toList.getD k 0) = Rad.rd T n s[k]) := by show _ = _; rw [hgd]
      have HN : Hid (numB T n s.data.toList k = UInt8.ofNat (Rad.rd T n s[k] - 1)) := by show _ = _; unfold numB Rad.num; rw [hgd]
      have hc : wr.cell? ⟨w.heap.size, s[k].toNat, none⟩ = some (.int .u8 ((Rad.rd T n s[k] : Nat) : Int)) := by
        rw [hcell]; unfold B; rw [Rad.toNat_of (by omega)]
      have hx := s[k].toNat_lt
      have ce : wr.cell? ⟨2, 0, none⟩ = some (X ea) := HE.out.below hb
      have f1 := hl.frozen k (by rw [upto_len]; exact hlt)
      obtain ⟨v1, hv1⟩ : ∃ v, wr.cell? ⟨w.heap.size + 1, k, none⟩ = some v := ⟨_, hl.cell k (by rw [upto_len]; exact hlt)⟩
      have HR := hide hr
      have HL := hide hl
      have HV := hide hv
      have HB := hide hb
      clear hr hl hv hb hcell hgd
      generalize Rad.rd T n s[k] = q at *
      by_cases h0 : q = 0
      · subst h0
        clear hv1 f1
        go_wp2_with fail
        go_region
        go_wp2
        go_ret2
        exact ⟨HB.out.drew, Or.inr ⟨fun hval => hval k (by rw [len_list]; exact hlt) HQ.out, rfl⟩⟩
      · have h1 : ¬ (q : Int) = 0 := by omega
        have h2 : (1 : Int) ≤ (q : Int) := by omega
        have h3 : Hid ((q : Int) - 1 = (((UInt8.ofNat (q - 1)).toNat : Nat) : Int)) := by show _ = _; rw [Rad.toNat_of (by omega)]; omega
        clear ce
        go_wp2_with fail
        go_roundw
        case rel =>
          refine ⟨k + 1, by omega, by go_num, ?_, ?_, ?_, ?_⟩
          · exact ⟨there_set HR.out.1 _ _, range_other HR.out.2 _ (Or.inl (by simp)) _⟩
          · have L1 := HL.out.set k (by rw [upto_len]; exact hlt) (UInt8.ofNat (q - 1))
            rw [upto_set _ _ _ hlt HN.out.symm] at L1
            unfold B at L1
            rw [← h3.out] at L1
            exact L1
          · intro i hi
            by_cases hik : i = k
            · subst hik; rw [HQ.out]; exact h0
            · exact HV.out i (by omega)
          · exact HB.out.setCell (Nat.le_succ _) _
        case measure => simp [intOf]; omega
    · obtain rfl : k = s.size := by omega
      rw [upto_all] at hl
      have HL := hide hl
      have HV := hide hv
      have HB := hide hb
      clear hr hl hv hb
      go_wp2
      go_ret2
      exact ⟨HB.out, Or.inl ⟨fun i hi => HV.out i (by rw [len_list] at hi; exact hi), rfl, HL.out⟩⟩

end Go.Proofs.YtobflealcldgnaaGreatDoor.radw
