import Derived.Test.YtjalggkhpnfbiaaDoorBPageEsc
namespace Go.Proofs.YtjalggkhpnfbiaaDoor.pg
open Go.ChangeShapes Go.WideShapes Go.ChangeAt Go.RowKit Go.Proofs.YtjalggkhpnfbiaaDoor.common
attribute [local go_sem ↓] Go.wp_at_zero Go.wp_at_succ

theorem cell_one_new (w : World) (v : Value) (t : TypeId) : ∀ j u, [v][j]? = some u → (w.alloc (.cells #[v] t)).cell? ((⟨w.heap.size, 0, none⟩ : Addr).add j) = some u := by
  intro j u h
  match j, h with
  | 0, h => simp at h; subst h; simp [Addr.add]
theorem flat_snoc (s : ByteArray) (k : Nat) (h : k < s.size) : Pg.esc (s.data.toList.take (k + 1)) = Pg.esc (s.data.toList.take k) ++ Pg.esc1 s[k] := by
  rw [take_snoc s k h, Pg.esc_append, Pg.esc_cons, Pg.esc_nil, List.append_nil]
theorem esc_take (s : ByteArray) (k : Nat) : (Pg.esc (s.data.toList.take k)).length ≤ 6 * k := by
  have h1 := (Pg.esc_len (s.data.toList.take k)).2
  have h2 : (s.data.toList.take k).length ≤ k := by rw [List.length_take]; omega
  omega

end Go.Proofs.YtjalggkhpnfbiaaDoor.pg

namespace Go.Proofs.YtjalggkhpnfbiaaDoor.pg
open Go.ChangeShapes Go.WideShapes Go.ChangeAt Go.RowKit Go.Proofs.YtjalggkhpnfbiaaDoor.common
attribute [local go_sem ↓] Go.wp_at_zero Go.wp_at_succ

/-- all but the builder's block and the rows of bytes stays, the table too -/
theorem Esc.fr {w w' : World} {b : Nat} (h : Esc w) (hb : Fr b w w') (hB : 4 < b) : Esc w' := h.under hb.below hB


set_option maxRecDepth 100000 in
set_option maxHeartbeats 1600000 in
theorem text_any (b : Nat) (w : World) (xs : List Value) (l : List UInt8) (s : ByteArray) (h : Bd w b 56 xs l) (ht : Esc w) (hB : 4 < b) (hl : l.length + 6 * s.size + 6 ≤ 140737488355328) :
    Calls Tryd.prog 48 #[ptr b, .string s] w fun e w' => e = .returned (.tuple #[]) ∧ Bd w' b 56 xs (l ++ Pg.esc s.data.toList) ∧ Fr b w w' := by
  have HH := hide h
  have HT := hide ht
  have HB := hide hB
  clear h ht hB
  go_enter Tryd.func48, Tryd.ntmps48
  go_wp2_with fail
  go_loopw [8] (fun i wr => ∃ k : Nat, k ≤ s.size ∧ i = .int .i64 k ∧ Hid (Bd wr b 56 xs (l ++ Pg.esc (s.data.toList.take k))) ∧ Hid (Fr b w wr)) (fun i _ => s.size - (intOf i).toNat)
  case atStart => exact ⟨0, by omega, rfl, by show Bd _ _ _ _ _; rw [List.take_zero, Pg.esc_nil, List.append_nil]; exact HH.out, Fr.refl _ _⟩
  case round =>
    obtain ⟨k, hk, rfl, hbd, hfr⟩ := hrel
    by_cases hlt : k < s.size
    · have hki : (k : Int) < (s.size : Int) := by omega
      have z0 : (0 : Int) ≤ (k : Int) := by omega
      have HS := hide (flat_snoc s k hlt)
      have HL := hide (esc_take s k)
      have HE := hide (HT.out.fr hfr.out HB.out)
      go_wp2_with fail
      refine (escapeOf_any s[k] _ HE.out).mono ?_
      rintro x w1 ⟨hww, rfl⟩
      obtain rfl := hww
      by_cases hc : Pg.wr s[k] = []
      · have e1 : Hid (Pg.esc1 s[k] = [s[k]]) := Pg.esc1_plain s[k] hc
        rw [hc]
        clear hc
        have HLL : Hid ((l ++ Pg.esc (s.data.toList.take k)).length + 1 ≤ 140737488355328) := by
          show _ ≤ _
          have := HL.out; rw [List.length_append]; omega
        go_wp2_with fail
        go_region_with (go_at_call 59; refine (writeByte_any b _ _ xs _ s[k] hbd.out.drew HLL.out).mono ?_; rintro x w2 ⟨rfl, hbd2, hfr2⟩; have H1 := hide hbd2; have H2 := hide (hfr.out.drew.trans hfr2); clear hbd2 hfr2)
        go_wp2
        go_roundw
        case rel => exact ⟨k + 1, by omega, by go_num, by show Bd _ _ _ _ _; rw [HS.out, e1.out, ← List.append_assoc]; exact H1.out, H2⟩
        case measure => simp [intOf] <;> omega
      · generalize s[k] = c at *
        have e1 : Hid (Pg.esc1 c = Pg.wr c) := Pg.esc1_five c hc
        have hsz : Hid (0 < (Pg.wr c).length ∧ (Pg.wr c).length ≤ 6) := by
          have := Pg.esc1_len c; rw [e1.out] at this; exact ⟨by omega, this.2⟩
        obtain ⟨Z, hZ⟩ : ∃ Z : ByteArray, (⟨(Pg.wr c).toArray⟩ : ByteArray) = Z := ⟨_, rfl⟩
        have hZs : Hid (0 < Z.size ∧ Z.size ≤ 6) := by show _ ∧ _; rw [← hZ, str_size]; exact hsz.out
        have hZl : Hid (Z.data.toList = Pg.wr c) := by show _ = _; rw [← hZ]
        have hne : (Z.toList == []) = false := by
          rw [ByteArray.toList_eq]; apply beq_false_of_ne; intro e
          have := congrArg List.length e; rw [len_list, List.length_nil] at this; have := hZs.out.1; omega
        unfold S
        rw [hZ]
        clear hZ
        go_wp2_with fail
        refine (writeString_any b _ _ xs _ Z hbd.out hZs.out.1 (by have := HL.out; have := hZs.out.2; rw [List.length_append]; omega)).mono ?_
        rintro x w2 ⟨rfl, hbd2, hfr2⟩
        have H1 := hide hbd2
        have H2 := hide (hfr.out.trans hfr2)
        clear hbd2 hfr2
        go_wp2
        go_roundw
        case rel => exact ⟨k + 1, by omega, by go_num, by show Bd _ _ _ _ _; rw [HS.out, e1.out, ← List.append_assoc, ← hZl.out]; exact H1.out, H2⟩
        case measure => simp [intOf] <;> omega
    · have hk8 : ¬ (k : Int) < (s.size : Int) := by omega
      have hkk : Hid (s.data.toList.take k = s.data.toList) := List.take_of_length_le (by rw [len_list]; omega)
      go_wp2
      go_end0
      refine ⟨rfl, ?_, hfr.out⟩
      have := hbd.out
      rw [hkk.out] at this
      exact this

theorem kind_w (x : Value) : Kind 56 [x] := Or.inr ⟨rfl, rfl⟩
theorem kind_b : Kind 54 [] := Or.inl ⟨rfl, rfl⟩

end Go.Proofs.YtjalggkhpnfbiaaDoor.pg
