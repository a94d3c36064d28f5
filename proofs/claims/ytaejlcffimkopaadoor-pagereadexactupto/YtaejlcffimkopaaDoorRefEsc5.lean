import Derived.Test.YtaejlcffimkopaaDoorPageEsc
namespace Go.Proofs.YtaejlcffimkopaaDoor.pg
open Go.ChangeShapes Go.WideShapes Go.ChangeAt Go.RowKit Go.Proofs.YtaejlcffimkopaaDoor.common
attribute [local go_sem ↓] Go.wp_at_zero Go.wp_at_succ

theorem cell_one_new (w : World) (v : Value) (t : TypeId) : ∀ j u, [v][j]? = some u → (w.alloc (.cells #[v] t)).cell? ((⟨w.heap.size, 0, none⟩ : Addr).add j) = some u := by
  intro j u h
  match j, h with
  | 0, h => simp at h; subst h; simp [Addr.add]
theorem conv_one (w : World) (c : UInt8) : (convert 56 9 (.slice (some ⟨w.heap.size, 0, none⟩) 1 1)).run Tryd.prog (w.alloc (.cells #[B c] 5)) = .ok (S [c]) (w.alloc (.cells #[B c] 5)) := by
  refine run_convert_bytes_back (P := Tryd.prog) _ 56 9 5 ⟨w.heap.size, 0, none⟩ 1 [c] Tryd.underlying56 Tryd.underlying5 Tryd.underlying9 ?_
  intro j hj
  match j, hj with
  | 0, _ => simp [Addr.add]

set_option maxRecDepth 100000 in
set_option maxHeartbeats 800000 in
theorem written_any (c : UInt8) (w : World) :
    Calls Tryd.prog 70 #[B c] w fun e w' => Below w.heap.size w w' ∧ e = .returned (S (Pg.esc1 c)) := by
  rcases Pg.wr_cases c with ⟨h0, h1, h2, h3, h4, h5⟩ | rfl | rfl | rfl | rfl | rfl
  · have HE := hide (Pg.esc1_plain c h0)
    have HC := hide (conv_one w c)
    have g : ∀ k : UInt8, c ≠ k → ((c.toNat : Int) == (k.toNat : Int)) = false := fun k hk => by
      apply beq_false_of_ne; intro e; exact hk (UInt8.toNat_inj.1 (by omega))
    have g1 : ((c.toNat : Int) == 38) = false := g 38 h1
    have g2 : ((c.toNat : Int) == 60) = false := g 60 h2
    have g3 : ((c.toNat : Int) == 62) = false := g 62 h3
    have g4 : ((c.toNat : Int) == 34) = false := g 34 h4
    have g5 : ((c.toNat : Int) == 39) = false := g 39 h5
    clear h0 h1 h2 h3 h4 h5 g
    rw [HE.out]
    have hc := HC.out
    unfold B at hc ⊢
    generalize (c.toNat : Int) = C at *
    go_enter Tryd.func70, Tryd.ntmps70
    go_wp2
    go_ret
    exact ⟨(Below.refl _ _).alloc (Nat.le_refl _) _, rfl⟩
  all_goals
    go_enter Tryd.func70, Tryd.ntmps70
    go_wp2
    go_ret
    exact ⟨Below.refl _ _, rfl⟩

theorem own_form {w : World} {b : Nat} {e : TypeId} {v : Value} {n : Nat} {xs : List Value} (h : w.ownsRow b e 1 v n xs) : ∃ ao n' cap, v = .slice ao n' cap := by
  rcases h.2 with ⟨rfl, _⟩ | ⟨g, cap, cur, rfl, _⟩
  · exact ⟨_, _, _, rfl⟩
  · exact ⟨_, _, _, rfl⟩

theorem flat_snoc (s : ByteArray) (k : Nat) (h : k < s.size) : Pg.esc (s.data.toList.take (k + 1)) = Pg.esc (s.data.toList.take k) ++ Pg.esc1 s[k] := by
  rw [take_snoc s k h, Pg.esc_append, Pg.esc_cons, Pg.esc_nil, List.append_nil]
theorem esc_take (s : ByteArray) (k : Nat) : (Pg.esc (s.data.toList.take k)).length ≤ 6 * k := by
  have h1 := (Pg.esc_len (s.data.toList.take k)).2
  have h2 : (s.data.toList.take k).length ≤ k := by rw [List.length_take]; omega
  omega

set_option maxRecDepth 100000 in
set_option maxHeartbeats 1600000 in
theorem refEscape_any (s : ByteArray) (w : World) (hs : 6 * s.size + 6 ≤ 140737488355328) :
    Calls Tryd.prog 54 #[.string s] w fun e w' => e = .returned (S (Pg.esc s.data.toList)) ∧ Below w.heap.size w w' := by
  obtain ⟨i0, hi, hz0, hz1, hz2⟩ := info_parts info8
  go_enter Tryd.func54, Tryd.ntmps54
  go_wp2_with fail
  go_loopw [3, 4] (fun v i wr => ∃ k : Nat, k ≤ s.size ∧ i = .int .i64 k ∧ Hid (wr.ownsRow w.heap.size 5 1 v (Pg.esc (s.data.toList.take k)).length ((Pg.esc (s.data.toList.take k)).map B)) ∧ Hid (Below w.heap.size w wr)) (fun _ i _ => s.size - (intOf i).toNat)
  case atStart => exact ⟨0, by omega, rfl, by show World.ownsRow _ _ _ _ _ _ _; rw [List.take_zero, Pg.esc_nil]; exact World.ownsRow_nil _ _ _ _, Below.refl _ _⟩
  case round =>
    obtain ⟨k, hk, rfl, hown, hb⟩ := hrel
    by_cases hlt : k < s.size
    · have hki : (k : Int) < (s.size : Int) := by omega
      have z0 : (0 : Int) ≤ (k : Int) := by omega
      have HS := hide (flat_snoc s k hlt)
      have HL := hide (esc_take s k)
      have hL6 := hide (Pg.esc1_len s[k])
      go_wp2_with fail
      refine (written_any s[k] _).mono ?_
      rintro x w1 ⟨hb1, rfl⟩
      generalize s[k] = c at *
      have HW := hide (own_below hown.out hb1)
      have HB := hide (hb.out.trans (hb1.mono hb.out.size))
      clear hb1
      obtain ⟨Z, hZ⟩ : ∃ Z : ByteArray, (⟨(Pg.esc1 c).toArray⟩ : ByteArray) = Z := ⟨_, rfl⟩
      have hZs : Hid (Z.size ≤ 6) := by show _ ≤ _; rw [← hZ, str_size]; exact hL6.out.2
      have hZl : Hid (Z.data.toList = Pg.esc1 c) := by show _ = _; rw [← hZ]
      unfold S
      rw [hZ]
      clear hZ
      go_wp2_with (at_builtin; refine Lib.wpList_append_own_string _ rfl _ _ 56 9 rfl w.heap.size 5 i0 Tryd.underlying56 Tryd.underlying9 hi hz0 hz1 hz2 _ _ _ rfl HW.out Z rfl ?c3 ?c4 ?c5 ?_)
      case c3 => have := HL.out; have := hZs.out; unfold maxLen; omega
      case c4 => have := HL.out; have := hZs.out; omega
      case c5 => exact HB.out.size
      intro v' w2 hown' hgrow _
      have R1 : Hid (w2.ownsRow w.heap.size 5 1 v' (Pg.esc (s.data.toList.take (k + 1))).length ((Pg.esc (s.data.toList.take (k + 1))).map B)) := by
        show World.ownsRow _ _ _ _ _ _ _
        rw [HS.out, List.length_append, List.map_append, ← hZl.out, len_list]
        exact hown'
      have R2 := hide (HB.out.grown hgrow HB.out.size (own_ge HW.out))
      clear hown' hgrow
      go_wp2
      go_roundw
      case rel => exact ⟨k + 1, by omega, by go_num, R1, R2⟩
      case measure => simp [intOf] <;> omega
    · have hk8 : ¬ (k : Int) < (s.size : Int) := by omega
      have hkk : Hid (s.data.toList.take k = s.data.toList) := List.take_of_length_le (by rw [len_list]; omega)
      have hc := conv_own hown.out rfl
      rw [hkk.out] at hc
      go_wp2
      go_ret
      exact ⟨rfl, hb.out⟩

end Go.Proofs.YtaejlcffimkopaaDoor.pg
