import Derived.Test.YtcpflfpgnbihiaaGreatDoorMRefPairs
namespace Go.Proofs.YtcpflfpgnbihiaaGreatDoor.pctw
open Go.ChangeShapes Go.WideShapes Go.ChangeAt Go.RowKit Go.Proofs.YtcpflfpgnbihiaaGreatDoor.common
open Go.Proofs.YtcpflfpgnbihiaaGreatDoor.lst (PB cl cl_app infoP own_below)
attribute [local go_sem ↓] Go.wp_at_zero Go.wp_at_succ

theorem pieces_one (a : Pct.By) (h : ∀ x ∈ a, x ≠ 38) : Pct.pieces a = if a = [] then [] else [a] := by
  unfold Pct.pieces
  rw [Pct.split_one a h]
  by_cases e : a = [] <;> simp [e]

/-- the pieces up to place i, the rest from place f on -/
def Cut (l : Pct.By) (q : List ByteArray) (f i : Nat) : Prop := f ≤ i ∧ (∀ x ∈ (l.drop f).take (i - f), x ≠ 38) ∧ (q.map fun b => b.data.toList) ++ Pct.pieces (l.drop f) = Pct.pieces l

theorem cut_zero (l : Pct.By) : Cut l [] 0 0 := ⟨Nat.le_refl _, fun x hx => by simp at hx, by simp⟩
theorem cut_more {l : Pct.By} {q : List ByteArray} {f i : Nat} (h : Cut l q f i) (hi : i < l.length) (hc : l.getD i 0 ≠ 38) : Cut l q f (i + 1) := by
  obtain ⟨h1, h2, h3⟩ := h
  refine ⟨by omega, fun x hx => ?_, h3⟩
  rw [show i + 1 - f = (i - f) + 1 by omega, List.take_succ_eq_append_getElem (by rw [List.length_drop]; omega)] at hx
  rcases List.mem_append.1 hx with hx | hx
  · exact h2 x hx
  · simp at hx
    subst hx
    have e : f + (i - f) = i := by omega
    simp only [e]
    intro e2; apply hc
    rw [List.getD_eq_getElem?_getD, List.getElem?_eq_getElem hi]; exact e2
/-- what is cut off at place i -/
theorem cut_part {l : Pct.By} {q : List ByteArray} {f i : Nat} (h : Cut l q f i) (hi : i ≤ l.length) (hc : i < l.length → l.getD i 0 = 38) (b : ByteArray) (hb : f < i → b.data.toList = (l.drop f).take (i - f)) : Cut l (if f < i then q ++ [b] else q) (i + 1) (i + 1) := by
  obtain ⟨h1, h2, h3⟩ := h
  refine ⟨Nat.le_refl _, fun x hx => by simp at hx, ?_⟩
  have e : Pct.pieces (l.drop f) = Pct.pieces ((l.drop f).take (i - f)) ++ Pct.pieces (l.drop (i + 1)) := by
    by_cases hlt : i < l.length
    · have d := Pct.drop_at (l := l.drop f) (k := i - f) (by rw [List.length_drop]; omega)
      rw [List.drop_drop, List.drop_drop, show f + (i - f) = i by omega, show f + (i - f + 1) = i + 1 by omega] at d
      have g : (l.drop f).getD (i - f) 0 = 38 := by
        rw [← hc hlt, List.getD_eq_getElem?_getD, List.getD_eq_getElem?_getD, List.getElem?_drop, show f + (i - f) = i by omega]
      rw [g] at d
      conv => lhs; rw [← List.take_append_drop (i - f) (l.drop f), List.drop_drop, show f + (i - f) = i by omega, d]
      exact Pct.pieces_join _ _
    · obtain rfl : i = l.length := by omega
      have t : (l.drop f).take (l.length - f) = l.drop f := List.take_of_length_le (by rw [List.length_drop]; exact Nat.le_refl _)
      rw [t, List.drop_of_length_le (show l.length ≤ l.length + 1 by omega)]
      simp [Pct.pieces, Pct.split]
  rw [← h3, e, pieces_one _ h2]
  by_cases hfi : f < i
  · have ne : (l.drop f).take (i - f) ≠ [] := by
      intro e2
      have := congrArg List.length e2
      rw [List.length_take, List.length_drop] at this
      simp at this; omega
    rw [if_pos hfi, if_neg ne, List.map_append, List.append_assoc]
    simp [hb hfi]
  · rw [if_neg hfi]
    have z : i - f = 0 := by omega
    rw [z, List.take_zero, if_pos rfl, List.nil_append]

theorem ext_mid (s : ByteArray) (f i : Nat) : (s.extract f i).data.toList = (s.data.toList.drop f).take (i - f) := by simp

theorem cut_len {l : Pct.By} {q : List ByteArray} {f i : Nat} (h : Cut l q f i) : q.length ≤ (Pct.pieces l).length := by
  rw [← h.2.2, List.length_append, List.length_map]; omega
theorem pieces_len (l : Pct.By) : (Pct.pieces l).length ≤ l.length + 1 := by
  have : (Pct.split l).length ≤ l.length + 1 := by
    induction l with
    | nil => exact Nat.le_refl _
    | cons c r ih =>
      by_cases hc : c = 38
      · subst hc; rw [Pct.split_amp]; simp; omega
      · obtain ⟨h, t, e1, e2⟩ := Pct.split_other c r hc
        rw [e2]; rw [e1] at ih; simp at ih ⊢; omega
  exact Nat.le_trans (List.length_filter_le _ _) this

set_option maxRecDepth 100000 in
set_option maxHeartbeats 3200000 in
theorem refPieces_any (s : ByteArray) (w : World) (hs : s.size ≤ 1048576) :
    Calls Tryz.prog 55 #[.string s] w fun e w' => ∃ (v : Value) (q : List ByteArray), e = .returned v ∧ w'.ownsRow w.heap.size 9 1 v q.length (q.map Value.string) ∧ Below w.heap.size w w' ∧ (q.map fun b : ByteArray => b.data.toList) = Pct.pieces s.data.toList := by
  obtain ⟨i0, hi, hz0, hz1, hz2⟩ := info_parts infoS
  have HLL := hide (len_list s)
  have HPL := hide (pieces_len s.data.toList)
  go_enter Tryz.func55, Tryz.ntmps55
  go_wp2_with fail
  go_loopw [3, 4, 5] (fun v f i wr => ∃ (q : List ByteArray) (k m : Nat), k ≤ s.size + 1 ∧ i = .int .i64 k ∧ f = .int .i64 m ∧ Cut s.data.toList q m k ∧ (k = s.size + 1 → m = s.size + 1) ∧ wr.ownsRow w.heap.size 9 1 v q.length (q.map Value.string) ∧ Below w.heap.size w wr) (fun _ _ i _ => s.size + 1 - (intOf i).toNat)
  case atStart => exact ⟨[], 0, 0, Nat.zero_le _, rfl, rfl, cut_zero _, fun h => by omega, World.ownsRow_nil _ _ _ _, Below.refl _ _⟩
  case round =>
    obtain ⟨q, k, m, hk, rfl, rfl, hcut, hend, hown, hnx⟩ := hrel
    have hsz := hnx.size
    have hql : q.length ≤ 1048577 := by have := cut_len hcut; have := HPL.out; have := HLL.out; omega
    have hmk := hcut.1
    have HC := hide hcut
    have HEND := hide hend
    clear hcut hend
    by_cases hlt : k ≤ s.size
    · have hki : (k : Int) ≤ (s.size : Int) := by omega
      by_cases hke : k = s.size
      · obtain rfl := hke
        by_cases hmk2 : m < s.size
        · have hmi : (m : Int) < (s.size : Int) := by omega
          have hmj : (m : Int) ≤ (s.size : Int) := by omega
          have hm0 : (0 : Int) ≤ (m : Int) := Int.natCast_nonneg _
          have HC2 := hide (cut_part HC.out (by rw [HLL.out]; omega) (fun h => by rw [HLL.out] at h; omega) (s.extract m s.size) (fun _ => ext_mid s m s.size))
          rw [if_pos hmk2] at HC2
          go_wp2_with (at_builtin; refine wpList_append_own _ rfl _ _ 60 rfl w.heap.size 9 i0 (.string ⟨#[]⟩) 1 16 Tryz.underlying60 hi hz0 hz1 hz2 rfl (by decide) _ _ _ rfl (hown.alloc _) ⟨wr.heap.size, 0, none⟩ 1 1 [_] rfl rfl (cell_one_new _ _ _) ?c2 ?c3 ?c4 ?c5 ?_)
          case c2 => first | rfl | (intro u hu; simp at hu; subst hu; rfl)
          case c3 => unfold maxLen; omega
          case c4 => omega
          case c5 => first | omega | (simp; omega)
          intro v' w1 hown' hgrow _
          have R2 : Hid (Below w.heap.size w w1) := (hnx.alloc hsz _).grown hgrow (by simp; omega) (own_ge hown)
          have R1 := hide hown'
          clear hown' hgrow hown hnx
          go_wp2
          go_roundw
          case rel => exact ⟨q ++ [_], s.size + 1, s.size + 1, by omega, by go_num, by go_num, HC2.out, fun h => by omega, by rw [List.length_append, List.map_append]; exact R1.out, R2.out⟩
          case measure => simp [intOf] <;> omega
        · have hmi : ¬ (m : Int) < (s.size : Int) := by omega
          have HC2 := hide (cut_part HC.out (by rw [HLL.out]; omega) (fun h => by rw [HLL.out] at h; omega) s (fun h => absurd h hmk2))
          rw [if_neg hmk2] at HC2
          have R1 := hide hown
          have R2 := hide hnx
          clear hown hnx
          go_wp2_with fail
          go_roundw
          case rel => exact ⟨q, s.size + 1, s.size + 1, by omega, by go_num, by go_num, HC2.out, fun h => by omega, R1.out, R2.out⟩
          case measure => simp [intOf] <;> omega
      · have hkq : ¬ (k : Int) = (s.size : Int) := by omega
        have hkl : (k : Int) < (s.size : Int) := by omega
        have hkn : k < s.size := by omega
        have HGD := hide (getD_list s k hkn)
        by_cases hc : s[k].toNat = 38
        · have hci : ((s[k].toNat : Nat) : Int) = 38 := by omega
          have HCE : Hid (s.data.toList.getD k 0 = 38) := by show _ = _; rw [HGD.out]; exact UInt8.toNat_inj.1 hc
          by_cases hmk2 : m < k
          · have hmi : (m : Int) < (k : Int) := by omega
            have hmj : (m : Int) ≤ (k : Int) := by omega
            have hm0 : (0 : Int) ≤ (m : Int) := Int.natCast_nonneg _
            have HC2 := hide (cut_part HC.out (by rw [HLL.out]; omega) (fun _ => HCE.out) (s.extract m k) (fun _ => ext_mid s m k))
            rw [if_pos hmk2] at HC2
            go_wp2_with (at_builtin; refine wpList_append_own _ rfl _ _ 60 rfl w.heap.size 9 i0 (.string ⟨#[]⟩) 1 16 Tryz.underlying60 hi hz0 hz1 hz2 rfl (by decide) _ _ _ rfl (hown.alloc _) ⟨wr.heap.size, 0, none⟩ 1 1 [_] rfl rfl (cell_one_new _ _ _) ?c2 ?c3 ?c4 ?c5 ?_)
            case c2 => first | rfl | (intro u hu; simp at hu; subst hu; rfl)
            case c3 => unfold maxLen; omega
            case c4 => omega
            case c5 => first | omega | (simp; omega)
            intro v' w1 hown' hgrow _
            have R2 : Hid (Below w.heap.size w w1) := (hnx.alloc hsz _).grown hgrow (by simp; omega) (own_ge hown)
            have R1 := hide hown'
            clear hown' hgrow hown hnx
            go_wp2
            go_roundw
            case rel => exact ⟨q ++ [_], k + 1, k + 1, by omega, by go_num, by go_num, HC2.out, fun h => by omega, by rw [List.length_append, List.map_append]; exact R1.out, R2.out⟩
            case measure => simp [intOf] <;> omega
          · have hmi : ¬ (m : Int) < (k : Int) := by omega
            have HC2 := hide (cut_part HC.out (by rw [HLL.out]; omega) (fun _ => HCE.out) s (fun h => absurd h hmk2))
            rw [if_neg hmk2] at HC2
            have R1 := hide hown
            have R2 := hide hnx
            clear hown hnx
            go_wp2_with fail
            go_roundw
            case rel => exact ⟨q, k + 1, k + 1, by omega, by go_num, by go_num, HC2.out, fun h => by omega, R1.out, R2.out⟩
            case measure => simp [intOf] <;> omega
        · have hci : ¬ ((s[k].toNat : Nat) : Int) = 38 := by omega
          have hcb : (((s[k].toNat : Nat) : Int) == 38) = false := beq_false_of_ne hci
          have HC2 := hide (cut_more HC.out (by rw [HLL.out]; exact hkn) (by rw [HGD.out]; intro e; exact hc (by rw [e]; rfl)))
          have R1 := hide hown
          have R2 := hide hnx
          clear hown hnx
          go_wp2_with fail
          go_roundw
          case rel => exact ⟨q, k + 1, m, by omega, by go_num, rfl, HC2.out, fun h => by omega, R1.out, R2.out⟩
          case measure => simp [intOf] <;> omega
    · obtain rfl : k = s.size + 1 := by omega
      have hm : m = s.size + 1 := HEND.out rfl
      have HQ : Hid ((q.map fun b : ByteArray => b.data.toList) = Pct.pieces s.data.toList) := by
        show _ = _
        have h3 := HC.out.2.2
        rw [hm, List.drop_of_length_le (by rw [HLL.out]; omega)] at h3
        simpa [Pct.pieces, Pct.split] using h3
      have H1 := hide hown
      have H2 := hide hnx
      have hki : ¬ ((s.size + 1 : Nat) : Int) ≤ (s.size : Int) := by omega
      clear hown hnx
      go_wp2_with fail
      go_ret
      first
        | exact ⟨_, q, rfl, H1.out, H2.out, HQ.out⟩
        | exact ⟨_, rfl, q, H1.out, H2.out, HQ.out⟩

end Go.Proofs.YtcpflfpgnbihiaaGreatDoor.pctw
