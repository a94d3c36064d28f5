import Derived.Test.YtcpflfpgnbihiaaGreatDoorMRefUnesc
import Derived.Test.YtcpflfpgnbihiaaGreatDoorMByteHex
namespace Go.Proofs.YtcpflfpgnbihiaaGreatDoor.pctw
open Go.ChangeShapes Go.WideShapes Go.ChangeAt Go.RowKit Go.Proofs.YtcpflfpgnbihiaaGreatDoor.common
open Go.Proofs.YtcpflfpgnbihiaaGreatDoor.lst (PB cl cl_app infoP own_below)
attribute [local go_sem ↓] Go.wp_at_zero Go.wp_at_succ

/-- where a byte first stands, or the text's end -/
def At (s : ByteArray) (c : UInt8) (k : Nat) : Prop := k ≤ s.size ∧ (∀ x ∈ s.data.toList.take k, x ≠ c) ∧ (k < s.size → s.data.toList.getD k 0 = c)

set_option maxRecDepth 100000 in
set_option maxHeartbeats 800000 in
theorem find_any (s : ByteArray) (c : UInt8) (w : World) (hs : s.size ≤ reachBytes) :
    Calls Tryz.prog 73 #[.string s, B c] w fun e w' => (∃ k : Nat, e = .returned (.int .i64 k) ∧ At s c k) ∧ w' = w := by
  unfold reachBytes at hs
  go_enter Tryz.func73, Tryz.ntmps73
  go_wp2_with fail
  go_loop [5] (fun i => ∃ k : Nat, k ≤ s.size ∧ i = .int .i64 k ∧ ∀ x ∈ s.data.toList.take k, x ≠ c) (fun i => s.size - (intOf i).toNat)
  case atStart => exact ⟨0, Nat.zero_le _, rfl, fun x hx => by simp at hx⟩
  case round =>
    obtain ⟨k, hk, rfl, hall⟩ := hrel
    have HL := hide hall
    clear hall
    by_cases hlt : k < s.size
    · have hki : (k : Int) < (s.size : Int) := by omega
      by_cases heq : s[k] = c
      · have hei : ((s[k].toNat : Nat) : Int) = (c.toNat : Int) := by rw [heq]
        have HQ : Hid (s.data.toList.getD k 0 = c) := by show _ = _; rw [getD_list s k hlt]; exact heq
        go_wp2_with fail
        go_ret
        exact ⟨⟨k, rfl, hk, HL.out, fun _ => HQ.out⟩, rfl⟩
      · have hne : ¬ ((s[k].toNat : Nat) : Int) = (c.toNat : Int) := fun h => heq (UInt8.toNat_inj.1 (by omega))
        have HNE := hide heq
        have HS := hide (take_snoc s k hlt)
        clear heq
        go_wp2_with fail
        go_round
        case rel =>
          refine ⟨k + 1, by omega, by go_num, fun x hx => ?_⟩
          rw [HS.out] at hx
          rcases List.mem_append.1 hx with h | h
          · exact HL.out x h
          · simp at h; subst h; exact HNE.out
        case measure => simp [intOf]; omega
    · obtain rfl : k = s.size := by omega
      go_wp2_with fail
      go_ret
      exact ⟨⟨s.size, rfl, Nat.le_refl _, HL.out, fun h => by omega⟩, rfl⟩

theorem at_name {s : ByteArray} {k : Nat} (h : At s 61 k) : Pct.name s.data.toList = s.data.toList.take k ∧ Pct.value s.data.toList = s.data.toList.drop (k + 1) := by
  obtain ⟨h1, h2, h3⟩ := h
  by_cases hk : k < s.size
  · have e : s.data.toList = s.data.toList.take k ++ 61 :: s.data.toList.drop (k + 1) := by
      have := Pct.drop_at (l := s.data.toList) (k := k) (by rw [len_list]; exact hk)
      rw [h3 hk] at this
      rw [← this, List.take_append_drop]
    constructor
    · conv => lhs; rw [e]
      exact Pct.name_at _ _ h2
    · conv => lhs; rw [e]
      exact Pct.value_at _ _ h2
  · obtain rfl : k = s.size := by omega
    have e : s.data.toList.take s.size = s.data.toList := List.take_of_length_le (by rw [len_list]; exact Nat.le_refl _)
    rw [e] at h2 ⊢
    exact ⟨Pct.name_no _ h2, by rw [Pct.value_no _ h2, List.drop_of_length_le (by rw [len_list]; omega)]⟩

set_option maxRecDepth 100000 in
set_option maxHeartbeats 3200000 in
theorem refPiece_any (p : ByteArray) (w : World) (hs : p.size ≤ reachBytes) :
    Calls Tryz.prog 56 #[.string p] w fun x w' => Below w.heap.size w w' ∧
      ((∃ a b, Pct.pair p.data.toList = some (a, b) ∧ x = .returned (.tuple #[.agg #[S a, S b], .int .i64 0])) ∨
        (Pct.pair p.data.toList = none ∧ x = .returned (.tuple #[.agg #[.string ⟨#[]⟩, .string ⟨#[]⟩], .int .i64 2]))) := by
  have HS := hide hs
  unfold reachBytes at hs
  have HT0 : Hid ((w.alloc (.cells #[.string ⟨#[]⟩, .string ⟨#[]⟩] 35)).there w.heap.size 0 2) := there_new_at w _ _ _ _ rfl rfl
  have hb0 : Hid (Below w.heap.size w (w.alloc (.cells #[.string ⟨#[]⟩, .string ⟨#[]⟩] 35))) := (Below.refl _ _).alloc (Nat.le_refl _) _
  have hlt0 : Hid (w.heap.size < (w.alloc (.cells #[.string ⟨#[]⟩, .string ⟨#[]⟩] 35)).heap.size) := by show _ < _; simp
  go_enter Tryz.func56, Tryz.ntmps56
  go_wp2_with fail
  generalize w.alloc (.cells #[.string ⟨#[]⟩, .string ⟨#[]⟩] 35) = W at *
  refine (find_any p 61 W HS.out).mono ?_
  rintro x w1 ⟨⟨k, rfl, hat⟩, hw⟩
  subst hw
  obtain ⟨hnm, hvl⟩ := at_name hat
  have hk := hat.1
  have k0 : (0 : Int) ≤ (k : Int) := Int.natCast_nonneg _
  have k1 : (k : Int) ≤ (p.size : Int) := by omega
  obtain ⟨N, hN⟩ : ∃ N : ByteArray, p.extract 0 k = N := ⟨_, rfl⟩
  have HNs : Hid (N.size ≤ reachBytes) := by show _ ≤ _; rw [← hN, ext_take, str_size, List.length_take, len_list]; exact Nat.le_trans (Nat.min_le_right _ _) HS.out
  have HNL : Hid (N.data.toList = Pct.name p.data.toList) := by show _ = _; rw [← hN, ext_take, hnm]
  have HVL := hide hvl
  clear hat hnm hvl
  go_wp2_with fail
  refine (refUnescape_any N true w1 HNs.out).mono ?_
  rintro x w2 ⟨hb2, hx⟩
  have HT2 := hide (there_below HT0.out hb2 hlt0.out)
  have HB2 := hide (hb0.out.trans (hb2.mono hb0.out.size))
  have HL2 : Hid (w.heap.size < w2.heap.size) := Nat.lt_of_lt_of_le hlt0.out hb2.size
  clear hb2 HT0 hb0 hlt0 hN
  have HPP : Hid (Pct.pair p.data.toList = match Pct.unesc true N.data.toList, Pct.unesc true (Pct.value p.data.toList) with | some n, some v => some (n, v) | _, _ => none) := by
    show _ = _; rw [HNL.out]; rfl
  rcases hx with ⟨a, ha, rfl⟩ | ⟨hn, rfl⟩
  · have HA := hide ha
    clear ha
    by_cases hke : k = p.size
    · have hki : (k : Int) = (p.size : Int) := by omega
      have HP2 : Hid (Pct.pair p.data.toList = some (a, [])) := by
        show _ = _
        rw [HPP.out, HA.out, HVL.out, List.drop_of_length_le (by rw [len_list]; omega), Pct.unesc_nil]
      have f0 : w2.frozen? ⟨w.heap.size, 0, none⟩ = false := by simpa using (HT2.out 0 (by decide)).2
      have f1 : w2.frozen? ⟨w.heap.size, 1, none⟩ = false := by simpa using (HT2.out 1 (by decide)).2
      obtain ⟨u0, hu0⟩ : ∃ v, w2.cell? ⟨w.heap.size, 0, none⟩ = some v := Option.isSome_iff_exists.1 (by simpa using (HT2.out 0 (by decide)).1)
      obtain ⟨u1, hu1⟩ : ∃ v, w2.cell? ⟨w.heap.size, 1, none⟩ = some v := Option.isSome_iff_exists.1 (by simpa using (HT2.out 1 (by decide)).1)
      go_wp2_with fail
      first
        | (refine bodyPost_ret (v := .tuple #[.agg #[S a, .string ⟨#[]⟩], .int .i64 0]) (results_ct (b := w.heap.size) (o := 0) (cs := [S a, .string ⟨#[]⟩]) Tryz.results56 _ rfl (two_set w2 _ _ _ HT2.out) Tryz.underlying35 rfl lst.sizeP rfl) rfl ⟨((HB2.out.setCell (Nat.le_refl _) _).setCell (Nat.le_refl _) _), Or.inl ⟨a, [], HP2.out, rfl⟩⟩)
        | (go_region
           all_goals
             go_wp2_with fail
             refine bodyPost_ret (v := .tuple #[.agg #[S a, .string ⟨#[]⟩], .int .i64 0]) (results_ct (b := w.heap.size) (o := 0) (cs := [S a, .string ⟨#[]⟩]) Tryz.results56 _ rfl (two_set w2 _ _ _ HT2.out) Tryz.underlying35 rfl lst.sizeP rfl) rfl ⟨(((HB2.out.setCell (Nat.le_refl _) _).setCell (Nat.le_refl _) _).drew), Or.inl ⟨a, [], HP2.out, rfl⟩⟩)
    · have hki : ¬ (k : Int) = (p.size : Int) := by omega
      have k2 : (k : Int) + 1 ≤ (p.size : Int) := by omega
      have k3 : (0 : Int) ≤ (k : Int) + 1 := by omega
      have k4 : ((k : Int) + 1).toNat = k + 1 := by omega
      obtain ⟨V, hV⟩ : ∃ V : ByteArray, p.extract (k + 1) p.size = V := ⟨_, rfl⟩
      have HVs : Hid (V.size ≤ reachBytes) := by show _ ≤ _; rw [← hV, ext_drop, str_size, List.length_drop, len_list]; exact Nat.le_trans (Nat.sub_le _ _) HS.out
      have HV2 : Hid (V.data.toList = Pct.value p.data.toList) := by show _ = _; rw [← hV, ext_drop, HVL.out]
      go_wp2_with fail
      refine (refUnescape_any V true w2 HVs.out).mono ?_
      rintro x w3 ⟨hb3, hx⟩
      have HT3 := hide (there_below HT2.out hb3 HL2.out)
      have HB3 := hide (HB2.out.trans (hb3.mono HB2.out.size))
      clear hb3 HT2 HB2 HL2 hV
      have f0 : w3.frozen? ⟨w.heap.size, 0, none⟩ = false := by simpa using (HT3.out 0 (by decide)).2
      have f1 : w3.frozen? ⟨w.heap.size, 1, none⟩ = false := by simpa using (HT3.out 1 (by decide)).2
      obtain ⟨u0, hu0⟩ : ∃ v, w3.cell? ⟨w.heap.size, 0, none⟩ = some v := Option.isSome_iff_exists.1 (by simpa using (HT3.out 0 (by decide)).1)
      obtain ⟨u1, hu1⟩ : ∃ v, w3.cell? ⟨w.heap.size, 1, none⟩ = some v := Option.isSome_iff_exists.1 (by simpa using (HT3.out 1 (by decide)).1)
      rcases hx with ⟨b, hb, rfl⟩ | ⟨hn, rfl⟩
      · have HP2 : Hid (Pct.pair p.data.toList = some (a, b)) := by show _ = _; rw [HPP.out, HA.out, ← HV2.out, hb]
        clear hb
        go_wp2_with fail
        first
          | (refine bodyPost_ret (v := .tuple #[.agg #[S a, S b], .int .i64 0]) (results_ct (b := w.heap.size) (o := 0) (cs := [S a, S b]) Tryz.results56 _ rfl (two_set w3 _ _ _ HT3.out) Tryz.underlying35 rfl lst.sizeP rfl) rfl ⟨((HB3.out.setCell (Nat.le_refl _) _).setCell (Nat.le_refl _) _), Or.inl ⟨a, b, HP2.out, rfl⟩⟩)
          | (go_region
             all_goals
               go_wp2_with fail
               refine bodyPost_ret (v := .tuple #[.agg #[S a, S b], .int .i64 0]) (results_ct (b := w.heap.size) (o := 0) (cs := [S a, S b]) Tryz.results56 _ rfl (two_set w3 _ _ _ HT3.out) Tryz.underlying35 rfl lst.sizeP rfl) rfl ⟨(((HB3.out.setCell (Nat.le_refl _) _).setCell (Nat.le_refl _) _).drew), Or.inl ⟨a, b, HP2.out, rfl⟩⟩)
      · have HP2 : Hid (Pct.pair p.data.toList = none) := by show _ = _; rw [HPP.out, HA.out, ← HV2.out, hn]
        clear hn
        go_wp2_with fail
        first
          | (refine bodyPost_ret (v := .tuple #[.agg #[.string ⟨#[]⟩, .string ⟨#[]⟩], .int .i64 2]) (results_ct (b := w.heap.size) (o := 0) (cs := [.string ⟨#[]⟩, .string ⟨#[]⟩]) Tryz.results56 _ rfl (two_set w3 _ _ _ HT3.out) Tryz.underlying35 rfl lst.sizeP rfl) rfl ⟨((HB3.out.setCell (Nat.le_refl _) _).setCell (Nat.le_refl _) _), Or.inr ⟨HP2.out, rfl⟩⟩)
          | (go_region
             all_goals
               go_wp2_with fail
               refine bodyPost_ret (v := .tuple #[.agg #[.string ⟨#[]⟩, .string ⟨#[]⟩], .int .i64 2]) (results_ct (b := w.heap.size) (o := 0) (cs := [.string ⟨#[]⟩, .string ⟨#[]⟩]) Tryz.results56 _ rfl (two_set w3 _ _ _ HT3.out) Tryz.underlying35 rfl lst.sizeP rfl) rfl ⟨(((HB3.out.setCell (Nat.le_refl _) _).setCell (Nat.le_refl _) _).drew), Or.inr ⟨HP2.out, rfl⟩⟩)
  · have HP2 : Hid (Pct.pair p.data.toList = none) := by
      show _ = _; rw [HPP.out, hn]
    clear hn
    have f0 : w2.frozen? ⟨w.heap.size, 0, none⟩ = false := by simpa using (HT2.out 0 (by decide)).2
    have f1 : w2.frozen? ⟨w.heap.size, 1, none⟩ = false := by simpa using (HT2.out 1 (by decide)).2
    obtain ⟨u0, hu0⟩ : ∃ v, w2.cell? ⟨w.heap.size, 0, none⟩ = some v := Option.isSome_iff_exists.1 (by simpa using (HT2.out 0 (by decide)).1)
    obtain ⟨u1, hu1⟩ : ∃ v, w2.cell? ⟨w.heap.size, 1, none⟩ = some v := Option.isSome_iff_exists.1 (by simpa using (HT2.out 1 (by decide)).1)
    go_wp2_with fail
    first
      | (refine bodyPost_ret (v := .tuple #[.agg #[.string ⟨#[]⟩, .string ⟨#[]⟩], .int .i64 2]) (results_ct (b := w.heap.size) (o := 0) (cs := [.string ⟨#[]⟩, .string ⟨#[]⟩]) Tryz.results56 _ rfl (two_set w2 _ _ _ HT2.out) Tryz.underlying35 rfl lst.sizeP rfl) rfl ⟨((HB2.out.setCell (Nat.le_refl _) _).setCell (Nat.le_refl _) _), Or.inr ⟨HP2.out, rfl⟩⟩)
      | (go_region
         all_goals
           go_wp2_with fail
           refine bodyPost_ret (v := .tuple #[.agg #[.string ⟨#[]⟩, .string ⟨#[]⟩], .int .i64 2]) (results_ct (b := w.heap.size) (o := 0) (cs := [.string ⟨#[]⟩, .string ⟨#[]⟩]) Tryz.results56 _ rfl (two_set w2 _ _ _ HT2.out) Tryz.underlying35 rfl lst.sizeP rfl) rfl ⟨(((HB2.out.setCell (Nat.le_refl _) _).setCell (Nat.le_refl _) _).drew), Or.inr ⟨HP2.out, rfl⟩⟩)

end Go.Proofs.YtcpflfpgnbihiaaGreatDoor.pctw
