import Derived.Test.YthkbheojjcdglabDoorGetOne
import Derived.Test.YthkbheojjcdglabDoorPickWalk
import Derived.Test.YthkbheojjcdglabDoorFormBackLaw
namespace Go.Proofs.YthkbheojjcdglabDoor.pctw
open Go.ChangeShapes Go.WideShapes Go.ChangeAt Go.RowKit Go.Proofs.YthkbheojjcdglabDoor.common
open Go.Proofs.YthkbheojjcdglabDoor.lst (PB Lies cl cl_app infoP takeP own_ge cells_new ne_list emp getOf getOf_snoc)
attribute [local go_sem ↓] Go.wp_at_zero Go.wp_at_succ

set_option maxRecDepth 100000 in
set_option maxHeartbeats 3200000 in
theorem others_any (v : Value) (l : List PB) (n : ByteArray) (w : World) (hl : Lies w v l) (hs : l.length ≤ 1048576) :
    Calls Tryd.prog 16 #[v, .string n, .int .i64 30] w fun e w' => ∃ v' r, e = .returned v' ∧ w'.ownsRow w.heap.size 34 2 v' r.length (cl r) ∧ Below w.heap.size w w' ∧ r.length ≤ 30 ∧ tot r ≤ tot l ∧ ∀ p ∈ r, p.1 ≠ n := by
  obtain ⟨i0, hi, hz0, hz1, hz2⟩ := info_parts infoP
  obtain ⟨oa, ca, rfl, hca⟩ := hl
  have HA := hide hca
  clear hca
  go_enter Tryd.func16, Tryd.ntmps16
  go_wp2_with fail
  go_loopw [7, 8] (fun v i wr => ∃ (k : Nat) (r : List PB), k ≤ l.length ∧ i = .int .i64 k ∧ wr.ownsRow w.heap.size 34 2 v r.length (cl r) ∧ Below w.heap.size w wr ∧ r.length ≤ 30 ∧ tot r ≤ tot (l.take k) ∧ ∀ p ∈ r, p.1 ≠ n) (fun _ i _ => l.length - (intOf i).toNat)
  case atStart => exact ⟨0, [], Nat.zero_le _, rfl, World.ownsRow_nil _ _ _ _, Below.refl _ _, by decide, Nat.le_refl _, fun p hp => by cases hp⟩
  case round =>
    obtain ⟨k, r, hk, rfl, hown, hnx, hr30, htot, hne⟩ := hrel
    have HT := hide htot
    have HNE := hide hne
    have hsz := hnx.size
    clear htot hne
    by_cases hlt : k < l.length
    · have hki : (k : Int) < (l.length : Int) := by omega
      obtain ⟨oo, cc, rfl, _⟩ := lst.lies_of_own hown
      by_cases h30 : r.length < 30
      · have h30i : (r.length : Int) < 30 := by omega
        obtain ⟨b, o, rfl, hb, c0, c1⟩ := HA.out k hlt
        have d0 := (hnx.cell (p := ⟨b, o + k * 2, none⟩) hb).trans c0
        have d1 := (hnx.cell (p := ⟨b, o + k * 2 + 1, none⟩) hb).trans c1
        have HTT := hide (tot_take l k hlt)
        have HTS : Hid (tot (l.take (k + 1)) = tot (l.take k) + (l[k].1.size + l[k].2.size + 1)) := by show _ = _; rw [takeP l k hlt, tot_app]; rfl
        clear c0 c1
        generalize l[k] = p at *
        by_cases hp : p.1 = n
        · subst hp
          have HO := hide hown
          have HN := hide hnx
          clear hown hnx
          go_wp2_with fail
          go_roundw
          case rel => exact ⟨k + 1, r, by omega, by go_num, HO.out, HN.out, hr30, by have := HT.out; have := HTS.out; omega, HNE.out⟩
          case measure => simp [intOf]; omega
        · have hne1 : (p.1.toList == n.toList) = false := ne_list hp
          go_wp2_with (at_builtin; refine wpList_append_own _ rfl _ _ 22 rfl w.heap.size 34 i0 (.agg #[.string ⟨#[]⟩, .string ⟨#[]⟩]) 2 32 Tryd.underlying22 hi hz0 hz1 hz2 rfl (by decide) _ _ _ rfl (hown.alloc _) ⟨wr.heap.size, 0, none⟩ 1 1 [.string p.1, .string p.2] rfl rfl (cells_new _ _ _) ?c2 ?c3 ?c4 ?c5 ?_)
          case c2 => first | rfl | (intro u hu; simp at hu; rcases hu with rfl | rfl <;> rfl)
          case c3 => unfold maxLen; omega
          case c4 => omega
          case c5 => first | omega | (simp; omega)
          intro v' w1 hown' hgrow _
          have R1 : w1.ownsRow w.heap.size 34 2 v' (r ++ [p]).length (cl (r ++ [p])) := by
            rw [List.length_append, cl_app]; exact hown'
          have R2 : Below w.heap.size w w1 := (hnx.alloc hsz _).grown hgrow (by simp; omega) (own_ge hown)
          clear hown' hgrow hown hnx
          have H1 := hide R1
          have H2 := hide R2
          clear R1 R2
          have HP := hide hp
          go_wp2
          go_roundw
          case rel =>
            refine ⟨k + 1, r ++ [p], by omega, by go_num, H1.out, H2.out, by rw [List.length_append]; simp; omega, ?_, ?_⟩
            · rw [HTS.out, tot_app]
              have := HT.out
              show tot r + (p.1.size + p.2.size + 1 + 0) ≤ _
              omega
            · intro x hx
              rcases List.mem_append.1 hx with h | h
              · exact HNE.out x h
              · simp at h; subst h; exact HP.out
          case measure => simp [intOf]; omega
      · have h30i : ¬ (r.length : Int) < 30 := by omega
        have HO := hide hown
        have HN := hide hnx
        have HTL : Hid (tot (l.take k) ≤ tot l) := by show _ ≤ _; have := tot_take l k hlt; omega
        clear hown hnx
        go_wp2_with fail
        go_ret
        first
          | exact ⟨_, rfl, r, HO.out, HN.out, hr30, Nat.le_trans HT.out HTL.out, fun a b h => HNE.out _ h⟩
          | exact ⟨_, r, rfl, HO.out, HN.out, hr30, Nat.le_trans HT.out HTL.out, HNE.out⟩
    · obtain rfl : k = l.length := by omega
      have ht := HT.out
      rw [List.take_length] at ht
      have HT2 := hide ht
      have HO := hide hown
      have HN := hide hnx
      clear hown hnx ht
      go_wp2_with fail
      go_ret
      exact ⟨_, r, rfl, HO.out, HN.out, hr30, HT2.out, HNE.out⟩

/-- what Get finds of a parameter that stands t times among others -/
theorem get_none (l : List PB) (n : ByteArray) (a : ByteArray × Nat) (h : ∀ p ∈ l, p.1 ≠ n) : l.foldl (lst.step n) a = a := by
  induction l generalizing a with
  | nil => rfl
  | cons p r ih =>
    rw [List.foldl_cons]
    have : lst.step n a p = a := by unfold lst.step; rw [if_neg (fun hh => h p (by simp) hh.1)]
    rw [this]; exact ih a (fun q hq => h q (by simp [hq]))
theorem get_rep (n v : ByteArray) (t : Nat) (a : ByteArray × Nat) : (List.replicate t ((n, v) : PB)).foldl (lst.step n) a = if v = emp ∨ t = 0 then a else (if a.2 = 0 then v else a.1, a.2 + t) := by
  induction t generalizing a with
  | zero => simp
  | succ t ih =>
    rw [List.replicate_succ, List.foldl_cons, ih]
    by_cases hv : v = emp
    · have : lst.step n a (n, v) = a := by unfold lst.step; rw [if_neg (fun hh => hh.2 hv)]
      rw [this, if_pos (Or.inl hv), if_pos (Or.inl hv)]
    · have : lst.step n a (n, v) = (if a.2 = 0 then v else a.1, a.2 + 1) := by unfold lst.step; rw [if_pos ⟨rfl, hv⟩]
      rw [this]
      by_cases ht : t = 0
      · subst ht; simp [hv]
      · simp [hv, ht]; omega
theorem get_once (A C : List PB) (n v : ByteArray) (t : Nat) (hA : ∀ p ∈ A, p.1 ≠ n) (hC : ∀ p ∈ C, p.1 ≠ n) : getOf ((A ++ List.replicate t (n, v)) ++ C) n = if v = emp ∨ t = 0 then (emp, 0) else (v, t) := by
  unfold getOf
  rw [List.foldl_append, List.foldl_append, get_none A n _ hA, get_rep, get_none C n _ hC]
  split
  · rfl
  · simp

end Go.Proofs.YthkbheojjcdglabDoor.pctw
