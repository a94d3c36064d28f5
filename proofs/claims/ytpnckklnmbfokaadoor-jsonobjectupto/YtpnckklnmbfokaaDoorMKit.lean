import Derived.Test.YtpnckklnmbfokaaDoorAgainLaw
namespace Go.Proofs.YtpnckklnmbfokaaDoor.jw
open Go.ChangeShapes Go.WideShapes Go.ChangeAt Go.RowKit Go.Proofs.YtpnckklnmbfokaaDoor.common
attribute [local go_sem ↓] Go.wp_at_zero Go.wp_at_succ

theorem own_geM {w : World} {base : Nat} {e : TypeId} {size : Nat} {v : Value} {n : Nat} {xs : List Value} (h : w.ownsRow base e size v n xs) : ∀ b, v.ownBlock = some b → base ≤ b := by
  intro b hb
  exact (h.lt b hb).1
theorem takeM (l : List Mem) (k : Nat) (h : k < l.length) : l.take (k + 1) = l.take k ++ [l[k]] := by
  rw [List.take_succ_eq_append_getElem h]

set_option maxRecDepth 100000 in
set_option maxHeartbeats 1600000 in
theorem copiedM_any (v : Value) (l : List Mem) (w : World) (hl : Lies w v l) (hs : l.length * 56 ≤ 140737488355328) :
    Calls Tryd.prog 12 #[v] w fun e w' => ∃ v', e = .returned v' ∧ w'.ownsRow w.heap.size 33 5 v' l.length (cms l) ∧ Below w.heap.size w w' := by
  obtain ⟨i0, hi, hz0, hz1, hz2⟩ := info_parts infoM
  obtain ⟨oa, cap, rfl, hcp, hc⟩ := hl
  have HC := hide hc
  clear hc
  go_enter Tryd.func12, Tryd.ntmps12
  go_wp2_with fail
  go_loopw [3, 4] (fun v i wr => ∃ k : Nat, k ≤ l.length ∧ i = .int .i64 k ∧ wr.ownsRow w.heap.size 33 5 v k (cms (l.take k)) ∧ Below w.heap.size w wr) (fun _ i _ => l.length - (intOf i).toNat)
  case atStart => exact ⟨0, Nat.zero_le _, rfl, World.ownsRow_nil _ _ _ _, Below.refl _ _⟩
  case round =>
    obtain ⟨k, hk, rfl, hown, hnx⟩ := hrel
    have hsz := hnx.size
    by_cases hlt : k < l.length
    · have hki : (k : Int) < (l.length : Int) := by omega
      have hcap : (k : Int) < (cap : Int) := by omega
      have k0 : (0 : Int) ≤ (k : Int) := Int.natCast_nonneg _
      obtain ⟨b, o, rfl, hb, ha⟩ := HC.out k hlt
      have hA := ha.below hnx hb
      have d0 := hA.c0
      have d1 := hA.c1
      have d2 := hA.c2
      have d3 := hA.c3
      have d4 := hA.c4
      clear hA ha
      have HSN := hide (takeM l k hlt)
      generalize l[k] = p at *
      go_wp2_with (at_builtin; refine wpList_append_own _ rfl _ _ 30 rfl w.heap.size 33 i0 _ 5 56 Tryd.underlying30 hi hz0 hz1 hz2 rfl (by decide) _ _ _ rfl (hown.alloc _) ⟨wr.heap.size, 0, none⟩ 1 1 (cm p) rfl rfl (cells_new wr (cm p) 33) ?c2 ?c3 ?c4 ?c5 ?_)
      case c2 => intro u hu; simp [cm] at hu; rcases hu with rfl | rfl | rfl | rfl | rfl <;> rfl
      case c3 => unfold maxLen; omega
      case c4 => omega
      case c5 => first | omega | (simp; omega)
      intro v' w1 hown' hgrow _
      have R1 : w1.ownsRow w.heap.size 33 5 v' (k + 1) (cms (l.take (k + 1))) := by
        rw [HSN.out, cms_app]
        show w1.ownsRow _ _ _ _ _ (cms (l.take k) ++ (cm p ++ []))
        rw [List.append_nil]; exact hown'
      have R2 : Below w.heap.size w w1 := (hnx.alloc hsz _).grown hgrow (by simp; omega) (own_geM hown)
      clear hown' hgrow hown hnx
      have H1 := hide R1
      have H2 := hide R2
      clear R1 R2
      go_wp2
      go_roundw
      case rel => exact ⟨k + 1, by omega, by go_num, H1.out, H2.out⟩
      case measure => simp [intOf]; omega
    · obtain rfl : k = l.length := by omega
      rw [List.take_length] at hown
      have H1 := hide hown
      have H2 := hide hnx
      clear hown hnx
      go_wp2
      go_ret
      exact ⟨_, rfl, H1.out, H2.out⟩
end Go.Proofs.YtpnckklnmbfokaaDoor.jw
