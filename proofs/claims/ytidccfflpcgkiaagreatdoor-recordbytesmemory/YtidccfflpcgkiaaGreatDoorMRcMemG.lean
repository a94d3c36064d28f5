import Derived.Test.YtidccfflpcgkiaaGreatDoorMRcMemK
namespace Go.Proofs.YtidccfflpcgkiaaGreatDoor.rc
open Go.ChangeShapes Go.WideShapes Go.ChangeAt Go.RowKit Go.Proofs.YtidccfflpcgkiaaGreatDoor.common Go.Proofs.YtidccfflpcgkiaaGreatDoor.dk
attribute [local go_sem ↓] Go.wp_at_zero Go.wp_at_succ

theorem fr_grown {w w' : World} {row : Option Nat} (h : w.grownBy w' row) : Fr row.toList w w' :=
  ⟨h.os, h.tape, h.output, h.size, fun k hk hn => h.block k hk (fun e => hn (by rw [← e]; simp))⟩
theorem rep_snoc (l : List UInt8) (k : Nat) (c : UInt8) : l ++ List.replicate (k + 1) c = (l ++ List.replicate k c) ++ [c] := by
  rw [List.append_assoc, List.replicate_succ']
/-- a row while bytes are put behind it, k of them -/
structure Gn (g : Nat) (w : World) (l : List UInt8) (c : UInt8) (k : Nat) (u : Value) (W : World) : Prop where
  row : W.ownsRow 0 5 1 u (l.length + k) ((l ++ List.replicate k c).map B)
  fr : Fr [g] w W
  at_ : ∀ b, u.ownBlock = some b → b = g ∨ w.heap.size ≤ b
theorem Gn.next {g : Nat} {w W W1 : World} {l : List UInt8} {c : UInt8} {k : Nat} {u u' : Value} {o : Obj} (h : Gn g w l c k u W) (hr : W1.ownsRow 0 5 1 u' (l.length + k + 1) ((l ++ List.replicate k c).map B ++ [B c])) (hg : (W.alloc o).grownBy W1 u.ownBlock) (ha : u'.ownBlock = u.ownBlock ∨ u'.ownBlock = some (W.heap.size + 1)) : Gn g w l c (k + 1) u' W1 := by
  refine ⟨?_, ?_, fun b hb => ?_⟩
  · rw [rep_snoc, List.map_append]
    exact hr
  · refine (h.fr.alloc o).trans (fr_grown hg) (fun i hi => ?_)
    have hi' : u.ownBlock = some i := by simpa using hi
    rcases h.at_ i hi' with h1 | h1
    · exact Or.inl (List.mem_singleton.2 h1)
    · exact Or.inr h1
  · rcases ha with h1 | h1
    · exact h.at_ b (by rw [← h1]; exact hb)
    · rw [h1] at hb
      cases hb
      have := h.fr.size
      omega
set_option maxRecDepth 100000 in
set_option maxHeartbeats 6400000 in
theorem grown_any (A : Nat → Prop) (l : List UInt8) (g cap : Nat) (c : UInt8) (w : World) (h : Rw A w (.slice (some ⟨g, 0, none⟩) l.length cap) l) (hl : l.length ≤ 1048576) :
    Calls Tryz.prog 24 #[.slice (some ⟨g, 0, none⟩) l.length cap, .int .u8 (c.toNat : Int)] w fun e w' => ∃ v', e = .returned v' ∧ Rw (fun b => b = g ∨ (w.heap.size ≤ b ∧ b < w'.heap.size)) w' v' (l ++ List.replicate 64 c) ∧ Fr [g] w w' := by
  obtain ⟨i0, hi, hz0, hz1, hz2⟩ := info_parts info8
  have G0 : Gn g w l c 0 (.slice (some ⟨g, 0, none⟩) l.length cap) w := ⟨by simpa using h.1, Fr.refl _ _, fun b hb => by cases hb; exact Or.inl rfl⟩
  have HG0 := hide G0
  have HR0 := hide (own_below G0.row ((Below.refl _ _).alloc (Nat.le_refl _) (.cells #[.int .u8 (c.toNat : Int)] 5)))
  rw [Nat.add_zero] at HR0
  clear h G0
  go_enter Tryz.func24, Tryz.ntmps24
  go_wp2_with (at_builtin; refine wpList_append_own_at _ (by rfl) _ _ 29 (by rfl) 0 5 i0 (.int .u8 0) 1 1 Tryz.underlying29 hi hz0 hz1 hz2 rfl (by decide) (.slice (some ⟨g, 0, none⟩) l.length cap) l.length _ (by rfl) HR0.out ⟨w.heap.size, 0, none⟩ 1 1 [_] rfl rfl (cell_one_new _ _ _) ?c2 ?c3 ?c4 ?c5 ?_)
  case c2 => first | rfl | (intro u hu; simp at hu; rw [hu]; rfl)
  case c3 => unfold maxLen; omega
  case c4 => omega
  case c5 => exact Nat.zero_le _
  intro v1 w1 hown1 hgrow1 _ hat1
  have HG1 := hide (HG0.out.next (by simpa using hown1) hgrow1 hat1)
  clear hown1 hgrow1 hat1 HR0 HG0
  go_wp2_with fail
  go_loopw [5, 6] (fun u i wr => ∃ k : Nat, 1 ≤ k ∧ k ≤ 64 ∧ i = .int .i64 k ∧ Gn g w l c k u wr) (fun _ i _ => 64 - (intOf i).toNat)
  case atStart => exact ⟨1, Nat.le_refl _, by decide, rfl, HG1.out⟩
  case round =>
    obtain ⟨k, hk1, hk, rfl, hG⟩ := hrel
    have HG := hide hG
    by_cases hlt : k < 64
    · have k1 : (k : Int) < 64 := by omega
      obtain ⟨oo, co, rfl⟩ := own_slice hG.row
      have HR := hide (own_below hG.row ((Below.refl _ _).alloc (Nat.le_refl _) (.cells #[.int .u8 (c.toNat : Int)] 5)))
      clear hG
      go_wp2_with (at_builtin; refine wpList_append_own_at _ (by rfl) _ _ 29 (by rfl) 0 5 i0 (.int .u8 0) 1 1 Tryz.underlying29 hi hz0 hz1 hz2 rfl (by decide) (.slice oo (l.length + k) co) (l.length + k) _ (by rfl) HR.out ⟨wr.heap.size, 0, none⟩ 1 1 [_] rfl rfl (cell_one_new _ _ _) ?d2 ?d3 ?d4 ?d5 ?_)
      case d2 => first | rfl | (intro u hu; simp at hu; rw [hu]; rfl)
      case d3 => unfold maxLen; omega
      case d4 => omega
      case d5 => exact Nat.zero_le _
      intro v2 w2 hown2 hgrow2 _ hat2
      have HG2 := hide (HG.out.next (by rw [List.map_append, List.map_replicate, List.append_assoc]; exact hown2) hgrow2 hat2)
      clear hown2 hgrow2 hat2 HR
      go_wp2_with fail
      go_roundw
      case rel => exact ⟨k + 1, by omega, by omega, by go_num, HG2.out⟩
      case measure => simp [intOf]; omega
    · obtain rfl : k = 64 := by omega
      clear hG
      go_wp2_with fail
      go_ret
      refine ⟨_, rfl, ⟨?_, fun b hb => ?_⟩, HG.out.fr⟩
      · have := HG.out.row
        rw [List.length_append, List.length_replicate]
        exact this
      · rcases HG.out.at_ b hb with h1 | h1
        · exact Or.inl h1
        · exact Or.inr ⟨h1, (HG.out.row.lt b hb).2⟩
end Go.Proofs.YtidccfflpcgkiaaGreatDoor.rc
