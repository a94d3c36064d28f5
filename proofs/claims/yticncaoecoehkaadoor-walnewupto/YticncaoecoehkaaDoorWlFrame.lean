import Derived.Test.YticncaoecoehkaaDoorWlHead2
import Derived.BigQuiet
namespace Go.Proofs.YticncaoecoehkaaDoor.wl
open Go.ChangeShapes Go.WideShapes Go.ChangeAt Go.RowKit Go.Proofs.YticncaoecoehkaaDoor.common Go.Proofs.YticncaoecoehkaaDoor.dk

/-- what Frame answers -/
def frL (p : List UInt8) : List UInt8 := if Wl.fit p.length = true then Wl.fr p else []
def frE (ea : Value) (n : Nat) : Value := if Wl.fit n = true then .nilIface else ea

set_option maxRecDepth 100000 in
set_option maxHeartbeats 1600000 in
theorem frame_any (w : World) (v : Value) (p : List UInt8) (h : Rd w v p) (hp : p.length ≤ 4611686018427387904) (ht : crcw.Tab w) (ea : Value) (he : w.cell? ⟨1, 0, none⟩ = some ea) :
    Calls Tryd.prog 39 #[v] w fun e w' => ∃ v', e = .returned (.tuple #[v', frE ea p.length]) ∧ w'.ownsRow w.heap.size 5 1 v' (frL p).length ((frL p).map B) ∧ Below w.heap.size w w' := by
  have HR := hide h
  obtain ⟨oa, cap, rfl, _⟩ := h
  have HP := hide hp
  have HT := hide ht
  have c0 := he
  clear hp ht he
  cases hf : Wl.fit p.length with
  | false =>
    have e1 : frL p = [] := by unfold frL; rw [hf]; rfl
    have e2 : frE ea p.length = ea := by unfold frE; rw [hf]; rfl
    rw [e1, e2]
    go_enter Tryd.func39, Tryd.ntmps39
    go_wp2_with fail
    refine (fits_any p.length w HP.out).mono ?_
    rintro r w1 ⟨rfl, rfl⟩
    rw [hf]
    go_wp2_with fail
    go_quiet (fail)
    go_wp2_with fail
    go_ret2
    exact ⟨_, rfl, World.ownsRow_nil _ _ _ _, (Fr.refl [] w1 |>.drewN _).below (fun k hk => by cases hk) (Nat.le_refl _)⟩
  | true =>
    have hfi := (Wl.fit_iff _).1 hf
    have hp1 := hfi.1
    have hp2 := hfi.2
    have e1 : frL p = Wl.fr p := by unfold frL; rw [hf]; rfl
    have e2 : frE ea p.length = .nilIface := by unfold frE; rw [hf]; rfl
    rw [e1, e2]
    obtain ⟨i0, hi, hz0, hz1, hz2⟩ := info_parts info8
    clear c0 hfi
    go_enter Tryd.func39, Tryd.ntmps39
    go_wp2_with fail
    refine (fits_any p.length w HP.out).mono ?_
    rintro r w1 ⟨rfl, rfl⟩
    rw [hf]
    go_wp2_with fail
    refine (headOf_any w1 _ p HR.out hp2 HT.out).mono ?_
    rintro r w2 ⟨rfl, hb2⟩
    obtain ⟨A, hA⟩ : ∃ A, A = ((Wl.hd p).map B).toArray := ⟨_, rfl⟩
    have HTH : Hid ((w2.alloc (.cells #[.int .u8 0, .int .u8 0, .int .u8 0, .int .u8 0, .int .u8 0, .int .u8 0, .int .u8 0, .int .u8 0] 98)).there w2.heap.size 0 A.size) := by
      show World.there _ _ _ _
      rw [hA, hd_size]
      exact there_of (cur := zz) (heap_alloc_new _ _) 0 8 (by decide)
    have HA8 : Hid (A.size = 8) := by show _ = _; rw [hA, hd_size]
    have HA1 : Hid (A.all (·.oneCell') = true) := by show _ = _; rw [hA]; exact all_oneCell_toArray (b_one _)
    rw [← hA]
    have HA := hide hA
    clear hA
    obtain ⟨N, hN⟩ : ∃ N : Nat, N = 8 + p.length := ⟨_, rfl⟩
    have hNi : (8 : Int) + (p.length : Int) = (N : Int) := by omega
    have hN0 : N ≤ 8200 := by omega
    have hN8 : 8 ≤ N := by omega
    obtain ⟨W3, hW3⟩ : ∃ W3, (w2.alloc (.cells #[.int .u8 0, .int .u8 0, .int .u8 0, .int .u8 0, .int .u8 0, .int .u8 0, .int .u8 0, .int .u8 0] 98)).setCells w2.heap.size 0 A.toList = W3 := ⟨_, rfl⟩
    have q3 : W3.heap[w2.heap.size]? = some (.cells ((Wl.hd p).map B).toArray 98 (0, 0)) := by
      rw [← hW3, HA.out]
      have h3 := sets_here (cur := zz) (t := 98) (heap_alloc_new w2 (.cells zz.toArray 98)) ((Wl.hd p).map B) 0 (by rw [List.length_map, Wl.hd_len]; decide)
      rw [List.take_zero, List.nil_append, List.drop_eq_nil_of_le (by rw [List.length_map, Wl.hd_len]; decide), List.append_nil] at h3
      exact h3
    have b3 : Below w1.heap.size w1 W3 := by
      rw [← hW3]
      exact hb2.trans ((((Fr.refl [w2.heap.size] w2).alloc _).sets w2.heap.size 0 _ (Or.inl (by simp))).below (fun k hk => by have := hb2.size; simp at hk; omega) hb2.size)
    have z3 : W3.heap.size = w2.heap.size + 1 := by rw [← hW3, size_sets]; exact Array.size_push ..
    obtain ⟨W4, hW4⟩ : ∃ W4, W3.alloc (.cells (madeCells #[.int .u8 0] N) 5) = W4 := ⟨_, rfl⟩
    have q4 : W4.heap[W3.heap.size]? = some (.cells (madeCells #[.int .u8 0] N).toList.toArray 5 (0, 0)) := by rw [← hW4]; exact heap_alloc_new _ _
    have b4 : Below W3.heap.size W3 W4 := by rw [← hW4]; exact (Below.refl _ _).alloc (Nat.le_refl _) _
    have r4 : Rd W4 (.slice (some ⟨w2.heap.size, 0, none⟩) 8 8) (Wl.hd p) := ⟨_, 8, rfl, fun _ => ⟨_, 0, rfl, by have := b4.size; omega, range_of ((b4.block _ (by omega)).trans q3)⟩⟩
    have k1 := copy_run W4 W3.heap.size 0 N N (some ⟨w2.heap.size, 0, none⟩) 8 (Wl.hd p) (by obtain ⟨_, _, he, hr⟩ := r4; cases he; exact hr) (by rw [Wl.hd_len]; exact hN8) (there_of q4 0 _ (by rw [made_len, Wl.hd_len]; omega))
    rw [Wl.hd_len] at k1
    obtain ⟨W5, hW5⟩ : ∃ W5, W4.setCells W3.heap.size 0 ((Wl.hd p).map B) = W5 := ⟨_, rfl⟩
    rw [hW5] at k1
    have q5 := sets_here q4 ((Wl.hd p).map B) 0 (by rw [List.length_map, Wl.hd_len, made_len]; omega)
    rw [hW5, List.take_zero, List.nil_append] at q5
    have b5 : Below w1.heap.size w1 W5 := by
      rw [← hW5]
      exact keepD b3 b4 |>.trans (((Fr.refl [W3.heap.size] W4).sets W3.heap.size 0 _ (Or.inl (by simp))).below (fun k hk => by have := b3.size; simp at hk; omega) (by have := b3.size; have := b4.size; omega))
    have r5 := HR.out.below b5
    have l5 : ((Wl.hd p).map B ++ (madeCells #[.int .u8 0] N).toList.drop (0 + ((Wl.hd p).map B).length)).length = N := by
      rw [List.length_append, List.length_map, List.length_drop, made_len, Wl.hd_len]; omega
    have k2 := copy_run W5 W3.heap.size 8 p.length p.length oa cap p (by obtain ⟨_, _, he, hr⟩ := r5; cases he; exact hr) (Nat.le_refl _) (there_of q5 8 _ (by rw [l5]; omega))
    obtain ⟨W6, hW6⟩ : ∃ W6, W5.setCells W3.heap.size 8 (p.map B) = W6 := ⟨_, rfl⟩
    rw [hW6] at k2
    have q6 := sets_here q5 (p.map B) 8 (by rw [l5, List.length_map]; omega)
    have e6 : ((Wl.hd p).map B ++ (madeCells #[.int .u8 0] N).toList.drop (0 + ((Wl.hd p).map B).length)).take 8 = (Wl.hd p).map B := List.take_left' (by rw [List.length_map, Wl.hd_len])
    rw [hW6, e6, List.drop_eq_nil_of_le (by rw [l5, List.length_map]; omega), List.append_nil, ← List.map_append] at q6
    have HQ6 : Hid (Nw W6 W3.heap.size (Wl.fr p)) := q6
    have HB6 : Hid (Below w1.heap.size w1 W6) := by
      show Below _ _ _
      rw [← hW6]
      exact b5.trans (((Fr.refl [W3.heap.size] W5).sets W3.heap.size 8 _ (Or.inl (by simp))).below (fun k hk => by have := b3.size; simp at hk; omega) b5.size)
    have HS3 : Hid (w1.heap.size ≤ W3.heap.size) := b3.size
    have HN := hide hN
    have hNs : (N : Int) - 8 = (p.length : Int) := by omega
    have hNn : N - 8 = p.length := by omega
    have hpn : ¬ p.length = 0 := by omega
    clear hN q3 b3 z3 q4 b4 r4 q5 b5 r5 l5 q6 e6 hb2 hW5 hW6
    go_wp2_with (first
      | (refine wpList_store_mid rfl 98 (.tmp 4) (.tmp 12) rfl w2.heap.size 0 A rfl rfl HTH.out ((sizeHead).trans (by rw [HA8.out])) HA1.out ?_)
      | (refine wpList_make_row _ rfl _ _ 22 rfl 5 i0 (.int .u8 0) Tryd.underlying22 hi hz0 hz1 rfl .i64 .i64 N ?c1 ?c2 ?c3 ?c4 ?_))
    case c1 => rfl
    case c2 => rfl
    case c3 => rw [hz2]; omega
    case c4 => omega
    go_ret2
    refine ⟨_, rfl, ?_, HB6.out⟩
    have := HQ6.out.own w1.heap.size HS3.out (by rw [Wl.fr_len]; unfold maxLen; omega)
    rw [Wl.fr_len, ← HN.out] at this
    rw [Wl.fr_len, ← HN.out]
    exact this
end Go.Proofs.YticncaoecoehkaaDoor.wl
