import Derived.Test.YtmdjppjfjkgnpaaGreatDoorCutOne
namespace Go.Proofs.YtmdjppjfjkgnpaaGreatDoor.tm
open Go.ChangeShapes Go.WideShapes Go.ChangeAt Go.RowKit Go.Proofs.YtmdjppjfjkgnpaaGreatDoor.common Go.Proofs.YtmdjppjfjkgnpaaGreatDoor.bk Go.Proofs.YtmdjppjfjkgnpaaGreatDoor.fd
attribute [local go_sem ↓] Go.wp_at_zero Go.wp_at_succ

set_option maxRecDepth 100000 in
theorem split_any (s : ByteArray) (w : World) (hs : s.size ≤ 4611686018427387904) :
    Calls Tryz.prog 18 #[.string s] w fun e w' => e = .returned (.tuple #[S (before 63 s.data.toList), S (behind 63 s.data.toList), .bool (s.data.toList.contains 63)]) ∧ Below w.heap.size w w' := by
  have HC := hide (cut_any s 63 w hs)
  generalize s.data.toList.contains 63 = f at *
  go_enter Tryz.func18, Tryz.ntmps18
  go_wp2_with fail
  refine HC.out.mono ?_
  rintro e w' ⟨rfl, hb⟩
  have HB := hide hb
  clear hb
  go_wp2_with fail
  refine bodyPost_ret (results_tmp3 rfl _ _ _) rfl ⟨rfl, HB.out⟩

theorem ba_parts (s : ByteArray) (h : s.data.toList.contains 63 = true) : before 63 s.data.toList ++ [63] ++ behind 63 s.data.toList = s.data.toList := by
  rcases index_cases 63 s.data.toList with ⟨h1, h2⟩ | ⟨i, h1, h2, h3, h4⟩
  · rw [(cut_no h2).2.2] at h; cases h
  · obtain ⟨a1, a2, _⟩ := cut_at (r := s.data.toList.drop (i + 1)) h4
    rw [← h3] at a1 a2
    rw [a1, a2, List.append_assoc, List.singleton_append]
    exact h3.symm
theorem ba_whole (s : ByteArray) (h : s.data.toList.contains 63 = false) : before 63 s.data.toList = s.data.toList ∧ behind 63 s.data.toList = [] := by
  rcases index_cases 63 s.data.toList with ⟨h1, h2⟩ | ⟨i, h1, h2, h3, h4⟩
  · exact ⟨(cut_no h2).1, (cut_no h2).2.1⟩
  · obtain ⟨_, _, a3⟩ := cut_at (r := s.data.toList.drop (i + 1)) h4
    rw [← h3] at a3
    rw [a3] at h; cases h
theorem ba_none (s : ByteArray) : ∀ x ∈ before 63 s.data.toList, x ≠ (63 : UInt8) := by
  rcases index_cases 63 s.data.toList with ⟨h1, h2⟩ | ⟨i, h1, h2, h3, h4⟩
  · rw [(cut_no h2).1]; exact h2
  · obtain ⟨a1, _, _⟩ := cut_at (r := s.data.toList.drop (i + 1)) h4
    rw [← h3] at a1
    rw [a1]; exact h4

end Go.Proofs.YtmdjppjfjkgnpaaGreatDoor.tm
