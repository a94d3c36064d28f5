import Derived.Test.YtlefalplljgkeaaGreatDoorMAgVis
import Derived.Test.YtlefalplljgkeaaGreatDoorMSeemW3
namespace Go.Proofs.YtlefalplljgkeaaGreatDoor.ag
open Go.ChangeShapes Go.WideShapes Go.ChangeAt Go.RowKit Go.Proofs.YtlefalplljgkeaaGreatDoor.common Go.Maps Go.WideElems
open Go.Proofs.YtlefalplljgkeaaGreatDoor.lst (PB Lies cl cl_app cl_len infoP lies_of_own lookOf lowB)
open Go.Proofs.YtlefalplljgkeaaGreatDoor.fd (Ev ckTextR X Env6 RdOut ckC)
attribute [local go_sem ↓] Go.wp_at_zero Go.wp_at_succ

abbrev scB : ByteArray := ⟨#[83, 101, 116, 45, 67, 111, 111, 107, 105, 101]⟩
theorem look_other (f : PB) (h : lowB f.1 ≠ lowB scB) : lookOf [f] (lowB scB) = (emB, 0) := by
  show lst.step (lowB scB) (emB, 0) f = _
  unfold lst.step
  rw [if_neg h]
theorem good_nil (n v : ByteArray) (m : Int) : ¬ fd.Good [] n v m := fun h => by
  have h3 := congrArg List.length h.2.2
  rw [sz_list] at h3
  unfold fd.setB at h3
  rw [ByteArray.size_append, fd.ckB_size] at h3
  simp at h3

set_option maxRecDepth 100000 in
set_option maxHeartbeats 3200000 in
theorem take_none (mb : Nat) (now : Int) (b : Nat) (f : PB) (w : World) (hl : Lies w (.slice (some ⟨b, 0, none⟩) 1 1) [f]) (hf : lowB f.1 ≠ lowB scB) (hz : f.1.size ≤ 140737488355328) (ea : Addr) (hE : Env6 w ea) :
    Calls Tryz.prog 25 #[.map (some mb), .int .i64 now, .slice (some ⟨b, 0, none⟩) 1 1] w fun e w' => e = .returned (.tuple #[]) ∧ Below w.heap.size w w' := by
  have HL := hide (fun W (hW : Below w.heap.size w W) => lst.look_any (.slice (some ⟨b, 0, none⟩) 1 1) [f] scB W (hl.below hW) (by simp) (fun p hp => by simp at hp; rw [hp]; exact hz))
  rw [look_other f hf] at HL
  have HR : Hid (∀ W, Below w.heap.size w W → Calls Tryz.prog 41 #[.string emB] W fun e w' => e = .returned (.tuple #[.agg #[.string emB, .string emB, .int .i64 0], X ea]) ∧ Below W.heap.size W w') := fun W hW => (fd.readSet_any emB W ea (by decide) (hE.below hW)).mono fun e w' ⟨h, h2⟩ => by
    rcases h with ⟨n, v, m, hg, _⟩ | ⟨_, h⟩
    · exact absurd hg (good_nil n v m)
    · exact ⟨h, h2⟩
  clear hl hf hz hE
  go_enter Tryz.func25, Tryz.ntmps25
  go_wp2_with fail
  go_loopw [13] (fun i wr => ∃ k : Nat, k ≤ 1 ∧ i = .int .i64 k ∧ Hid (Below w.heap.size w wr)) (fun i _ => 1 - (intOf i).toNat)
  case atStart => exact ⟨0, Nat.zero_le _, rfl, Below.refl _ _⟩
  case round =>
    obtain ⟨k, hk, rfl, HB⟩ := hrel
    by_cases hlt : k < 1
    · obtain rfl : k = 0 := by omega
      go_wp2_with fail
      refine (HL.out wr HB.out).mono ?_
      rintro e w1 ⟨rfl, b1⟩
      have HB1 := hide (kW HB.out b1 HB.out.size)
      clear b1
      go_wp2_with fail
      refine (HR.out w1 HB1.out).mono ?_
      rintro e w2 ⟨rfl, b2⟩
      have HB2 := hide (kW (kW HB1.out b2 HB1.out.size) (al w2 (.cells #[.string emB, .string emB, .int .i64 0] 30)) (Nat.le_trans HB1.out.size b2.size))
      clear b2
      go_wp2_with fail
      go_roundw
      case rel => exact ⟨1, by omega, by go_num, HB2⟩
      case measure => simp [intOf]
    · obtain rfl : k = 1 := by omega
      go_wp2_with fail
      go_end0
      exact ⟨rfl, HB.out⟩
end Go.Proofs.YtlefalplljgkeaaGreatDoor.ag
