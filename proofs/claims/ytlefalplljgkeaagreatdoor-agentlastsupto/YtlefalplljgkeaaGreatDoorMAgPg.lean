import Derived.Test.YtlefalplljgkeaaGreatDoorMAgTake
import Derived.Test.YtlefalplljgkeaaGreatDoorMAgPut
import Derived.Test.YtlefalplljgkeaaGreatDoorMAgFol
import Derived.Lib.LazyBuf
namespace Go.Proofs.YtlefalplljgkeaaGreatDoor.ag
open Go.ChangeShapes Go.WideShapes Go.ChangeAt Go.RowKit Go.Proofs.YtlefalplljgkeaaGreatDoor.common Go.Maps Go.WideElems
open Go.Proofs.YtlefalplljgkeaaGreatDoor.lst (PB Lies cl cl_app cl_len infoP lies_of_own lookOf lowB)
open Go.Proofs.YtlefalplljgkeaaGreatDoor.fd (Ev ckTextR X Env6 RdOut ckC)
attribute [local go_sem ↓] Go.wp_at_zero Go.wp_at_succ

/-- what an empty jar holds behind a cookie -/
def cj (n v : ByteArray) (m now : Int) : List Ck := if m = 0 then [] else [⟨n, v, m, now⟩]
theorem put_any (mb : Nat) (now : Int) (n v : ByteArray) (m : Int) (w : World) (hJ : Jar w mb []) (hn : n.size ≤ 140737488355328) (hv : v.size ≤ 140737488355328) :
    Calls Tryz.prog 42 #[.map (some mb), .int .i64 now, .agg #[.string n, .string v, .int .i64 m]] w fun e w' => e = .returned (.tuple #[]) ∧ Jar w' mb (cj n v m now) ∧ Tn (fun k => k = mb) w w' := by
  unfold cj
  by_cases hm : m = 0
  · subst hm
    rw [if_pos rfl]
    exact put_gone mb now n v w hJ (by unfold maxLen; omega)
  · rw [if_neg hm]
    exact put_one mb now n v m w hJ hn hv hm
theorem look_same (f : PB) (N : List UInt8) (h : lowB f.1 = N) : lookOf [f] N = (f.2, 1) := by
  show lst.step N (emB, 0) f = _
  unfold lst.step
  rw [if_pos h]; rfl

set_option maxRecDepth 100000 in
set_option maxHeartbeats 3200000 in
theorem take_set (mb : Nat) (now : Int) (b : Nat) (nm set n v : ByteArray) (m : Int) (w : World) (hJ : Jar w mb []) (hl : Lies w (.slice (some ⟨b, 0, none⟩) 1 1) [(nm, set)]) (hf : lowB nm = lowB scB) (hz : nm.size ≤ 140737488355328) (hset : set.size ≤ 4194304) (hg : fd.Good set.data.toList n v m) (hn : n.size ≤ 140737488355328) (hv : v.size ≤ 140737488355328) (ea : Addr) (hE : Env6 w ea) :
    Calls Tryz.prog 25 #[.map (some mb), .int .i64 now, .slice (some ⟨b, 0, none⟩) 1 1] w fun e w' => e = .returned (.tuple #[]) ∧ Jar w' mb (cj n v m now) ∧ Tn (fun k => k = mb) w w' := by
  have HL := hide (fun W (hW : Below w.heap.size w W) => lst.look_any (.slice (some ⟨b, 0, none⟩) 1 1) [(nm, set)] scB W (hl.below hW) (by simp) (fun p hp => by simp at hp; rw [hp]; exact hz))
  rw [look_same (nm, set) _ hf] at HL
  have HR : Hid (∀ W, Below w.heap.size w W → Calls Tryz.prog 41 #[.string set] W fun e w' => e = .returned (.tuple #[.agg #[.string n, .string v, .int .i64 m], .nilIface]) ∧ Below W.heap.size W w') := fun W hW => (fd.readSet_any set W ea hset (hE.below hW)).mono fun e w' ⟨h, h2⟩ => by
    rcases h with ⟨n', v', m', hg', h⟩ | ⟨h, _⟩
    · obtain ⟨rfl, rfl, rfl⟩ := fd.good_eq hg hg'
      exact ⟨h, h2⟩
    · exact absurd hg (h n v m)
  have HP := hide (fun W (hW : Jar W mb []) => put_any mb now n v m W hW hn hv)
  have HJ := hide hJ
  clear hJ hl hf hz hset hg hn hv hE
  generalize cj n v m now = R1 at *
  go_enter Tryz.func25, Tryz.ntmps25
  go_wp2_with fail
  go_loopw [13] (fun i wr => ∃ k : Nat, k ≤ 1 ∧ i = .int .i64 k ∧ Hid ((k = 0 ∧ Jar wr mb [] ∧ Below w.heap.size w wr) ∨ (k = 1 ∧ Jar wr mb R1 ∧ Tn (fun k => k = mb) w wr))) (fun i _ => 1 - (intOf i).toNat)
  case atStart => exact ⟨0, Nat.zero_le _, rfl, Or.inl ⟨rfl, HJ.out, Below.refl _ _⟩⟩
  case round =>
    obtain ⟨k, hk, rfl, HB⟩ := hrel
    rcases HB.out with ⟨rfl, hj, hb⟩ | ⟨rfl, hj, ht⟩
    · have HJ1 := hide hj
      have HB1 := hide hb
      clear HB hj hb
      go_wp2_with fail
      refine (HL.out wr HB1.out).mono ?_
      rintro e w1 ⟨rfl, b1⟩
      have HB2 := hide (kW HB1.out b1 HB1.out.size)
      have HJ2 := hide (HJ1.out.below b1)
      clear b1 HB1 HJ1
      go_wp2_with fail
      refine (HR.out w1 HB2.out).mono ?_
      rintro e w2 ⟨rfl, b2⟩
      have HB3 := hide (kW (kW HB2.out b2 HB2.out.size) (al w2 (ckO n v m)) (Nat.le_trans HB2.out.size b2.size))
      have HJ3 := hide ((HJ2.out.below b2).below (al w2 (ckO n v m)))
      obtain ⟨c0, c1, c2⟩ := cko_cells (heap_at w2 (ckO n v m))
      clear b2 HB2 HJ2
      have HP3 := hide (HP.out _ HJ3.out)
      go_wp2_with fail
      refine HP3.out.mono ?_
      rintro e w3 ⟨rfl, hj3, ht3⟩
      have HF : Hid (Jar w3 mb R1 ∧ Tn (fun k => k = mb) w w3) := ⟨hj3, (Tn.of HB3.out).trans ht3⟩
      clear hj3 ht3
      go_wp2_with fail
      go_roundw
      case rel => exact ⟨1, by omega, by go_num, Or.inr ⟨rfl, HF.out.1, HF.out.2⟩⟩
      case measure => simp [intOf]
    · have HF := hide (And.intro hj ht)
      clear HB hj ht
      go_wp2_with fail
      go_end0
      exact ⟨rfl, HF.out⟩
end Go.Proofs.YtlefalplljgkeaaGreatDoor.ag

namespace Go.Proofs.YtlefalplljgkeaaGreatDoor.ag
open Go.ChangeShapes Go.WideShapes Go.ChangeAt Go.RowKit Go.Proofs.YtlefalplljgkeaaGreatDoor.common Go.Maps Go.WideElems
attribute [local go_sem ↓] Go.wp_at_zero Go.wp_at_succ

theorem nil_eqS (w : World) (a : Option Addr) (l c : Nat) : (binOp .eql 54 (.slice a l c) (.slice none 0 0)).run Tryz.prog w = .ok (.bool a.isNone) w := Go.run_eql_slice_nil w _ _ a l c Tryz.underlying54
theorem nil_eqF (w : World) (a : Option Addr) (l c : Nat) : (binOp .eql 55 (.slice a l c) (.slice none 0 0)).run Tryz.prog w = .ok (.bool a.isNone) w := Go.run_eql_slice_nil w _ _ a l c Tryz.underlying55
abbrev pgO : Obj := .cells #[.string emB, .slice none 0 0, .slice none 0 0] 57
abbrev pgV : Value := .agg #[.string emB, .slice none 0 0, .slice none 0 0]
theorem sizeP : (Tryz.prog.info? 57).map (·.size) = some 3 := by kernel_rfl
theorem pg_cells {w : World} {F : Nat} (h : w.heap[F]? = some pgO) : w.cell? ⟨F, 0, none⟩ = some (.string emB) ∧ w.cell? ⟨F, 1, none⟩ = some (.slice none 0 0) ∧ w.cell? ⟨F, 2, none⟩ = some (.slice none 0 0) ∧ ∀ j, w.frozen? ⟨F, j, none⟩ = false := by
  refine ⟨?_, ?_, ?_, fun j => ?_⟩ <;> simp [World.cell?, World.frozen?, h]

theorem pg_set {w : World} {F : Nat} (h : w.heap[F]? = some pgO) : (w.setCells F 0 [.string emB, .slice none 0 0, .slice none 0 0]).heap[F]? = some pgO := by
  simp [World.setCells, World.setCell, Array.getElem?_modify, h]
end Go.Proofs.YtlefalplljgkeaaGreatDoor.ag
