import Derived.Test.YtaejlcffimkopaaDoorRdSkip
import Derived.Test.YtaejlcffimkopaaDoorUnescW2
namespace Go.Proofs.YtaejlcffimkopaaDoor.pg
open Go.ChangeShapes Go.WideShapes Go.ChangeAt Go.RowKit Go.Proofs.YtaejlcffimkopaaDoor.common Go.Maps
attribute [local go_sem ↓] Go.wp_at_zero Go.wp_at_succ

/-- all but the reader's block stays -/
structure Kr (rb : Nat) (w w' : World) : Prop where
  os : w'.os = w.os
  tape : w'.tape = w.tape
  output : w'.output = w.output
  size : w.heap.size ≤ w'.heap.size
  block : ∀ k, k < w.heap.size → k ≠ rb → w'.heap[k]? = w.heap[k]?
theorem Kr.refl (rb : Nat) (w : World) : Kr rb w w := ⟨rfl, rfl, rfl, Nat.le_refl _, fun _ _ _ => rfl⟩
theorem Kr.trans {rb : Nat} {a b c : World} (h : Kr rb a b) (k : Kr rb b c) : Kr rb a c :=
  ⟨k.os.trans h.os, k.tape.trans h.tape, k.output.trans h.output, Nat.le_trans h.size k.size, fun i hi hn => (k.block i (Nat.lt_of_lt_of_le hi h.size) hn).trans (h.block i hi hn)⟩
theorem Kr.of {rb : Nat} {a b : World} (h : Below a.heap.size a b) : Kr rb a b := ⟨h.os, h.tape, h.output, h.size, fun k hk _ => h.block k hk⟩
theorem Kr.set (rb : Nat) (w : World) (i : Nat) (v : Value) : Kr rb w (w.setCell ⟨rb, i, none⟩ v) :=
  ⟨rfl, rfl, rfl, by simp [World.setCell], fun k _ hn => Below.heap_setCell w ⟨rb, i, none⟩ v k hn⟩
theorem Kr.drew {rb : Nat} {a b : World} (h : Kr rb a b) : Kr rb a b.drew := ⟨h.os, h.tape, h.output, h.size, h.block⟩
theorem Kr.under {rb : Nat} {a b : World} (h : Kr rb a b) (hrb : rb ≤ a.heap.size) : Below rb a b := ⟨h.os, h.tape, h.output, h.size, fun k hk => h.block k (by omega) (by omega)⟩
theorem Rr.below {w w' : World} {b : Nat} {s : ByteArray} (h : Rr w b s) (hb : Below w.heap.size w w') : Rr w' b s := by
  unfold Rr; rw [hb.block b h.lt]; exact h

abbrev PX (ea : Addr) : Ending := .panicked [{ v := X ea, recovered := false }]
/-- how a method of the reader ends: with a value, at what is left; or it gives up -/
def RPost {α : Type} (b : Nat) (ea : Addr) (w : World) (val : α → Value) (o : Option (α × List UInt8)) (e : Ending) (w' : World) : Prop :=
  Kr b w w' ∧ ((∃ x r, o = some (x, r.data.toList) ∧ e = .returned (val x) ∧ Rr w' b r) ∨ (o = none ∧ e = PX ea))

set_option maxRecDepth 100000 in
set_option maxHeartbeats 800000 in
theorem must_any (b : Nat) (s m : ByteArray) (ea : Addr) (w : World) (h : Rr w b s) (ht : Txt w ea) (hB : 1 < b) :
    Calls Tryd.prog 44 #[ptr b, .string m] w fun e w' => RPost b ea w (fun _ : Unit => .tuple #[]) ((skp m.data.toList s.data.toList).map fun r => ((), r)) e w' := by
  have HS := hide (skip_any b s m w h)
  have HK := hide (skp_cut s m)
  have HR := hide (h.set (cutB s m).1)
  have HKp := hide (Kr.set b w 0 (.string (cutB s m).1))
  have ce : (w.setCell ⟨b, 0, none⟩ (.string (cutB s m).1)).cell? ⟨1, 0, none⟩ = some (X ea) := (((Kr.set b w 0 (.string (cutB s m).1)).under (Nat.le_of_lt h.lt)).cell (p := ⟨1, 0, none⟩) hB).trans ht
  clear h ht
  generalize (cutB s m).1 = x at *
  generalize (cutB s m).2 = y at *
  go_enter Tryd.func44, Tryd.ntmps44
  go_wp2_with fail
  refine HS.out.mono ?_
  rintro e w' ⟨rfl, rfl⟩
  cases y with
  | true =>
    go_wp2
    go_end0
    exact ⟨HKp.out, Or.inl ⟨(), x, by rw [HK.out]; rfl, rfl, HR.out⟩⟩
  | false =>
    go_wp2
    exact ⟨rfl, HKp.out, Or.inr ⟨by rw [HK.out]; rfl, rfl⟩⟩
end Go.Proofs.YtaejlcffimkopaaDoor.pg
