import Derived.Test.YtjalggkhpnfbiaaDoorMUnescW
import Derived.Test.YtjalggkhpnfbiaaDoorMUnescW2
namespace Go.Proofs.YtjalggkhpnfbiaaDoor.pg
open Go.ChangeShapes Go.WideShapes Go.ChangeAt Go.RowKit Go.Proofs.YtjalggkhpnfbiaaDoor.common Go.Maps
attribute [local go_sem ↓] Go.wp_at_zero Go.wp_at_succ

/-- all but the reader's block stays -/
structure Kr (rb : Nat) (w w' : World) : Prop where
  os : w'.os = w.os
  tape : w'.tape = w.tape
  output : w'.output = w.output
  size : w.heap.size ≤ w'.heap.size
  block : ∀ k, k < w.heap.size → k ≠ rb → w'.heap[k]? = w.heap[k]?
theorem Kr.refl (rb : Nat) (w : World) : Kr rb w w := ⟨rfl, rfl, rfl, Nat.le_refl _, fun _ _ _ => rfl⟩
theorem Kr.trans {rb : Nat} {a b c : World} (h : Kr rb a b) (k : Kr rb b c) : Kr rb a c :=
  ⟨k.os.trans h.os, k.tape.trans h.tape, k.output.trans h.output, Nat.le_trans h.size k.size, fun i hi hn => (k.block i (Nat.lt_of_lt_of_le hi h.size) hn).trans (h.block i hi hn)⟩
theorem Kr.of {rb : Nat} {a b : World} (h : Below a.heap.size a b) : Kr rb a b := ⟨h.os, h.tape, h.output, h.size, fun k hk _ => h.block k hk⟩
theorem Kr.set (rb : Nat) (w : World) (i : Nat) (v : Value) : Kr rb w (w.setCell ⟨rb, i, none⟩ v) :=
  ⟨rfl, rfl, rfl, by simp [World.setCell], fun k _ hn => Below.heap_setCell w ⟨rb, i, none⟩ v k hn⟩
theorem Kr.drew {rb : Nat} {a b : World} (h : Kr rb a b) : Kr rb a b.drew := ⟨h.os, h.tape, h.output, h.size, h.block⟩
theorem Kr.under {rb : Nat} {a b : World} (h : Kr rb a b) (hrb : rb ≤ a.heap.size) : Below rb a b := ⟨h.os, h.tape, h.output, h.size, fun k hk => h.block k (by omega) (by omega)⟩
theorem Rr.below {w w' : World} {b : Nat} {s : ByteArray} (h : Rr w b s) (hb : Below w.heap.size w w') : Rr w' b s := by
  unfold Rr; rw [hb.block b h.lt]; exact h

abbrev PX (ea : Addr) : Ending := .panicked [{ v := X ea, recovered := false }]
/-- how a method of the reader ends: with a value, at what is left; or it gives up -/
def RPost {α : Type} (b : Nat) (ea : Addr) (w : World) (val : α → Value) (o : Option (α × List UInt8)) (e : Ending) (w' : World) : Prop :=
  Kr b w w' ∧ ((∃ x r, o = some (x, r.data.toList) ∧ e = .returned (val x) ∧ Rr w' b r) ∨ (o = none ∧ e = PX ea))

set_option maxRecDepth 100000 in
set_option maxHeartbeats 800000 in
theorem must_any (b : Nat) (s m : ByteArray) (ea : Addr) (w : World) (h : Rr w b s) (ht : Txt w ea) (hB : 1 < b) :
    Calls Tryd.prog 38 #[ptr b, .string m] w fun e w' => RPost b ea w (fun _ : Unit => .tuple #[]) ((skp m.data.toList s.data.toList).map fun r => ((), r)) e w' := by
  have HS := hide (skip_any b s m w h)
  have HK := hide (skp_cut s m)
  have HR := hide (h.set (cutB s m).1)
  have HKp := hide (Kr.set b w 0 (.string (cutB s m).1))
  have ce : (w.setCell ⟨b, 0, none⟩ (.string (cutB s m).1)).cell? ⟨1, 0, none⟩ = some (X ea) := (((Kr.set b w 0 (.string (cutB s m).1)).under (Nat.le_of_lt h.lt)).cell (p := ⟨1, 0, none⟩) hB).trans ht
  clear h ht
  generalize (cutB s m).1 = x at *
  generalize (cutB s m).2 = y at *
  go_enter Tryd.func38, Tryd.ntmps38
  go_wp2_with fail
  refine HS.out.mono ?_
  rintro e w' ⟨rfl, rfl⟩
  cases y with
  | true =>
    go_wp2
    go_end0
    exact ⟨HKp.out, Or.inl ⟨(), x, by rw [HK.out]; rfl, rfl, HR.out⟩⟩
  | false =>
    go_wp2
    exact ⟨rfl, HKp.out, Or.inr ⟨by rw [HK.out]; rfl, rfl⟩⟩
end Go.Proofs.YtjalggkhpnfbiaaDoor.pg

namespace Go.Proofs.YtjalggkhpnfbiaaDoor.pg
open Go.ChangeShapes Go.WideShapes Go.ChangeAt Go.RowKit Go.Proofs.YtjalggkhpnfbiaaDoor.common Go.Maps
attribute [local go_sem ↓] Go.wp_at_zero Go.wp_at_succ

set_option maxRecDepth 100000 in
set_option maxHeartbeats 800000 in
theorem take_any (b : Nat) (s : ByteArray) (n : Nat) (ea : Addr) (w : World) (hn : n ≤ s.size) (hs : s.size < 140737488355328) (h : Rr w b s) (he : Esc w) (ht : Txt w ea) :
    Calls Tryd.prog 51 #[ptr b, .int .i64 n] w fun e w' => RPost b ea w Value.string ((Pg.unesc (s.data.toList.take n)).map fun t => (⟨t.toArray⟩, s.data.toList.drop n)) e w' := by
  have HR := hide h
  have h' : w.heap[b]? = some (.cells #[.string s] 61) := h
  have c0 : w.cell? ⟨b, 0, none⟩ = some (.string s) := by simp [World.cell?, h']
  have HX : Hid ((s.extract 0 n).data.toList = s.data.toList.take n) := by
    have hx := ext_list s 0 n
    rw [Nat.sub_zero, List.drop_zero] at hx
    exact hx
  have HD : Hid ((s.extract n s.size).data.toList = s.data.toList.drop n) := by
    show _ = _
    rw [ext_list, List.take_of_length_le (by rw [List.length_drop, len_list]; omega)]
  have HU := hide (unescape_any (s.extract 0 n) w (by have : (s.extract 0 n).size ≤ s.size := by simp; omega
                                                      omega) he ea ht)
  have z0 : (0 : Int) ≤ (n : Int) := by omega
  have z1 : (n : Int) ≤ (s.size : Int) := by omega
  clear h h' he ht
  go_enter Tryd.func51, Tryd.ntmps51
  go_wp2_with fail
  refine HU.out.mono ?_
  rintro e w' ⟨hb, ha⟩
  unfold UAns at ha
  rw [HX.out] at ha
  have HB := hide hb
  have HR1 := hide (HR.out.below hb)
  have h1 : w'.heap[b]? = some (.cells #[.string s] 61) := HR1.out
  have c1 : w'.cell? ⟨b, 0, none⟩ = some (.string s) := by simp [World.cell?, h1]
  have f1 : w'.frozen? ⟨b, 0, none⟩ = false := by simp [World.frozen?, h1]
  clear hb h1 c0
  rcases ha with ⟨t, ht, rfl⟩ | ⟨ht, rfl⟩
  · have HT := hide ht
    clear ht
    have HR2 := hide (HR1.out.set (s.extract n s.size))
    have HK := hide ((Kr.of (rb := b) HB.out).trans (Kr.set b w' 0 (.string (s.extract n s.size))))
    go_wp2
    go_ret
    exact ⟨HK.out, Or.inl ⟨⟨t.toArray⟩, s.extract n s.size, by rw [HT.out, HD.out]; rfl, rfl, HR2.out⟩⟩
  · have HT := hide ht
    clear ht
    have HK := hide (Kr.of (rb := b) HB.out)
    go_wp2
    exact ⟨rfl, HK.out, Or.inr ⟨by rw [HT.out]; rfl, rfl⟩⟩
end Go.Proofs.YtjalggkhpnfbiaaDoor.pg
