import Derived.Test.YtpfamgahnphceaaDoorPkPush
import Derived.Shelf.Abstract
namespace Go.Proofs.YtpfamgahnphceaaDoor.pk
open Go.ChangeShapes Go.WideShapes Go.ChangeAt Go.RowKit Go.Proofs.YtpfamgahnphceaaDoor.common
open Go.Proofs.YtpfamgahnphceaaDoor.radw (B Lay)

theorem Src.keep {w w' : World} {p : Nat} {gb : Option Nat} {l : List (List UInt8)} (h : Src w p gb l) (h1 : w'.heap[p]? = w.heap[p]?) (h2 : ∀ g, gb = some g → w'.heap[g]? = w.heap[g]?) : Src w' p gb l := by
  obtain ⟨v, hv, hl⟩ := h.lie
  exact ⟨⟨v, h1.trans hv, hl.keep h2⟩, h.all⟩
theorem Src.lt {w : World} {p : Nat} {gb : Option Nat} {l : List (List UInt8)} (h : Src w p gb l) : p < w.heap.size := by
  obtain ⟨v, hv, _⟩ := h.lie
  exact (Array.getElem?_eq_some_iff.1 hv).1
theorem Src.blt {w : World} {p : Nat} {gb : Option Nat} {l : List (List UInt8)} (h : Src w p gb l) : ∀ g, gb = some g → g < w.heap.size := by
  obtain ⟨v, hv, hl⟩ := h.lie
  exact fun g hg => (hl.lt g hg).1
theorem Src.below {w w' : World} {p : Nat} {gb : Option Nat} {l : List (List UInt8)} (h : Src w p gb l) (hb : Below w.heap.size w w') : Src w' p gb l :=
  h.keep (hb.block p h.lt) fun g hg => hb.block g (h.blt g hg)
theorem Fr.below {w w1 w2 : World} {p : Nat} {gb : Option Nat} (h : Fr p gb w w1) (hb : Below w1.heap.size w1 w2) : Fr p gb w w2 :=
  ⟨hb.os.trans h.os, hb.tape.trans h.tape, hb.output.trans h.output, Nat.le_trans h.size hb.size, fun k hk h1 h2 => (hb.block k (Nat.lt_of_lt_of_le hk h.size)).trans (h.block k hk h1 h2)⟩
theorem TkOut.below {w w1 w2 : World} {p : Nat} {gb : Option Nat} {l : List (List UInt8)} (h : TkOut p gb l w w1) (hb : Below w1.heap.size w1 w2) : TkOut p gb l w w2 := by
  obtain ⟨gb', h1, h2, h3⟩ := h
  exact ⟨gb', h1, h2.below hb, h3.below hb⟩
theorem Src.drew {w : World} {p : Nat} {gb : Option Nat} {l : List (List UInt8)} (h : Src w p gb l) : Src w.drew p gb l := h.keep rfl fun _ _ => rfl

theorem neq_fn (F : Nat) (caps : Array Value) (w : World) : (binOp .neq 33 (.func (.func F) #[] caps) .nilFunc).run Tryd.prog w = .ok (.bool true) w := by kernel_rfl
theorem neq_nil (w : World) : (binOp .neq 33 .nilFunc .nilFunc).run Tryd.prog w = .ok (.bool false) w := by kernel_rfl

set_option maxHeartbeats 800000 in
theorem fresh_dry (w : World) (p : Nat) (gb : Option Nat) (kv : Value) (a : Addr) (h : Src w p gb []) (he : ErrAt w 2 a) :
    Calls Tryd.prog 10 #[ptr p, kv] w fun e w' => e = .returned (.tuple #[.string ⟨#[]⟩, XE a]) ∧ w' = w.drew := by
  obtain ⟨v, hv, hL⟩ := h.lie
  obtain ⟨ao, cap, rfl⟩ := hL.len
  have c1 := cell0 hv
  have c0 : w.cell? ⟨2, 0, none⟩ = some (XE a) := he
  have hl0 : ([] : List (List UInt8)).length = 0 := rfl
  rw [hl0] at c1
  clear he hv hL h hl0
  go_enter Tryd.func10, Tryd.ntmps10
  go_wp2_with fail
  go_region
  go_wp2
  go_ret2
  exact ⟨rfl, rfl⟩

set_option maxRecDepth 100000 in
set_option maxHeartbeats 1600000 in
theorem fresh_nil (w : World) (p : Nat) (gb : Option Nat) (d : List UInt8) (l : List (List UInt8)) (h : Src w p gb (d :: l)) (hu : radw.UrlTab w) (hup : 13 ≠ p) :
    Calls Tryd.prog 10 #[ptr p, .nilFunc] w fun e w' => e = .returned (.tuple #[.string (idn d), .nilIface]) ∧ TkOut p gb l w w' := by
  obtain ⟨v, hv, hL⟩ := h.lie
  obtain ⟨ao, cap, rfl⟩ := hL.len
  have c1 := cell0 hv
  have h1 : ¬ (((d :: l).length : Nat) : Int) = 0 := by simp; omega
  have h2 : ((((d :: l).length : Nat) : Int) == 0) = false := beq_false_of_ne h1
  have HT := hide (take_any w p gb d l h)
  have hd := h.all d (by simp)
  have HI : Hid (∀ W, TkOut p gb l w W → Calls Tryd.prog 22 #[.agg (d.map B).toArray] W fun e w' => e = .returned (.string (idn d)) ∧ Below W.heap.size W w') := fun W hW => by
    obtain ⟨gb', _, _, hf⟩ := hW
    refine identifier_any d W hd fun i hi => ?_
    rw [← hu i hi]
    exact World.cell?_of_block (hf.block _ (hu.lt (by decide)) hup (by simp))
  have hnn := neq_nil
  clear hv hL h hu hd
  generalize (d :: l).length = n at *
  generalize idn d = I at *
  generalize (d.map B).toArray = C at *
  go_enter Tryd.func10, Tryd.ntmps10
  go_wp2_with fail
  refine HT.out.mono ?_
  rintro x w1 ⟨rfl, ht⟩
  have HT1 := hide ht
  clear ht
  go_wp2_with fail
  refine (HI.out w1 HT1.out).mono ?_
  rintro x w2 ⟨rfl, hb⟩
  have HT2 := hide (HT1.out.below hb)
  clear hb
  go_wp2
  go_ret2
  exact ⟨rfl, HT2.out⟩

/-- how Fresh ends where a function is asked -/
def FnOut (t : Bool) (I : ByteArray) (a : Addr) (R : World → Prop) (e : Ending) (w' : World) : Prop :=
  (t = true ∧ e = .returned (.tuple #[.string ⟨#[]⟩, XE a]) ∧ ∃ W, R W ∧ w' = W.drew) ∨ (t = false ∧ e = .returned (.tuple #[.string I, .nilIface]) ∧ R w')

set_option maxRecDepth 100000 in
set_option maxHeartbeats 1600000 in
theorem fresh_fn (w : World) (p : Nat) (gb : Option Nat) (d : List UInt8) (l : List (List UInt8)) (h : Src w p gb (d :: l)) (hu : radw.UrlTab w) (hup : 13 ≠ p)
    (F : Nat) (caps : Array Value) (t : Bool) (a : Addr) (R : World → Prop) (eg : ∀ args w, (callFunc F args).run Tryd.prog w = .ok (.enter F args) w)
    (hR : ∀ W, R W → ErrAt W 3 a)
    (hk : ∀ W, TkOut p gb l w W → Calls Tryd.prog F (#[.string (idn d)] ++ caps) W fun e w' => e = .returned (.bool t) ∧ R w') :
    Calls Tryd.prog 10 #[ptr p, .func (.func F) #[] caps] w fun e w' => FnOut t (idn d) a R e w' := by
  obtain ⟨v, hv, hL⟩ := h.lie
  obtain ⟨ao, cap, rfl⟩ := hL.len
  have c1 := cell0 hv
  have h1 : ¬ (((d :: l).length : Nat) : Int) = 0 := by simp; omega
  have h2 : ((((d :: l).length : Nat) : Int) == 0) = false := beq_false_of_ne h1
  have HT := hide (take_any w p gb d l h)
  have hd := h.all d (by simp)
  have HI : Hid (∀ W, TkOut p gb l w W → Calls Tryd.prog 22 #[.agg (d.map B).toArray] W fun e w' => e = .returned (.string (idn d)) ∧ Below W.heap.size W w') := fun W hW => by
    obtain ⟨gb', _, _, hf⟩ := hW
    refine identifier_any d W hd fun i hi => ?_
    rw [← hu i hi]
    exact World.cell?_of_block (hf.block _ (hu.lt (by decide)) hup (by simp))
  have HK := hide hk
  have HR := hide hR
  have hnf := neq_fn F caps
  clear hv hL h hu hd hk hR
  generalize (d :: l).length = n at *
  generalize idn d = I at *
  generalize (d.map B).toArray = C at *
  go_enter Tryd.func10, Tryd.ntmps10
  go_wp2_with fail
  refine HT.out.mono ?_
  rintro x w1 ⟨rfl, ht⟩
  have HT1 := hide ht
  clear ht
  go_wp2_with fail
  refine (HI.out w1 HT1.out).mono ?_
  rintro x w2 ⟨rfl, hb⟩
  have HT2 := hide (HT1.out.below hb)
  clear hb
  cases t with
  | true =>
    go_wp2_with (go_at_fn F; refine (HK.out _ HT2.out).mono ?_; rintro x w3 ⟨rfl, hr⟩; have c4 : w3.cell? ⟨3, 0, none⟩ = some (XE a) := HR.out _ hr)
    go_region
    go_wp2
    go_ret2
    exact Or.inl ⟨rfl, rfl, _, hr, rfl⟩
  | false =>
    go_wp2_with (go_at_fn F; refine (HK.out _ HT2.out).mono ?_; rintro x w3 ⟨rfl, hr⟩)
    go_ret2
    exact Or.inr ⟨rfl, rfl, hr⟩

end Go.Proofs.YtpfamgahnphceaaDoor.pk
