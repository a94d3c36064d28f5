import Derived.Test.YtkamnkldgeaaaaaDoorDaKeep
import Derived.Test.YtkamnkldgeaaaaaDoorDaWhole
import Derived.Test.YtkamnkldgeaaaaaDoorDaSl
import Derived.Test.YtkamnkldgeaaaaaDoorDrQd
import Derived.Test.YtkamnkldgeaaaaaDoorDrMeth2
namespace Go.Proofs.YtkamnkldgeaaaaaDoor.da
open Go.ChangeShapes Go.WideShapes Go.ChangeAt Go.RowKit Go.Proofs.YtkamnkldgeaaaaaDoor.common Go.Proofs.YtkamnkldgeaaaaaDoor.dk Go.Proofs.YtkamnkldgeaaaaaDoor.dr

/-- a disk, the document's disk, the lists that are kept: three things that share no block -/
structure Ad (base : Nat) (W0 w : World) (e : Nat → Addr) (pa pc pk : Nat) (Fa Fc FK Q : List Nat) (x y : St) (ks : List (Value × Nat × UInt8)) (j : Nat) : Prop where
  run : Run base w e pa Fa x j
  doc : Dq w pc Fc (sq y)
  kep : Kp base w pk FK Q ks
  lc : ∀ q ∈ Fc, base ≤ q
  ac : ∀ q ∈ Fa, q ∉ Fc
  ak : ∀ q ∈ Fa, q ∉ FK ∧ q ∉ Q
  ck : ∀ q ∈ Fc, q ∉ FK ∧ q ∉ Q
  low : Below base W0 w
section
variable {base : Nat} {W0 w w' : World} {e : Nat → Addr} {pa pc pk : Nat} {Fa Fc FK Q : List Nat} {x y : St} {ks : List (Value × Nat × UInt8)} {j : Nat}
theorem Ad.keep (h : Ad base W0 w e pa pc pk Fa Fc FK Q x y ks j) (hb : Below w.heap.size w w') : Ad base W0 w' e pa pc pk Fa Fc FK Q x y ks j :=
  ⟨h.run.keep hb, h.doc.below hb, h.kep.below hb, h.lc, h.ac, h.ak, h.ck, h.low.trans (hb.mono h.run.err.size)⟩
theorem Ad.up (h : Ad base W0 w e pa pc pk Fa Fc FK Q x y ks j) : Ad base W0 w e pa pc pk Fa Fc FK Q x y ks (j + 1) := ⟨run_up h.run, h.doc, h.kep, h.lc, h.ac, h.ak, h.ck, h.low⟩
theorem Ad.down (h : Ad base W0 w e pa pc pk Fa Fc FK Q x y ks j) {i : Nat} (hi : x.a.length ≤ i) : Ad base W0 w e pa pc pk Fa Fc FK Q x y ks i := ⟨⟨h.run.disk, h.run.low, h.run.err, h.run.fine, hi⟩, h.doc, h.kep, h.lc, h.ac, h.ak, h.ck, h.low⟩
/-- what is no block of the three -/
def Ad.Off (Fa Fc FK Q : List Nat) (v : Value) (w : World) : Prop := ∀ g, v.ownBlock = some g → g ∉ Fa ∧ g ∉ Fc ∧ g ∉ FK ∧ g ∉ Q ∧ g < w.heap.size
theorem Ad.fresh (h : Ad base W0 w e pa pc pk Fa Fc FK Q x y ks j) {v : Value} (hv : ∀ g, v.ownBlock = some g → w.heap.size ≤ g ∧ g < w'.heap.size) : Ad.Off Fa Fc FK Q v w' := fun g hg => by
  have k := hv g hg
  exact ⟨fun hm => by have := h.run.disk.lt g hm; omega, fun hm => by have := h.doc.lt g hm; omega, fun hm => by have := h.kep.ltf g hm; omega, fun hm => by have := (h.kep.lq g hm).2; omega, k.2⟩
theorem Ad.Off.keep {v : Value} (h : Ad.Off Fa Fc FK Q v w) (hs : w.heap.size ≤ w'.heap.size) : Ad.Off Fa Fc FK Q v w' := fun g hg => by
  obtain ⟨a, b, c, d, k⟩ := h g hg
  exact ⟨a, b, c, d, Nat.lt_of_lt_of_le k hs⟩
/-- the disk has moved -/
theorem Ad.moved (h : Ad base W0 w e pa pc pk Fa Fc FK Q x y ks j) {x' : St} {Fa' : List Nat} {i : Nat} (hr : Run base w' e pa Fa' x' i) (hf : Fr Fa w w') (hs : ∀ q ∈ Fa', q ∈ Fa ∨ w.heap.size ≤ q) : Ad base W0 w' e pa pc pk Fa' Fc FK Q x' y ks i := by
  refine ⟨hr, h.doc.other hf (fun q hq hm => h.ac q hm hq), h.kep.other hf (fun q hq hm => (h.ak q hm).1 hq) (fun q hq hm => (h.ak q hm).2 hq), h.lc, fun q hq hm => ?_, fun q hq => ⟨fun hm => ?_, fun hm => ?_⟩, h.ck, h.low.trans (hf.below h.run.low h.run.err.size)⟩
  · rcases hs q hq with k | k
    · exact h.ac q k hm
    · have := h.doc.lt q hm; omega
  · rcases hs q hq with k | k
    · exact (h.ak q k).1 hm
    · have := h.kep.ltf q hm; omega
  · rcases hs q hq with k | k
    · exact (h.ak q k).2 hm
    · have := (h.kep.lq q hm).2; omega
theorem Ad.Off.moved {v : Value} {Fa' : List Nat} (h : Ad.Off Fa Fc FK Q v w) (hs : ∀ q ∈ Fa', q ∈ Fa ∨ w.heap.size ≤ q) (hz : w.heap.size ≤ w'.heap.size) : Ad.Off Fa' Fc FK Q v w' := fun g hg => by
  obtain ⟨a, b, c, d, k⟩ := h g hg
  refine ⟨fun hm => ?_, b, c, d, Nat.lt_of_lt_of_le k hz⟩
  rcases hs g hm with q | q
  · exact a q
  · omega
/-- the document's disk has moved -/
theorem Ad.told (h : Ad base W0 w e pa pc pk Fa Fc FK Q x y ks j) {y' : St} {Fc' : List Nat} (hd : Dq w' pc Fc' (sq y')) (hf : Fr Fc w w') (hs : ∀ q ∈ Fc', q ∈ Fc ∨ w.heap.size ≤ q) : Ad base W0 w' e pa pc pk Fa Fc' FK Q x y' ks j := by
  refine ⟨h.run.other hf h.ac h.lc, hd, h.kep.other hf (fun q hq hm => (h.ck q hm).1 hq) (fun q hq hm => (h.ck q hm).2 hq), fun q hq => ?_, fun q hq hm => ?_, h.ak, fun q hq => ⟨fun hm => ?_, fun hm => ?_⟩, h.low.trans (hf.below h.lc h.run.err.size)⟩
  · rcases hs q hq with k | k
    · exact h.lc q k
    · exact Nat.le_trans h.run.err.size k
  · rcases hs q hm with k | k
    · exact h.ac q hq k
    · have := h.run.disk.lt q hq; omega
  · rcases hs q hq with k | k
    · exact (h.ck q k).1 hm
    · have := h.kep.ltf q hm; omega
  · rcases hs q hq with k | k
    · exact (h.ck q k).2 hm
    · have := (h.kep.lq q hm).2; omega
theorem Ad.Off.told {v : Value} {Fc' : List Nat} (h : Ad.Off Fa Fc FK Q v w) (hs : ∀ q ∈ Fc', q ∈ Fc ∨ w.heap.size ≤ q) (hz : w.heap.size ≤ w'.heap.size) : Ad.Off Fa Fc' FK Q v w' := fun g hg => by
  obtain ⟨a, b, c, d, k⟩ := h g hg
  refine ⟨a, fun hm => ?_, c, d, Nat.lt_of_lt_of_le k hz⟩
  rcases hs g hm with q | q
  · exact b q
  · omega
/-- one list more is kept -/
theorem Ad.kept (h : Ad base W0 w e pa pc pk Fa Fc FK Q x y ks j) {v : Value} (l : List UInt8) (m : UInt8) (hv : w.ownsRow base 5 1 v l.length (l.map B)) (ho : Ad.Off Fa Fc FK Q v w) (hl : l.length ≤ 140737488355328) (hn : ks.length ≤ 100000) :
    Calls Tryd.prog 8 #[ptr pk, v, .int .u8 (m.toNat : Int)] w fun r' w' => r' = .returned (.tuple #[]) ∧ ∃ FK' Q' ks', Ad base W0 w' e pa pc pk Fa Fc FK' Q' x y ks' j ∧ ks'.length = ks.length + 4 ∧ Fr (FK ++ v.ownBlock.toList) w w' := by
  refine (keep_any base w pk FK Q ks v l m h.kep hv (fun g hg => ⟨(ho g hg).2.2.1, (ho g hg).2.2.2.1⟩) hl hn h.run.err.size).mono ?_
  rintro r' w' ⟨rfl, FK', Q', ks', hk, hlen, hf, hs1, hs2⟩
  have hG : ∀ b ∈ FK ++ v.ownBlock.toList, base ≤ b := fun b hb => by
    rcases List.mem_append.1 hb with k | k
    · exact h.kep.lf b k
    · exact own_ge hv b (Option.mem_toList.1 k)
  have na : ∀ q ∈ Fa, q ∉ FK ++ v.ownBlock.toList := fun q hq hm => by
    rcases List.mem_append.1 hm with k | k
    · exact (h.ak q hq).1 k
    · exact (ho q (Option.mem_toList.1 k)).1 hq
  have nc : ∀ q ∈ Fc, q ∉ FK ++ v.ownBlock.toList := fun q hq hm => by
    rcases List.mem_append.1 hm with k | k
    · exact (h.ck q hq).1 k
    · exact (ho q (Option.mem_toList.1 k)).2.1 hq
  refine ⟨rfl, FK', Q', ks', ⟨h.run.other hf na hG, h.doc.other hf nc, hk, h.lc, h.ac, fun q hq => ⟨fun hm => ?_, fun hm => ?_⟩, fun q hq => ⟨fun hm => ?_, fun hm => ?_⟩, h.low.trans (hf.below hG h.run.err.size)⟩, hlen, hf⟩
  · rcases hs1 q hm with k | k
    · exact (h.ak q hq).1 k
    · have := h.run.disk.lt q hq; omega
  · rcases hs2 q hm with k | k | k
    · exact (h.ak q hq).2 k
    · exact (ho q k).1 hq
    · have := h.run.disk.lt q hq; omega
  · rcases hs1 q hm with k | k
    · exact (h.ck q hq).1 k
    · have := h.doc.lt q hq; omega
  · rcases hs2 q hm with k | k | k
    · exact (h.ck q hq).2 k
    · exact (ho q k).2.1 hq
    · have := h.doc.lt q hq; omega
end
end Go.Proofs.YtkamnkldgeaaaaaDoor.da
