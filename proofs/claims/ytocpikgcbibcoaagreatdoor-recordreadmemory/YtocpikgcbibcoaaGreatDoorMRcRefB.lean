import Derived.Test.YtocpikgcbibcoaaGreatDoorMRcRefT
import Derived.Test.YtocpikgcbibcoaaGreatDoorMRcKept
namespace Go.Proofs.YtocpikgcbibcoaaGreatDoor.rc
open Go.ChangeShapes Go.WideShapes Go.ChangeAt Go.RowKit Go.Proofs.YtocpikgcbibcoaaGreatDoor.common Go.Proofs.YtocpikgcbibcoaaGreatDoor.dk Go.Proofs.YtocpikgcbibcoaaGreatDoor.ss

/-- what lies there while a record is written: the bytes, the texts to come -/
structure Sb (W0 X : World) (vo : Value) (l : List UInt8) (vp : Value) (ps : List ByteArray) : Prop where
  low : Below W0.heap.size W0 X
  out : X.ownsRow W0.heap.size 5 1 vo l.length (l.map B)
  prt : X.ownsRow W0.heap.size 9 1 vp ps.length (sc ps)
theorem own_ne {X : World} {b1 b2 s1 s2 n1 n2 : Nat} {v1 v2 : Value} {x1 x2 : List Value} (h1 : X.ownsRow b1 5 s1 v1 n1 x1) (h2 : X.ownsRow b2 9 s2 v2 n2 x2) (k : Nat) (e1 : v1.ownBlock = some k) (e2 : v2.ownBlock = some k) : False := by
  rcases h1.2 with ⟨rfl, _⟩ | ⟨g, cap, cur, rfl, _, hh, _⟩
  · cases e1
  · rcases h2.2 with ⟨rfl, _⟩ | ⟨g2, cap2, cur2, rfl, _, hh2, _⟩
    · cases e2
    · cases e1
      cases e2
      rw [hh] at hh2
      cases hh2
theorem own_fr {X Y : World} {F : List Nat} {base : Nat} {e : TypeId} {size : Nat} {v : Value} {n : Nat} {xs : List Value} (h : X.ownsRow base e size v n xs) (hf : Fr F X Y) (hn : ∀ k, v.ownBlock = some k → k ∉ F) : Y.ownsRow base e size v n xs := by
  refine ⟨h.1, ?_⟩
  rcases h.2 with hh | ⟨g, cap, cur, rfl, hg, hh, hr⟩
  · exact Or.inl hh
  · exact Or.inr ⟨g, cap, cur, rfl, hg, (hf.block g (Array.getElem?_eq_some_iff.1 hh).1 (hn g rfl)).trans hh, hr⟩
theorem Sb.call {W0 X Y : World} {vo vp : Value} {l : List UInt8} {ps : List ByteArray} (h : Sb W0 X vo l vp ps) (hb : Below X.heap.size X Y) : Sb W0 Y vo l vp ps :=
  ⟨keepW h.low hb, own_below h.out hb, own_below h.prt hb⟩
theorem Sb.put {W0 X Y : World} {vo vp v' : Value} {l l' : List UInt8} {ps : List ByteArray} (h : Sb W0 X vo l vp ps) (hg : Gr vo v' X Y) (ho : Y.ownsRow W0.heap.size 5 1 v' l'.length (l'.map B)) : Sb W0 Y v' l' vp ps :=
  ⟨h.low.trans (hg.below (own_ge h.out) h.low.size), ho, own_fr h.prt hg.fr (fun k hk hm => own_ne h.out h.prt k (by simpa using hm) hk)⟩
theorem Sb.part {W0 X Y : World} {vo vp v' : Value} {l : List UInt8} {ps qs : List ByteArray} {o : Obj} (h : Sb W0 X vo l vp ps) (hg : (X.alloc o).grownBy Y vp.ownBlock) (ho : Y.ownsRow W0.heap.size 9 1 v' qs.length (sc qs)) : Sb W0 Y vo l v' qs := by
  have h1 := h.call (Y := X.alloc o) ((Below.refl _ _).alloc (Nat.le_refl _) _)
  have hf : Fr vp.ownBlock.toList (X.alloc o) Y := ⟨hg.os, hg.tape, hg.output, hg.size, fun k hk hn => hg.block k hk (fun e => hn (by simp [← e]))⟩
  exact ⟨h1.low.trans (hf.below (fun k hk => own_ge h1.prt k (by simpa using hk)) h1.low.size), own_fr h1.out hf (fun k hk hm => own_ne h1.out h1.prt k hk (by simpa using hm)), ho⟩
end Go.Proofs.YtocpikgcbibcoaaGreatDoor.rc
