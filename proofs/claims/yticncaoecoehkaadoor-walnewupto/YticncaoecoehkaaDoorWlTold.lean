import Derived.Test.YticncaoecoehkaaDoorWlOpenW
import Derived.Test.YticncaoecoehkaaDoorWlBegun
import Derived.Test.YticncaoecoehkaaDoorWlRows
import Derived.Test.YticncaoecoehkaaDoorWlFullL
import Derived.Test.YticncaoecoehkaaDoorRdCopy
import Derived.Test.YticncaoecoehkaaDoorDkFine
namespace Go.Proofs.YticncaoecoehkaaDoor.wl
open Go.ChangeShapes Go.WideShapes Go.ChangeAt Go.RowKit Go.Proofs.YticncaoecoehkaaDoor.common Go.Proofs.YticncaoecoehkaaDoor.dk

theorem ls_itsW {W : World} {base N : Nat} {v : Value} {its : List It} (h : W.ownsRow base 22 1 v its.length (its.map It.v)) (hi : Its W N its) : Ls W v (ps its) := by
  have h' : W.ownsRow base 22 1 v (its.map It.v).length (its.map It.v) := by rw [List.length_map]; exact h
  refine ls_own h' (by simp [ps]) (fun i h1 h2 => ?_)
  have hi' : i < its.length := by simpa using h1
  have hx := (hi.1 its[i] (List.getElem_mem hi')).1
  simp only [List.getElem_map, ps]
  exact hx.rd _
/-- payloads that an Open told, behind what happens to the disk -/
theorem told_fr {W W' : World} {base : Nat} {v : Value} {its : List It} {F : List Nat} (h : W.ownsRow base 22 1 v its.length (its.map It.v)) (hi : Its W base its) (hf : Fr F W W') (hF : ∀ k ∈ F, k < base) : W'.ownsRow base 22 1 v its.length (its.map It.v) ∧ Its W' base its :=
  ⟨own_frB h hf hF, its_keep hi (fun x hx => hf.block _ (Array.getElem?_eq_some_iff.1 (hi.1 x hx).1).1 (fun hm => by have h1 := hF _ hm; have h2 := (hi.1 x hx).2; omega))⟩
abbrev plain (b : List UInt8) (r : Nat) : St := ⟨b, b.length, r, [], false⟩
theorem keep_plain (b : List UInt8) (r : Nat) : kpS (plain b r) (Wl.good b) b.length = (plain (b.take (Wl.good b)) r, 0) := by
  have hg := Wl.good_le b
  unfold kpS
  by_cases h : Wl.good b < b.length
  · have h1 : (plain b r).trunc ((Wl.good b : Nat) : Int) = (⟨b.take (Wl.good b), min b.length (Wl.good b), r, [], false⟩, 0) := by
      unfold St.trunc
      have h2 : ¬ ((b.length : Int) < (Wl.good b : Int)) := by omega
      have h3 : ¬ ((Wl.good b : Int) < 0) := by omega
      simp [h2, h3, St.oper, St.cut]
    rw [if_pos h, h1]
    simp only [if_true]
    simp [St.syncs, St.oper, St.sync, plain]
  · have h1 : Wl.good b = b.length := by omega
    rw [if_neg h, h1, List.take_length]
    rfl
theorem trunc_plain (b : List UInt8) (r : Nat) (hb : b.length ≤ 1073741824) (hr : r ≤ 1073741824) : Fine ((plain b r).trunc ((Wl.good b : Nat) : Int)).1 := by
  have h := Fine.step (fine_plain b r hb hr) ⟨4, 0, (Wl.good b : Nat), 0, ByteArray.empty⟩ (by have := Wl.good_le b; show ((Wl.good b : Nat) : Int) ≤ _; omega) (by show (-9223372036854775808 : Int) ≤ 0; decide) (by show (0 : Int) ≤ _; decide)
  have e : ((plain b r).step ⟨4, 0, (Wl.good b : Nat), 0, ByteArray.empty⟩).1 = ((plain b r).trunc ((Wl.good b : Nat) : Int)).1 := by simp [St.step]
  rw [e] at h
  exact h
/-- payloads that were told, beside a disk -/
structure Tl (w : World) (F : List Nat) (v : Value) (its : List It) : Prop where
  row : w.ownsRow 0 22 1 v its.length (its.map It.v)
  nw : ∀ x ∈ its, Nw w x.g x.p
  far : ∀ b, v.ownBlock = some b → b ∉ F
  aside : ∀ x ∈ its, x.g ∉ F
theorem own_lt {w : World} {base : Nat} {e : TypeId} {size : Nat} {v : Value} {n : Nat} {xs : List Value} (h : w.ownsRow base e size v n xs) : ∀ b, v.ownBlock = some b → b < w.heap.size := fun b hb => by
  rcases h.2 with ⟨rfl, _⟩ | ⟨g, cap, cur, rfl, _, hh, _⟩
  · cases hb
  · cases hb; exact (Array.getElem?_eq_some_iff.1 hh).1
theorem own_frF {W W' : World} {base : Nat} {e : TypeId} {u : Value} {n : Nat} {xs : List Value} {F : List Nat} (h : W.ownsRow base e 1 u n xs) (hf : Fr F W W') (hF : ∀ b, u.ownBlock = some b → b ∉ F) : W'.ownsRow base e 1 u n xs := by
  refine ⟨h.1, ?_⟩
  rcases h.2 with hh | ⟨g, cap, cur, rfl, hg, hh, hn⟩
  · exact Or.inl hh
  · exact Or.inr ⟨g, cap, cur, rfl, hg, (hf.block g (Array.getElem?_eq_some_iff.1 hh).1 (hF g rfl)).trans hh, hn⟩
theorem Tl.fr {w w' : World} {F F' : List Nat} {v : Value} {its : List It} (h : Tl w F v its) (hf : Fr F w w') (hs : ∀ k ∈ F', k ∈ F ∨ w.heap.size ≤ k) : Tl w' F' v its := by
  refine ⟨own_frF h.row hf h.far, fun x hx => ?_, fun b hb hm => ?_, fun x hx hm => ?_⟩
  · exact (hf.block _ (Array.getElem?_eq_some_iff.1 (h.nw x hx)).1 (h.aside x hx)).trans (h.nw x hx)
  · have h1 := own_lt h.row b hb
    rcases hs b hm with h2 | h2
    · exact h.far b hb h2
    · omega
  · have h1 := (Array.getElem?_eq_some_iff.1 (h.nw x hx)).1
    rcases hs _ hm with h2 | h2
    · exact h.aside x hx h2
    · omega
theorem Tl.below {w w' : World} {F : List Nat} {v : Value} {its : List It} (h : Tl w F v its) (hb : Below w.heap.size w w') : Tl w' F v its := h.fr (Fr.of hb) (fun _ hk => Or.inl hk)
theorem Tl.ls {w : World} {F : List Nat} {v : Value} {its : List It} (h : Tl w F v its) : Ls w v (ps its) := by
  have h' : w.ownsRow 0 22 1 v (its.map It.v).length (its.map It.v) := by rw [List.length_map]; exact h.row
  refine ls_own h' (by simp [ps]) (fun i h1 h2 => ?_)
  have hi' : i < its.length := by simpa using h1
  simp only [List.getElem_map, ps]
  exact (h.nw its[i] (List.getElem_mem hi')).rd _
/-- bytes that can be read, beside a disk -/
structure Bs (w : World) (F : List Nat) (v : Value) (l : List UInt8) : Prop where
  rc : Rc w v l
  far : ∀ a n c, v = .slice (some a) n c → a.block ∉ F ∧ a.block < w.heap.size
theorem Bs.fr {w w' : World} {F F' : List Nat} {v : Value} {l : List UInt8} (h : Bs w F v l) (hf : Fr F w w') (hs : ∀ k ∈ F', k ∈ F ∨ w.heap.size ≤ k) : Bs w' F' v l := by
  refine ⟨?_, fun a n c e => ⟨fun hm => ?_, Nat.lt_of_lt_of_le (h.far a n c e).2 hf.size⟩⟩
  · obtain ⟨oa, cap, rfl, hc, hr⟩ := h.rc
    refine ⟨oa, cap, rfl, hc, fun hl => ?_⟩
    obtain ⟨g, o, rfl, hg, hr⟩ := hr hl
    exact ⟨g, o, rfl, Nat.lt_of_lt_of_le hg hf.size, range_block hr (hf.block g hg (h.far _ _ _ rfl).1)⟩
  · rcases hs _ hm with h2 | h2
    · exact (h.far a n c e).1 h2
    · have := (h.far a n c e).2; omega
theorem Bs.below {w w' : World} {F : List Nat} {v : Value} {l : List UInt8} (h : Bs w F v l) (hb : Below w.heap.size w w') : Bs w' F v l := h.fr (Fr.of hb) (fun _ hk => Or.inl hk)
theorem ans_bs {w : World} {F' : List Nat} {v : Value} {l : List UInt8} {w' : World} (h : Ans w F' v l w') : Bs w' F' v l := by
  refine ⟨ans_rc h, fun a n c e => ?_⟩
  rcases h with ⟨rfl, _⟩ | ⟨g, rfl, _, h2, h3⟩
  · cases e
  · cases e
    exact ⟨h2, (Array.getElem?_eq_some_iff.1 h3).1⟩
theorem own_bs {w : World} {base : Nat} {v : Value} {l : List UInt8} (h : w.ownsRow base 5 1 v l.length (l.map B)) : Bs w [] v l := by
  refine ⟨rc_own h, fun a n c e => ⟨fun hm => (by cases hm), ?_⟩⟩
  rcases h.2 with ⟨rfl, _⟩ | ⟨g, cap, cur, rfl, _, hh, _⟩
  · cases e
  · cases e
    exact (Array.getElem?_eq_some_iff.1 hh).1
theorem tab_fr {w w' : World} {K : Nat} {F : List Nat} (ht : crcw.Tab w) (hf : Fr F w w') (hK : 13 < K) (hF : ∀ k ∈ F, K ≤ k) : crcw.Tab w' := fun i hi => by
  rw [← ht i hi]
  refine World.cell?_of_block (hf.block _ ht.lt (fun hm => ?_))
  have h1 : K ≤ 13 := hF _ hm
  omega
theorem lgD_below {w w' : World} {g p : Nat} {F : List Nat} {y : Lg} (h : LgD w g p F y) (hb : Below w.heap.size w w') : LgD w' g p F y := ⟨h.1.below hb, (hb.block g (Array.getElem?_eq_some_iff.1 h.2.1).1).trans h.2.1, h.2.2⟩
theorem lgAt_fr {w w' : World} {g p n z : Nat} {d : Bool} {F : List Nat} (h : LgAt w g p n z d) (hf : Fr F w w') (hg : g ∉ F) : LgAt w' g p n z d := (hf.block g (Array.getElem?_eq_some_iff.1 h).1 hg).trans h
theorem mem_up {F F1 : List Nat} {w : World} {K : Nat} (hs : ∀ k ∈ F1, k ∈ F ∨ w.heap.size ≤ k) (hF : ∀ k ∈ F, K ≤ k) (hK : K ≤ w.heap.size) : ∀ k ∈ F1, K ≤ k := fun k hk => by
  rcases hs k hk with h | h
  · exact hF k h
  · omega
end Go.Proofs.YticncaoecoehkaaDoor.wl
