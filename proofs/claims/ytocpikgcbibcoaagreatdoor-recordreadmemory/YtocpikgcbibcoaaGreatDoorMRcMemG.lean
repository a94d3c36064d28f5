import Derived.Test.YtocpikgcbibcoaaGreatDoorMRdKit
import Derived.Test.YtocpikgcbibcoaaGreatDoorMRcLoK
import Derived.Test.YtocpikgcbibcoaaGreatDoorMRcKept
import Derived.Maps.AppendAt
namespace Go.Proofs.YtocpikgcbibcoaaGreatDoor.rc
open Go.ChangeShapes Go.WideShapes Go.ChangeAt Go.RowKit Go.Proofs.YtocpikgcbibcoaaGreatDoor.common Go.Proofs.YtocpikgcbibcoaaGreatDoor.dk
attribute [local go_sem ↓] Go.wp_at_zero Go.wp_at_succ

/-- bytes of one's own, in a block of which A holds -/
def Rw (A : Nat → Prop) (w : World) (v : Value) (l : List UInt8) : Prop := w.ownsRow 0 5 1 v l.length (l.map B) ∧ ∀ b, v.ownBlock = some b → A b
theorem Rw.fr {A : Nat → Prop} {w w' : World} {v : Value} {l : List UInt8} {F : List Nat} (h : Rw A w v l) (hf : Fr F w w') (hF : ∀ k ∈ F, ¬ A k) : Rw A w' v l := by
  refine ⟨⟨h.1.1, ?_⟩, h.2⟩
  rcases h.1.2 with hh | ⟨g, cap, cur, rfl, hg, hh, hn⟩
  · exact Or.inl hh
  · exact Or.inr ⟨g, cap, cur, rfl, hg, (hf.block g (Array.getElem?_eq_some_iff.1 hh).1 (fun hm => hF g hm (h.2 g rfl))).trans hh, hn⟩
theorem Rw.below {A : Nat → Prop} {w w' : World} {v : Value} {l : List UInt8} (h : Rw A w v l) (hb : Below w.heap.size w w') : Rw A w' v l := ⟨own_below h.1 hb, h.2⟩
theorem rw_of {lo : Nat} {w : World} {v : Value} {l : List UInt8} (h : w.ownsRow lo 5 1 v l.length (l.map B)) : Rw (fun b => lo ≤ b ∧ b < w.heap.size) w v l :=
  ⟨own_least h (Nat.zero_le _), fun b hb => ⟨own_ge h b hb, (h.lt b hb).2⟩⟩
theorem Rw.mono {A C : Nat → Prop} {w : World} {v : Value} {l : List UInt8} (h : Rw A w v l) (hc : ∀ b, A b → C b) : Rw C w v l := ⟨h.1, fun b hb => hc b (h.2 b hb)⟩
theorem Rw.slot {A : Nat → Prop} {w : World} {v : Value} {l : List UInt8} (h : Rw A w v l) (h0 : 0 < l.length) : ∃ g cap, v = .slice (some ⟨g, 0, none⟩) l.length cap ∧ A g ∧ g < w.heap.size := by
  obtain ⟨g, cap, rfl, _, hg, _, _⟩ := row_bytes h.1 h0
  exact ⟨g, cap, rfl, h.2 g rfl, hg⟩
theorem Rw.set {A : Nat → Prop} {w : World} {g cap : Nat} {l : List UInt8} (h : Rw A w (.slice (some ⟨g, 0, none⟩) l.length cap) l) (k : Nat) (c : UInt8) : Rw A (w.setCell ⟨g, k, none⟩ (B c)) (.slice (some ⟨g, 0, none⟩) (l.set k c).length cap) (l.set k c) := by
  refine ⟨⟨by simp, ?_⟩, fun b hb => h.2 b hb⟩
  rcases h.1.2 with ⟨hv, _⟩ | ⟨g', cap', cur, hv, hg, hh, h1, h2, h3, h4⟩
  · cases hv
  · cases hv
    refine Or.inr ⟨g, cap, cur.setIfInBounds k (B c), by rw [List.length_set], hg, ?_, by rw [List.length_set]; exact h1, h2, by rw [Array.size_setIfInBounds]; exact h3, ?_⟩
    · simp [World.setCell, Array.getElem?_modify, hh]
    · rw [List.length_set, Array.toList_setIfInBounds, List.map_set, ← h4, List.take_set]
theorem Rw.cell {A : Nat → Prop} {w : World} {g cap n : Nat} {l : List UInt8} (h : Rw A w (.slice (some ⟨g, 0, none⟩) n cap) l) (k : Nat) (hk : k < l.length) : w.cell? ⟨g, k, none⟩ = some (B l[k]) ∧ w.frozen? ⟨g, k, none⟩ = false := by
  rcases h.1.2 with ⟨hv, _⟩ | ⟨g', cap', cur, hv, hg, hh, h1, h2, h3, h4⟩
  · cases hv
  · cases hv
    refine ⟨?_, free_of hh k⟩
    have e : (cur.toList.take (l.length * 1))[k]? = (l.map B)[k]? := by rw [h4]
    rw [List.getElem?_take_of_lt (by omega)] at e
    simp only [World.cell?, hh]
    simp [hk] at e
    simpa using e
/-- what lies in a row while it is written over -/
def hlf (p : List UInt8) (k : Nat) (m : UInt8) : List UInt8 := List.replicate k m ++ p.drop k
theorem hlf_len (p : List UInt8) (k : Nat) (m : UInt8) (h : k ≤ p.length) : (hlf p k m).length = p.length := by simp [hlf]; omega
theorem hlf_zero (p : List UInt8) (m : UInt8) : hlf p 0 m = p := by simp [hlf]
theorem hlf_full (p : List UInt8) (m : UInt8) : hlf p p.length m = List.replicate p.length m := by simp [hlf]
theorem hlf_set (p : List UInt8) (k : Nat) (m : UInt8) (h : k < p.length) : (hlf p k m).set k m = hlf p (k + 1) m := by
  unfold hlf
  rw [List.set_append_right _ _ (by simp), List.length_replicate, Nat.sub_self, List.drop_eq_getElem_cons h, List.set_cons_zero, List.replicate_succ']
  simp
set_option maxRecDepth 100000 in
set_option maxHeartbeats 3200000 in
theorem fill_any (A : Nat → Prop) (l : List UInt8) (g cap : Nat) (c : UInt8) (w : World) (h : Rw A w (.slice (some ⟨g, 0, none⟩) l.length cap) l) (hl : l.length ≤ 4611686018427387904) :
    Calls Tryz.prog 13 #[.slice (some ⟨g, 0, none⟩) l.length cap, .int .u8 (c.toNat : Int)] w fun e w' => e = .returned (.tuple #[]) ∧ Rw A w' (.slice (some ⟨g, 0, none⟩) l.length cap) (List.replicate l.length c) ∧ Fr [g] w w' := by
  have HW := hide h
  clear h
  go_enter Tryz.func13, Tryz.ntmps13
  go_wp2_with fail
  go_loopw [4] (fun i wr => ∃ k : Nat, k ≤ l.length ∧ i = .int .i64 k ∧ Rw A wr (.slice (some ⟨g, 0, none⟩) l.length cap) (hlf l k c) ∧ Fr [g] w wr) (fun i _ => l.length - (intOf i).toNat)
  case atStart => exact ⟨0, Nat.zero_le _, rfl, by rw [hlf_zero]; exact HW.out, Fr.refl _ _⟩
  case round =>
    obtain ⟨k, hk, rfl, hr, hf⟩ := hrel
    have HR := hide hr
    have HF := hide hf
    clear hr hf
    by_cases hlt : k < l.length
    · have k0 : (0 : Int) ≤ (k : Int) := Int.natCast_nonneg _
      have k1 : (k : Int) < (l.length : Int) := by omega
      have hln := hlf_len l k c hk
      obtain ⟨c0, f0⟩ := HR.out.cell k (by rw [hln]; exact hlt)
      have HN : Hid (Rw A (wr.setCell ⟨g, k, none⟩ (B c)) (.slice (some ⟨g, 0, none⟩) l.length cap) (hlf l (k + 1) c)) := by
        have h1 := HR.out
        rw [← hln] at h1
        have h2 := h1.set k c
        rw [List.length_set, hln, hlf_set l k c hlt] at h2
        exact h2
      have HFN : Hid (Fr [g] w (wr.setCell ⟨g, k, none⟩ (B c))) := HF.out.set _ _ (Or.inl (List.mem_singleton.2 rfl))
      generalize (hlf l k c)[k]'(by rw [hln]; exact hlt) = x0 at *
      go_wp2_with fail
      go_roundw
      case rel => exact ⟨k + 1, by omega, by go_num, HN.out, HFN.out⟩
      case measure => simp [intOf]; omega
    · obtain rfl : k = l.length := by omega
      have k1 : ¬ (l.length : Int) < (l.length : Int) := by omega
      rw [hlf_full] at HR
      go_wp2_with fail
      go_end0
      exact ⟨rfl, HR.out, HF.out⟩
end Go.Proofs.YtocpikgcbibcoaaGreatDoor.rc

namespace Go.Proofs.YtocpikgcbibcoaaGreatDoor.rc
open Go.ChangeShapes Go.WideShapes Go.ChangeAt Go.RowKit Go.Proofs.YtocpikgcbibcoaaGreatDoor.common Go.Proofs.YtocpikgcbibcoaaGreatDoor.dk
attribute [local go_sem ↓] Go.wp_at_zero Go.wp_at_succ

theorem fr_grown {w w' : World} {row : Option Nat} (h : w.grownBy w' row) : Fr row.toList w w' :=
  ⟨h.os, h.tape, h.output, h.size, fun k hk hn => h.block k hk (fun e => hn (by rw [← e]; simp))⟩
theorem rep_snoc (l : List UInt8) (k : Nat) (c : UInt8) : l ++ List.replicate (k + 1) c = (l ++ List.replicate k c) ++ [c] := by
  rw [List.append_assoc, List.replicate_succ']
/-- a row while bytes are put behind it, k of them -/
structure Gn (g : Nat) (w : World) (l : List UInt8) (c : UInt8) (k : Nat) (u : Value) (W : World) : Prop where
  row : W.ownsRow 0 5 1 u (l.length + k) ((l ++ List.replicate k c).map B)
  fr : Fr [g] w W
  at_ : ∀ b, u.ownBlock = some b → b = g ∨ w.heap.size ≤ b
theorem Gn.next {g : Nat} {w W W1 : World} {l : List UInt8} {c : UInt8} {k : Nat} {u u' : Value} {o : Obj} (h : Gn g w l c k u W) (hr : W1.ownsRow 0 5 1 u' (l.length + k + 1) ((l ++ List.replicate k c).map B ++ [B c])) (hg : (W.alloc o).grownBy W1 u.ownBlock) (ha : u'.ownBlock = u.ownBlock ∨ u'.ownBlock = some (W.heap.size + 1)) : Gn g w l c (k + 1) u' W1 := by
  refine ⟨?_, ?_, fun b hb => ?_⟩
  · rw [rep_snoc, List.map_append]
    exact hr
  · refine (h.fr.alloc o).trans (fr_grown hg) (fun i hi => ?_)
    have hi' : u.ownBlock = some i := by simpa using hi
    rcases h.at_ i hi' with h1 | h1
    · exact Or.inl (List.mem_singleton.2 h1)
    · exact Or.inr h1
  · rcases ha with h1 | h1
    · exact h.at_ b (by rw [← h1]; exact hb)
    · rw [h1] at hb
      cases hb
      have := h.fr.size
      omega
end Go.Proofs.YtocpikgcbibcoaaGreatDoor.rc
