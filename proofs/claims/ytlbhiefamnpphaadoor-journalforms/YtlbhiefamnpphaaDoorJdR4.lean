import Derived.Test.YtlbhiefamnpphaaDoorJdW1
import Derived.Maps.AppendAt
namespace Go.Proofs.YtlbhiefamnpphaaDoor.jc
open Go.ChangeShapes Go.WideShapes Go.ChangeAt Go.RowKit Go.Proofs.YtlbhiefamnpphaaDoor.common Go.Proofs.YtlbhiefamnpphaaDoor.Jc

abbrev B (c : UInt8) : Value := .int .u8 (c.toNat : Int)
theorem info8 : (Tryd.prog.info? 5).map (fun i => (i.zero, i.size, i.bytes)) = some (some (.int .u8 0), 1, 1) := by kernel_rfl
theorem own_geJ {w : World} {base : Nat} {e : TypeId} {size : Nat} {v : Value} {n : Nat} {xs : List Value} (h : w.ownsRow base e size v n xs) : ∀ b, v.ownBlock = some b → base ≤ b := by
  intro b hb
  rcases h.2 with ⟨h1, _⟩ | ⟨g, cap, cur, rfl, hg, _⟩
  · rcases h1 with rfl <;> cases hb
  · simp [Value.ownBlock] at hb; omega
/-- one of one's own is written -/
theorem own_upd {w : World} {base : Nat} {e : TypeId} {v : Value} {n : Nat} {xs : List Value} (h : w.ownsRow base e 1 v n xs) {g cap : Nat} (hv : v = .slice (some ⟨g, 0, none⟩) n cap) (hn : 0 < n) (j : Nat) (x : Value) : (w.setCell ⟨g, j, none⟩ x).ownsRow base e 1 v n (xs.set j x) := by
  refine ⟨by rw [List.length_set]; exact h.1, ?_⟩
  rcases h.2 with ⟨_, h0⟩ | ⟨g', cap', cur, hv', hb, hc, h1, h2, h3, h4⟩
  · omega
  · rw [hv] at hv'
    cases hv'
    refine Or.inr ⟨g, cap, cur.setIfInBounds j x, hv, hb, ?_, h1, h2, by simpa using h3, ?_⟩
    · simp [World.setCell, Array.getElem?_modify, hc]
    · rw [Array.toList_setIfInBounds, List.take_set, h4]
theorem own_at {w : World} {base : Nat} {e : TypeId} {v : Value} {n : Nat} {xs : List Value} (h : w.ownsRow base e 1 v n xs) (hn : 0 < n) : ∃ g cap, v = .slice (some ⟨g, 0, none⟩) n cap ∧ base ≤ g ∧ n ≤ cap ∧ (∀ j, j < n → ∃ u, w.cell? ⟨g, j, none⟩ = some u) ∧ ∀ j, w.frozen? ⟨g, j, none⟩ = false := by
  have hl := h.1
  rcases h.2 with ⟨_, h0⟩ | ⟨g, cap, cur, hv, hb, hc, h1, h2, h3, h4⟩
  · omega
  · refine ⟨g, cap, hv, hb, h1, fun j hj => ?_, fun j => by simp [World.frozen?, hc]⟩
    have : j < cur.size := by omega
    exact ⟨cur[j], by simp [World.cell?, hc, this]⟩
theorem rep_set (j : Nat) (suf : List UInt8) (c : UInt8) : ((List.replicate (j + 1) 48 ++ suf).map B).set j (B c) = (List.replicate j 48 ++ c :: suf).map B := by
  rw [List.replicate_succ', List.append_assoc, List.map_append, List.set_append_right _ _ (by simp)]
  simp
theorem conv_ownJ {w : World} {base : Nat} {e : TypeId} {v : Value} {l : List UInt8} {n : Nat} (h : w.ownsRow base e 1 v n (l.map B)) (hn : l.length = n) (h0 : 0 < n) :
    (convert 74 9 v).run Tryd.prog w = .ok (.string (tx l)) w := by
  subst hn
  rcases h.2 with ⟨rfl, h0'⟩ | ⟨g, cap, cur, rfl, hg, hh, hn, _, hsz, htk⟩
  · omega
  · refine run_convert_bytes_back (P := Tryd.prog) w 74 9 5 ⟨g, 0, none⟩ cap l Tryd.underlying74 Tryd.underlying5 Tryd.underlying9 ?_
    intro j hj
    rw [Addr.add_mid, Nat.zero_add]
    have : (cur.toList.take (l.length * 1))[j]? = (l.map B)[j]? := by rw [htk]
    rw [List.getElem?_take_of_lt (by omega)] at this
    simp only [World.cell?, hh]
    simp [hj] at this
    simpa using this
theorem rep_snoc (j : Nat) : (List.replicate (j + 1) (48 : UInt8)).map B = (List.replicate j (48 : UInt8)).map B ++ [.int .u8 48] := by
  rw [List.replicate_succ', List.map_append]; rfl

end Go.Proofs.YtlbhiefamnpphaaDoor.jc
