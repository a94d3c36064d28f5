import Derived.Test.YtjalggkhpnfbiaaDoorBTwinPg
namespace Go.Proofs.YtjalggkhpnfbiaaDoor.pg
open Go.ChangeShapes Go.WideShapes Go.ChangeAt Go.RowKit Go.Proofs.YtjalggkhpnfbiaaDoor.common Go.Maps
attribute [local go_sem ↓] Go.wp_at_zero Go.wp_at_succ

theorem own_low {w : World} {base base' : Nat} {e : TypeId} {size : Nat} {v : Value} {n : Nat} {xs : List Value} (h : w.ownsRow base e size v n xs) (hb : base' ≤ base) : w.ownsRow base' e size v n xs := by
  refine ⟨h.1, ?_⟩
  rcases h.2 with hh | ⟨g, cap, cur, hv, hg, hr⟩
  · exact Or.inl hh
  · exact Or.inr ⟨g, cap, cur, hv, Nat.le_trans hb hg, hr⟩
theorem results_c {fn : Func} {p : Tmp} {ty : TypeId} {P : Program} {w : World} {b o : Nat} {cs : List Value} {d : TypeDesc} (h : fn.results = #[.cell p ty]) (tmps : Array Value) (hx : tmps.getD p undef = .pointer (some ⟨b, o, none⟩))
    (hc : w.rangeAt b o cs) (hu : P.underlying ty = some d) (hd : d.isRow = true) (hi : (P.info? ty).map (·.size) = some cs.length) : (results fn tmps).run P w = .ok (.agg cs.toArray) w := by
  have hx' : tmps[p]?.getD undef = .pointer (some ⟨b, o, none⟩) := by simpa using hx
  simp [results, h, hx', asAddr, run_loadVar_mid w b o ty cs d hc hu hd hi]
theorem set_three {w : World} {F : Nat} {x y z : Value} {t : TypeId} (h : w.heap[F]? = some (.cells #[x, y, z] t)) (a b c : Value) : (((w.setCell ⟨F, 0, none⟩ a).setCell ⟨F, 1, none⟩ b).setCell ⟨F, 2, none⟩ c).heap[F]? = some (.cells #[a, b, c] t) := by
  simp [World.setCell, Array.getElem?_modify, h]
/-- one form more -/
theorem ownF_snoc {base : Nat} {w : World} {v : Value} {l : List Frm} {s : List Value} {f : Frm} {u : Value} (hlen : l.length = s.length) (hrow : w.ownsRow base 31 3 v (l.length + 1) (fc l s ++ [.string f.act, u, .string f.but])) (heach : ∀ i (h : i < s.length), w.ownsRow base 28 4 s[i] (l[i]'(by omega)).ins.length (ic (l[i]'(by omega)).ins)) (hu : w.ownsRow base 28 4 u f.ins.length (ic f.ins)) : OwnF base w v (l ++ [f]) (s ++ [u]) := by
  refine ⟨by simp [hlen], ?_, fun i hi => ?_⟩
  · rw [fc_snoc f u l s hlen, List.length_append]
    exact hrow
  · by_cases h : i < s.length
    · have e1 : (s ++ [u])[i] = s[i] := List.getElem_append_left h
      have e2 : (l ++ [f])[i]'(by simp; omega) = l[i]'(by omega) := List.getElem_append_left (by omega)
      rw [e1, e2]
      exact heach i h
    · have hi2 : i = s.length := by simp at hi; omega
      subst hi2
      have e1 : (s ++ [u])[s.length] = u := by simp
      have e2 : (l ++ [f])[s.length]'(by simp; omega) = f := by
        have : ∀ j (hj : j < (l ++ [f]).length), j = l.length → (l ++ [f])[j] = f := by intro j hj e; subst e; simp
        exact this _ _ hlen.symm
      rw [e1, e2]
      exact hu

end Go.Proofs.YtjalggkhpnfbiaaDoor.pg
