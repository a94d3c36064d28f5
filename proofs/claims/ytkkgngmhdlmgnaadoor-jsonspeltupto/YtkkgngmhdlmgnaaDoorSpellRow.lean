import Derived.Test.YtkkgngmhdlmgnaaDoorJsonObj
namespace Go.Proofs.YtkkgngmhdlmgnaaDoor.Json
open Go.Lib

/-- blanks may stand behind a row -/
theorem SpeltRow.gap : ∀ (ms : List Mem) {v g : By}, SpeltRow ms v → allBl g → SpeltRow ms (v ++ g)
  | [], v, g, h, _ => absurd h (by unfold SpeltRow; intro hh; first | exact hh | cases hh)
  | m :: ms, v, g, h, hg => by
    rcases h.cases with ⟨rfl, u, g0, hm, h0, rfl⟩ | ⟨u, g1, g2, w, hm, h1, h2, hw, rfl⟩
    · rw [List.append_assoc]
      exact SpeltRow.one hm (allBl_append h0 hg)
    · have := SpeltRow.gap ms hw hg
      have h3 := SpeltRow.more hm h1 h2 this
      simpa [List.append_assoc] using h3
/-- one member more -/
theorem SpeltRow.snoc : ∀ (ms : List Mem) {v u g1 g2 : By} {m : Mem}, SpeltRow ms v → allBl g1 → allBl g2 → SpeltMem m u → SpeltRow (ms ++ [m]) ((v ++ g1) ++ 44 :: (g2 ++ u))
  | [], v, u, g1, g2, m, h, _, _, _ => absurd h (by unfold SpeltRow; intro hh; first | exact hh | cases hh)
  | k :: ms, v, u, g1, g2, m, h, hg1, hg2, hm => by
    rcases h.cases with ⟨rfl, u0, g0, hk, h0, rfl⟩ | ⟨u0, a1, a2, w, hk, h1, h2, hw, rfl⟩
    · have h1 : SpeltRow [m] (u ++ []) := SpeltRow.one hm allBl_nil
      have h2 := SpeltRow.more hk (allBl_append h0 hg1) hg2 h1
      simpa [List.append_assoc] using h2
    · have h3 := SpeltRow.snoc ms hw hg1 hg2 hm
      have h4 := SpeltRow.more hk h1 h2 h3
      simpa [List.append_assoc] using h4
/-- the value as Object writes it alone -/
theorem alone_obj (k n : Int) (f : Bool) : objOf [⟨[], k, [], n, f⟩] = 123 :: 34 :: 34 :: 58 :: (valueOf ⟨[], k, [], n, f⟩ ++ [125]) := by
  unfold objOf rowOf memberOf quote inner
  simp
end Go.Proofs.YtkkgngmhdlmgnaaDoor.Json
