import Derived.Test.YtgppnklildhmbaaDoorPkBase
import Derived.Lib.LaidTab
namespace Go.Proofs.YtgppnklildhmbaaDoor.pk
open Go.ChangeShapes Go.WideShapes Go.ChangeAt Go.RowKit Go.Proofs.YtgppnklildhmbaaDoor.common

/-- an array of flags, cell by cell -/
theorem flags_of {H : Type} {enc : TypeId × Value → H} {P : Program} {w : World} {base : Nat} {sp : Nat → Bool} {held : Bool} {fuel : Nat} {t e : TypeId} {n : Nat} {cs : List Value} {zs : List Bool} {p : List MemPlace}
    (h : DataW.trod enc P w base sp held fuel t cs = some (.agg (zs.map fun b => .lit (.bool b)), p)) (ht : P.underlying t = some (.array n e)) (he : P.underlying e = some .bool) (hce : P.cellsOf e = 1) (hct : P.cellsOf t = n) :
    ∀ i, i < n → cs[i]? = some (.bool (zs.getD i false)) := by
  intro i hi
  cases fuel with
  | zero => simp [DataW.trod] at h
  | succ fuel =>
    simp only [DataW.trod, ht, hce, hct, Nat.mul_one] at h
    split at h
    case isFalse => cases h
    obtain ⟨xs, hm, hx⟩ := Option.map_eq_some_iff.1 h
    obtain ⟨b, hb, hf⟩ := Lib.mapM_at hm i i (by simp [hi])
    obtain ⟨z, hc, rfl⟩ := DataW.trod_bool he hf
    have h1 : cs[i]? = some (.bool z) := by
      have := congrArg (fun l : List Value => l[0]?) hc
      simpa [List.getElem?_take, List.getElem?_drop] using this
    have h2 : (xs.map (·.1))[i]? = some (DataW.lit (.bool z) : DataW H) := by simp [hb]
    have h3 : xs.map (·.1) = zs.map fun b => (DataW.lit (.bool b) : DataW H) := by simpa using congrArg Prod.fst hx
    rw [h3, List.getElem?_map, Option.map_eq_some_iff] at h2
    obtain ⟨z', hz', he'⟩ := h2
    have hzz : z' = z := by simpa using he'
    rw [h1, List.getD_eq_getElem?_getD, hz', hzz]; rfl

/-- the table lies in its variable -/
def Tab (w : World) : Prop := ∀ n, n < 128 → w.cell? ⟨5, n, none⟩ = some (.bool (Pk.un n))
theorem Tab.lt {w : World} (h : Tab w) : 5 < w.heap.size := World.block_lt_of_cell? w _ (h 0 (by decide))
theorem Tab.below {w w' : World} {b : Nat} (h : Tab w) (hb : Below b w w') (hB : w.heap.size ≤ b) : Tab w' := fun n hn =>
  (hb.cell (Nat.lt_of_lt_of_le h.lt hB)).trans (h n hn)
theorem Tab.drewN {w : World} (h : Tab w) (m : Nat) : Tab (w.drewN m) := h

theorem tabG : Tryd.prog.globalNamed "usher/pkce.unreserved" = some 5 := by kernel_rfl
theorem tabType : (Tryd.prog.globals[5]?).map (·.type) = some 68 := by kernel_rfl
theorem tabCells : Tryd.prog.cellsOf 68 = 128 := by kernel_rfl
theorem cellsBool : Tryd.prog.cellsOf 4 = 1 := by kernel_rfl
theorem tab_is {H : Type} : (Rows.laid_usher_pkce_unreserved : DataW H) = .agg (((List.range 128).map Pk.un).map fun b => .lit (.bool b)) := by rfl
theorem tab_of_laid {W : World} {rest : List (String × DataW Unit)} (h : laidMet Tryd.prog (("usher/pkce.unreserved", Rows.laid_usher_pkce_unreserved) :: rest) W) : Tab W := by
  obtain ⟨ps, ⟨g', t', cs, fuel, p, q, hg', ht', hvar, hd, _, _⟩, _⟩ := h
  obtain rfl := Option.some.inj (tabG.symm.trans hg')
  obtain rfl := Option.some.inj (tabType.symm.trans ht')
  rw [tab_is] at hd
  intro n hn
  have h1 := flags_of hd Tryd.underlying68 Tryd.underlying4 cellsBool tabCells n hn
  have h2 := World.var?_cell tabG hvar n
  rw [List.getD_eq_getElem?_getD, List.getElem?_map, List.getElem?_range hn] at h1
  rw [h2]
  simpa using h1

abbrev B (c : UInt8) : Value := .int .u8 (c.toNat : Int)

set_option maxHeartbeats 800000 in
theorem isUnreserved_any (c : UInt8) (w : World) (ht : Tab w) :
    Calls Tryd.prog 31 #[B c] w fun e w' => e = .returned (.bool (Pk.unb c)) ∧ w' = w := by
  have hc := c.toNat_lt
  by_cases h : c.toNat < 128
  · have hi : (c.toNat : Int) < 128 := by omega
    have t := ht _ h
    have HR : Hid (Pk.un c.toNat = Pk.unb c) := rfl
    generalize Pk.un c.toNat = u at *
    clear ht
    go_enter Tryd.func31, Tryd.ntmps31
    go_wp2
    go_ret
    exact ⟨by rw [← HR.out]; rfl, rfl⟩
  · have hi : ¬ (c.toNat : Int) < 128 := by omega
    have HR : Hid (Pk.unb c = false) := Pk.un_big _ (by omega)
    clear ht
    go_enter Tryd.func31, Tryd.ntmps31
    go_wp2
    go_ret
    exact ⟨by rw [HR.out]; rfl, rfl⟩

set_option maxRecDepth 100000 in
set_option maxHeartbeats 1600000 in
theorem isProof_any (s : ByteArray) (w : World) (ht : Tab w) :
    Calls Tryd.prog 20 #[.string s] w fun e w' => e = .returned (.bool (Pk.proof s.data.toList)) ∧ w' = w := by
  have HF := hide (fun c => isUnreserved_any c w ht)
  clear ht
  by_cases h1 : s.size < 43
  · have h1i : (s.size : Int) < 43 := by omega
    have HR : Hid (Pk.proof s.data.toList = false) := by
      show _ = _
      unfold Pk.proof
      rw [plen, decide_eq_false (by omega), Bool.false_and]
    go_enter Tryd.func20, Tryd.ntmps20
    go_wp2
    go_ret
    exact ⟨by rw [HR.out]; rfl, rfl⟩
  by_cases h2 : 128 < s.size
  · have h1i : ¬ (s.size : Int) < 43 := by omega
    have h2i : (128 : Int) < (s.size : Int) := by omega
    have HR : Hid (Pk.proof s.data.toList = false) := by
      show _ = _
      unfold Pk.proof
      rw [plen, decide_eq_false (by omega), Bool.false_and]
    go_enter Tryd.func20, Tryd.ntmps20
    go_wp2
    go_ret
    exact ⟨by rw [HR.out]; rfl, rfl⟩
  have h1i : ¬ (s.size : Int) < 43 := by omega
  have h2i : ¬ (128 : Int) < (s.size : Int) := by omega
  have HR : Hid (Pk.proof s.data.toList = s.data.toList.all Pk.unb) := by
    show _ = _
    unfold Pk.proof
    rw [plen, decide_eq_true (by omega), Bool.true_and]
  have HT : Hid (∀ k (_ : k < s.size), (s.data.toList.take (k + 1)).all Pk.unb = ((s.data.toList.take k).all Pk.unb && Pk.unb s[k])) := fun k h => Pk.all_take _ _ k (by simpa using h)
  have HE : Hid (s.data.toList.take s.size = s.data.toList) := ptake s
  have HA : Hid (∀ k, (s.data.toList.take k).all Pk.unb = false → s.data.toList.all Pk.unb = false) := fun k h => Pk.all_short _ _ k h
  go_enter Tryd.func20, Tryd.ntmps20
  go_wp2_with fail
  go_loopw [14] (fun i wr => ∃ k : Nat, k ≤ s.size ∧ i = .int .i64 k ∧ (s.data.toList.take k).all Pk.unb = true ∧ wr = w) (fun i _ => s.size - (intOf i).toNat)
  case atStart => exact ⟨0, Nat.zero_le _, rfl, by simp, rfl⟩
  case round =>
    obtain ⟨k, hk, rfl, ha, rfl⟩ := hrel
    have HAK := hide ha
    clear ha
    by_cases hlt : k < s.size
    · have hki : (k : Int) < (s.size : Int) := by omega
      have HTK := hide (HT.out k hlt)
      have HFK := hide (HF.out s[k])
      cases hp : Pk.unb s[k] with
      | true =>
        have HP := hide hp
        clear hp
        go_wp2_with fail
        refine HFK.out.mono ?_
        rintro x w2 ⟨rfl, rfl⟩
        rw [HP.out]
        go_wp2
        go_roundw
        case rel => exact ⟨k + 1, by omega, by go_num, by rw [HTK.out, HAK.out, HP.out]; rfl, by trivial⟩
        case measure => simp [intOf]; omega
      | false =>
        have HP := hide hp
        clear hp
        have HN : Hid (s.data.toList.all Pk.unb = false) := HA.out (k + 1) (by rw [HTK.out, HP.out, Bool.and_false])
        go_wp2_with fail
        refine HFK.out.mono ?_
        rintro x w2 ⟨rfl, rfl⟩
        rw [HP.out]
        go_wp2
        go_ret
        exact ⟨by rw [HR.out, HN.out]; rfl, rfl⟩
    · obtain rfl : k = s.size := by omega
      rw [HE.out] at HAK
      go_wp2
      go_ret
      exact ⟨by rw [HR.out, HAK.out]; rfl, rfl⟩

theorem verifier_any (s : ByteArray) (w : World) (ht : Tab w) :
    Calls Tryd.prog 9 #[.string s] w fun e w' => e = .returned (.bool (Pk.proof s.data.toList)) ∧ w' = w := by
  have H := hide (isProof_any s w ht)
  clear ht
  go_enter Tryd.func9, Tryd.ntmps9
  go_wp2_with fail
  refine H.out.mono ?_
  rintro x w2 ⟨rfl, rfl⟩
  go_wp2
  go_ret
  exact ⟨rfl, rfl⟩

end Go.Proofs.YtgppnklildhmbaaDoor.pk
