import Derived.Test.YtkkkgpcdnjijbabDoorTmRise
import Derived.Lib.SplitLaws
import Derived.Lib.CountLaws
import Derived.Lib.IndexBytes
namespace Go.Proofs.YtkkkgpcdnjijbabDoor.tm
open Go.ChangeShapes Go.WideShapes Go.ChangeAt Go.RowKit Go.Proofs.YtkkkgpcdnjijbabDoor.common Go.Proofs.YtkkkgpcdnjijbabDoor.bk
attribute [local go_sem ↓] Go.wp_at_zero Go.wp_at_succ

theorem split_parts (c : UInt8) : ∀ (n : Nat) (s : ByteArray), s.size ≤ n → Lib.splitB ⟨#[c]⟩ 0 (Lib.countB s ⟨#[c]⟩) s = tsq.parts c s := by
  intro n
  induction n with
  | zero =>
    intro s hs
    have h0 : s = ⟨#[]⟩ := ba_ext (List.eq_nil_of_length_eq_zero (by rw [len_list]; omega))
    subst h0
    rw [tsq.parts_none c _ (fun x h => by simp at h)]
    exact Lib.splitB_miss _ _ _ _ rfl
  | succ n ih =>
    intro s hs
    rcases fd.index_cases c s.data.toList with ⟨h1, h2⟩ | ⟨i, h1, h2, h3, h4⟩
    · rw [tsq.parts_none c s h2]
      exact Lib.splitB_miss _ _ _ _ (by show Lib.index s.data.toList [c] = _; rw [Lib.index_one]; exact h1)
    · have hi : Lib.indexB s ⟨#[c]⟩ = (i : Int) := by show Lib.index s.data.toList [c] = _; rw [Lib.index_one]; exact h1
      rw [tsq.parts_at c s i h3 h4, Lib.countB_hit s ⟨#[c]⟩ i (Nat.le_refl 1) hi, Nat.add_comm 1, Lib.splitB_hit _ _ _ _ i hi]
      rw [len_list] at h2
      have e : i + (⟨#[c]⟩ : ByteArray).size = i + 1 := rfl
      rw [e, Nat.add_zero, ih (s.extract (i + 1) s.size) (by rw [ByteArray.size_extract]; omega)]
theorem parts_len (c : UInt8) (s : ByteArray) : (tsq.parts c s).length = Lib.countB s ⟨#[c]⟩ + 1 := by
  rw [← split_parts c s.size s (Nat.le_refl _)]
  exact Lib.splitB_all ⟨#[c]⟩ (Nat.le_refl 1) 0 _ s rfl
theorem parts_le (c : UInt8) (s : ByteArray) : (tsq.parts c s).length ≤ s.size + 1 := by
  rw [parts_len]
  have := Lib.countB_le ⟨#[c]⟩ (Nat.le_refl 1) s.size s (Nat.le_refl _)
  omega

theorem info9 : (Tryd.prog.info? 9).map (fun i => (i.zero, i.size, i.bytes)) = some (some (.string ByteArray.empty), 1, 16) := by kernel_rfl
/-- strings.Split at a blank -/
theorem split_c (s : ByteArray) (m : Int) (w : World) (hs : s.size < 4294967281) (hm : w.cell? ⟨15, 0, none⟩ = some (.int .i64 m)) :
    Calls Tryd.prog 29 #[.string s, .string ⟨#[32]⟩] w fun e w' => e = .returned (.slice (some ⟨w.heap.size, 0, none⟩) (tsq.parts 32 s).length (tsq.parts 32 s).length) ∧ w' = w.alloc (.cells (ss.sc (tsq.parts 32 s)).toArray 9) := by
  have h := Any.strings_Split { jl.lays146 with } info9 s ⟨#[32]⟩ m w hs hm (by decide)
  rw [split_parts 32 s.size s (Nat.le_refl _), ← parts_len] at h
  exact h

/-- what Scopes answers: the list -/
def many (s : ByteArray) : Bool := decide (16 < (riseB (tsq.parts 32 s)).length)
def scL (s : ByteArray) : List ByteArray := if areSc s && !many s then riseB (tsq.parts 32 s) else []
/-- what Scopes answers: the error -/
def scE (eT eM : Value) (s : ByteArray) : Value := if areSc s then (if many s then eM else .nilIface) else eT
/-- what is asked of the world: two refusals, and a number of the library's -/
structure SEnv (eT eM : Value) (w : World) : Prop where
  text : w.cell? ⟨0, 0, none⟩ = some eT
  many : w.cell? ⟨1, 0, none⟩ = some eM
  max : ∃ m : Int, w.cell? ⟨15, 0, none⟩ = some (.int .i64 m)
theorem SEnv.below {eT eM : Value} {w w' : World} (h : SEnv eT eM w) (hb : Below w.heap.size w w') : SEnv eT eM w' := by
  obtain ⟨m, hm⟩ := h.max
  exact ⟨(hb.cell (World.block_lt_of_cell? _ _ h.text)).trans h.text, (hb.cell (World.block_lt_of_cell? _ _ h.many)).trans h.many, m, (hb.cell (World.block_lt_of_cell? _ _ hm)).trans hm⟩

set_option maxRecDepth 100000 in
set_option maxHeartbeats 3200000 in
theorem scopes_any (eT eM : Value) (s : ByteArray) (w : World) (hE : SEnv eT eM w) (hs : s.size ≤ 4294967200) :
    Calls Tryd.prog 12 #[.string s] w fun e w' => ∃ v, e = .returned (.tuple #[v, scE eT eM s]) ∧ w'.ownsRow w.heap.size 9 1 v (scL s).length (ss.sc (scL s)) ∧ Below w.heap.size w w' := by
  have HA := hide (areScopes_any s w (by unfold reachBytes; omega))
  have HE := hide hE
  have HPL := hide (parts_le 32 s)
  clear hE
  go_enter Tryd.func12, Tryd.ntmps12
  go_wp2_with fail
  refine HA.out.mono ?_
  rintro e w1 ⟨rfl, hb1⟩
  have B1 := hide hb1
  have E1 := hide (HE.out.below hb1)
  clear hb1 HA
  cases ha : areSc s with
  | false =>
    have HSE : Hid (scE eT eM s = eT) := by show _ = _; unfold scE; rw [ha]; rfl
    have HSL : Hid (scL s = []) := by show _ = _; unfold scL; rw [ha]; rfl
    have x0 := E1.out.text
    clear ha
    go_wp2_with fail
    go_quiet (fail)
    go_wp2_with fail
    refine bodyPost_ret (results_tmp2 rfl _ _ _) rfl ⟨.slice none 0 0, ?_, ?_, ?_⟩
    · rw [HSE.out]; rfl
    · rw [HSL.out]; exact World.ownsRow_nil _ _ _ _
    · exact keepD B1.out ⟨rfl, rfl, rfl, Nat.le_refl _, fun _ _ => rfl⟩
  | true =>
    obtain ⟨m, hm⟩ := E1.out.max
    have HSp := hide (split_c s m w1 (by omega) hm)
    clear hm
    go_wp2_with fail
    refine HSp.out.mono ?_
    rintro e w2 ⟨rfl, hw2⟩
    have hb2 : Below w1.heap.size w1 w2 := by rw [hw2]; exact (Below.refl _ _).alloc (Nat.le_refl _) _
    have HRi := hide (risingOnce_any w1.heap.size (tsq.parts 32 s).length (tsq.parts 32 s) w2 (by have := HPL.out; omega) (by
      intro j hj
      rw [hw2, Nat.zero_add]
      have h1 := range_new w1 (ss.sc (tsq.parts 32 s)).toArray 9 j (.string ((tsq.parts 32 s).getD j ByteArray.empty)) (by
        show (ss.sc (tsq.parts 32 s))[j]? = _; rw [ss.sc_get _ j hj, List.getD_eq_getElem?_getD, List.getElem?_eq_getElem hj]; rfl)
      simpa using h1))
    have B2 := hide (keepD B1.out hb2)
    have E2 := hide (E1.out.below hb2)
    clear hw2 hb2 HSp
    go_wp2_with fail
    refine HRi.out.mono ?_
    rintro e w3 ⟨v3, rfl, ho3, hb3⟩
    have B3 := hide (keepD B2.out hb3)
    have E3 := hide (E2.out.below hb3)
    have O3 : Hid (w3.ownsRow w.heap.size 9 1 v3 (riseB (tsq.parts 32 s)).length (ss.sc (riseB (tsq.parts 32 s)))) := by
      refine ⟨ho3.1, ?_⟩
      rcases ho3.2 with hh | ⟨g, cap, cur, hv, hg, hr⟩
      · exact Or.inl hh
      · exact Or.inr ⟨g, cap, cur, hv, Nat.le_trans B2.out.size hg, hr⟩
    have hform : ∃ oa cap, v3 = .slice oa (riseB (tsq.parts 32 s)).length cap := by
      rcases ho3.2 with ⟨hv, h0⟩ | ⟨g, cap, cur, hv, hg, hr⟩
      · exact ⟨none, 0, by rw [hv, h0]⟩
      · exact ⟨_, cap, hv⟩
    obtain ⟨oa, cap, rfl⟩ := hform
    clear ho3 hb3 HRi
    have HMM : Hid (many s = decide (16 < (riseB (tsq.parts 32 s)).length)) := rfl
    have HSE : Hid (∀ b, many s = b → scE eT eM s = if b then eM else .nilIface) := by intro b hb; unfold scE; rw [ha, hb]; rfl
    have HSL : Hid (∀ b, many s = b → scL s = if b then [] else riseB (tsq.parts 32 s)) := by intro b hb; unfold scL; rw [ha, hb]; cases b <;> rfl
    generalize riseB (tsq.parts 32 s) = R at *
    clear ha
    by_cases hmn : 16 < R.length
    · have hmi : (16 : Int) < (R.length : Int) := by omega
      have x0 := E3.out.many
      have hmt : many s = true := by rw [HMM.out]; exact decide_eq_true hmn
      have HT := hide hmt
      clear hmt
      go_wp2_with fail
      go_quiet (fail)
      go_wp2_with fail
      refine bodyPost_ret (results_tmp2 rfl _ _ _) rfl ⟨.slice none 0 0, ?_, ?_, ?_⟩
      · rw [HSE.out true HT.out]; rfl
      · rw [HSL.out true HT.out]; exact World.ownsRow_nil _ _ _ _
      · exact keepD B3.out ⟨rfl, rfl, rfl, Nat.le_refl _, fun _ _ => rfl⟩
    · have hmi : ¬ (16 : Int) < (R.length : Int) := by omega
      have hmt : many s = false := by rw [HMM.out]; exact decide_eq_false hmn
      have HT := hide hmt
      clear hmt
      go_wp2_with fail
      refine bodyPost_ret (results_tmp2 rfl _ _ _) rfl ⟨.slice oa R.length cap, ?_, ?_, B3.out⟩
      · rw [HSE.out false HT.out]; rfl
      · rw [HSL.out false HT.out]; exact O3.out

end Go.Proofs.YtkkkgpcdnjijbabDoor.tm
