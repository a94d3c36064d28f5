import Derived.Test.YtkamnkldgeaaaaaDoorDrDies
import Derived.Test.YtkamnkldgeaaaaaDoorDkFine
namespace Go.Proofs.YtkamnkldgeaaaaaDoor.dr
open Go.ChangeShapes Go.WideShapes Go.ChangeAt Go.RowKit Go.Proofs.YtkamnkldgeaaaaaDoor.common Go.Proofs.YtkamnkldgeaaaaaDoor.dk

/-- a disk as the document keeps it -/
def sq (x : St) : Sq := ⟨x.b.take x.s, x.b.drop x.s, x.r, x.a, x.d⟩
def dyB : List (Nat × Int) → Bool
  | (0, _) :: _ => true
  | _ => false
def dyK : List (Nat × Int) → Int
  | [] => 0
  | (_, k) :: _ => k
/-- the arms have been looked at -/
def aft (x : St) : St := ⟨x.b, x.s, x.r, armsL x.a, false⟩
theorem oper_aft (x : St) (hd : x.d = false) (dying on : St → St) (err : Nat) (hon : x.a = [] → on x = on (aft x)) : x.oper dying on err = if dyB x.a then ((dying (aft x)).fail (dyK x.a), 10) else (on (aft x), err) := by
  obtain ⟨b, s, r, a, d⟩ := x
  subst hd
  unfold St.oper
  match a, hon with
  | [], hon => exact congrArg (fun t => (t, err)) (hon rfl)
  | (0, k) :: t, _ => rfl
  | (n + 1, k) :: t, _ => rfl
theorem aft_nil (x : St) (hd : x.d = false) (h : x.a = []) : aft x = x := by
  obtain ⟨b, s, r, a, d⟩ := x
  subst hd h
  rfl
theorem oper_is (x : St) (hd : x.d = false) (dying on : St → St) (err : Nat) : x.oper dying on err = if dyB x.a then ((dying (aft x)).fail (dyK x.a), 10) else (on (aft x), err) := oper_aft x hd dying on err (fun h => by rw [aft_nil x hd h])
theorem oper_dead (x : St) (hd : x.d = true) (dying on : St → St) (err : Nat) : x.oper dying on err = (x, 10) := by unfold St.oper; rw [hd]; rfl
theorem fail_sq (x : St) (k : Int) (h : x.s ≤ x.b.length) : sq (x.fail k) = (sq x).fail k := by
  unfold sq St.fail Sq.fail
  have hl := x.left_le k h
  have e1 : (x.b.take (x.left k)).take (x.left k) = x.b.take x.s ++ (x.b.drop x.s).take k.toNat := by
    rw [List.take_take, Nat.min_self]
    unfold St.left
    rw [List.take_add]
    congr 1
    by_cases hk : k.toNat ≤ x.b.length - x.s
    · rw [Nat.min_eq_left hk]
    · rw [Nat.min_eq_right (by omega), List.take_of_length_le (by rw [List.length_drop]; exact Nat.le_refl _), List.take_of_length_le (by rw [List.length_drop]; omega)]
  have e2 : (x.b.take (x.left k)).drop (x.left k) = [] := List.drop_eq_nil_of_le (by rw [List.length_take]; omega)
  dsimp only
  rw [e1, e2]
theorem sq_len (x : St) (h : x.s ≤ x.b.length) : (sq x).A.length + (sq x).T.length = x.b.length ∧ (sq x).A.length = x.s := by
  unfold sq
  dsimp only
  rw [List.length_take, List.length_drop]
  omega
theorem sq_all (x : St) : (sq x).A ++ (sq x).T = x.b := List.take_append_drop _ _
theorem put_sq (x : St) (p : List UInt8) (h : x.s ≤ x.b.length) (hf : x.fits p = true) : sq (x.put p) = ⟨(sq x).A, (sq x).T ++ p, x.r, x.a, x.d⟩ := by
  unfold St.put
  rw [if_pos hf]
  unfold sq
  dsimp only
  rw [List.take_append_of_le_length h, List.drop_append_of_le_length h]
theorem put_no (x : St) (p : List UInt8) (hf : x.fits p = false) : x.put p = x := by
  unfold St.put
  rw [if_neg (by rw [hf]; decide)]
theorem sync_sq (x : St) : sq x.sync = ⟨(sq x).A ++ (sq x).T, [], x.r, x.a, x.d⟩ := by
  rw [sq_all]
  unfold sq St.sync
  dsimp only
  rw [List.take_length, List.drop_length]
theorem cut_less (x : St) (n : Nat) (hn : n < x.s) : sq (x.cut n) = ⟨(sq x).A.take n, [], x.r, x.a, x.d⟩ := by
  unfold sq St.cut
  dsimp only
  rw [Nat.min_eq_right (by omega), List.take_take, Nat.min_self, List.take_take, Nat.min_eq_left (by omega), List.drop_eq_nil_of_le (by rw [List.length_take]; omega)]
theorem cut_more (x : St) (n : Nat) (hn : x.s ≤ n) : sq (x.cut n) = ⟨(sq x).A, (sq x).T.take (n - x.s), x.r, x.a, x.d⟩ := by
  unfold sq St.cut
  dsimp only
  rw [Nat.min_eq_left hn, List.take_take, Nat.min_eq_left hn, List.drop_take]
theorem aft_sq (x : St) (hd : x.d = false) : sq (aft x) = ⟨(sq x).A, (sq x).T, (sq x).r, armsL (sq x).a, (sq x).d⟩ := by
  unfold sq aft
  rw [hd]
theorem dies_any (w : World) (p : Nat) (F : List Nat) (x : St) (h : Dq w p F (sq x)) (hd : x.d = false) (hb : (x.a.length + 1) * 16 ≤ 140737488355328) (hx : Fine x) :
    Calls Tryd.prog 25 #[ptr p] w fun r' w' => r' = .returned (.tuple #[.bool (dyB x.a), .int .i64 (dyK x.a)]) ∧ Mq w p F (sq (aft x)) w' := by
  rw [aft_sq x hd]
  match ha : x.a with
  | [] =>
    refine (dies_none w p F (sq x) h ha).mono ?_
    rintro r' w' ⟨rfl, rfl⟩
    refine ⟨rfl, F, ?_, Fr.refl _ _, fun _ hk => Or.inl hk⟩
    have e : (⟨(sq x).A, (sq x).T, (sq x).r, armsL (sq x).a, (sq x).d⟩ : Sq) = sq x := by
      have : (sq x).a = [] := ha
      rw [this]
      unfold sq
      rw [ha]
      rfl
    rw [e]
    exact h
  | (n, k) :: r =>
    have hm := hx.arms (n, k) (by rw [ha]; exact List.mem_cons_self ..)
    refine (dies_some w p F (sq x) h n k r ha (by rw [ha, List.length_cons] at hb; omega) hm).mono ?_
    rintro r' w' ⟨rfl, h2⟩
    refine ⟨?_, h2⟩
    cases n with
    | zero => rfl
    | succ m => rfl
set_option maxRecDepth 100000 in
/-- the row of what does not last yet is grown -/
theorem Lq.growT {w W W' : World} {p : Nat} {vs vt va v' : Value} {x : Sq} {l : List UInt8} (h : Lq w p vs vt va x) (hb : Below w.heap.size w W) (ho : W'.ownsRow 0 5 1 v' l.length (l.map B)) (hf : Fr vt.ownBlock.toList W W') (hat : v'.ownBlock = vt.ownBlock ∨ ∃ g, v'.ownBlock = some g ∧ W.heap.size ≤ g) :
    W'.frozen? ⟨p, 1, none⟩ = false ∧ W'.cell? ⟨p, 1, none⟩ = some vt ∧ Mq w p (fq p vs vt va) ⟨x.A, l, x.r, x.a, x.d⟩ (W'.setCell ⟨p, 1, none⟩ v') := by
  have ha := h.apt
  have hpl : p < w.heap.size := (Array.getElem?_eq_some_iff.1 h.cell).1
  have hfr : Fr vt.ownBlock.toList w W' := (Fr.of hb).trans hf (fun i hi => Or.inl hi)
  have hc : W'.heap[p]? = some (.cells (dqc vs vt x.r x.d va) 58) := (hfr.block p hpl (fun hm => ha.pt p (by simpa using hm) rfl)).trans h.cell
  have hs : W'.ownsRow 0 5 1 vs x.A.length (x.A.map B) := own_keepK h.safe fun g hg => hfr.block g (own_at h.safe g hg).1 (fun hm => h.sep g hg (by simpa using hm))
  have hr : W'.ownsRow 0 77 2 va x.a.length (acs x.a) := own_keepK h.arms fun g hg => hfr.block g (own_at h.arms g hg).1 (fun hm => ha.ta g (by simpa using hm) hg)
  have hat' : v'.ownBlock = vt.ownBlock ∨ ∃ g, v'.ownBlock = some g ∧ w.heap.size ≤ g := by
    rcases hat with e | ⟨g, e, hg⟩
    · exact Or.inl e
    · exact Or.inr ⟨g, e, Nat.le_trans hb.size hg⟩
  have hs' : ∀ b, vs.ownBlock = some b → v'.ownBlock ≠ some b := fun b hv hb => by
    rcases hat' with e | ⟨g, e, hg⟩
    · exact h.sep b hv (e ▸ hb)
    · rw [e] at hb
      cases hb
      have := (own_at h.safe _ hv).1
      omega
  refine ⟨free_of hc 1, cell_of hc 1, fq p vs v' va, ⟨vs, v', va, rfl, dq_set1 hc v', own_keepK hs fun g hg => set_other _ _ _ _ (ha.ps g hg), own_keepK ho fun g hg => set_other _ _ _ _ ?_, own_keepK hr fun g hg => set_other _ _ _ _ (ha.pa g hg), hs'⟩, (hfr.mono fun k hk => fq_t (by simpa using hk)).set ⟨p, 1, none⟩ _ (Or.inl (fq_p _ _ _ _)), fun k hk => ?_⟩
  · show g ≠ p
    rcases hat' with e | ⟨g', e, hg'⟩
    · exact ha.pt g (e ▸ hg)
    · rw [e] at hg; cases hg; omega
  · rcases fq_cases hk with rfl | h5 | h5 | h5
    · exact Or.inl (fq_p _ _ _ _)
    · exact Or.inl (fq_s h5)
    · rcases hat' with e | ⟨g', e, hg'⟩
      · exact Or.inl (fq_t (e ▸ h5))
      · rw [e] at h5; cases h5; exact Or.inr hg'
    · exact Or.inl (fq_a h5)
theorem Mq.back {w w1 w2 : World} {p : Nat} {F F1 : List Nat} {x : Sq} (h : Mq w1 p F1 x w2) (hf : Fr F w w1) (hs : ∀ k ∈ F1, k ∈ F ∨ w.heap.size ≤ k) : Mq w p F x w2 := Mq.trans hf hs h
theorem Mq.drewN {w w' : World} {p : Nat} {F : List Nat} {x : Sq} (h : Mq w p F x w') (n : Nat) : Mq w p F x (w'.drewN n) := by
  obtain ⟨F', q1, q2, q3⟩ := h
  exact ⟨F', q1.below ((Fr.refl [] _ |>.drewN _).below (fun k hk => by cases hk) (Nat.le_refl _)), q2.drewN _, q3⟩
end Go.Proofs.YtkamnkldgeaaaaaDoor.dr
