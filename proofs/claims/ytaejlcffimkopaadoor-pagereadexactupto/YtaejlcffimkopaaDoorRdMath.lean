import Derived.Test.YtaejlcffimkopaaDoorPageAll
namespace Go.Proofs.YtaejlcffimkopaaDoor.pg
open Go.Proofs.YtaejlcffimkopaaDoor.common

/-- the reader of a page over lists: markup -/
def skp (m s : List UInt8) : Option (List UInt8) := if s.take m.length = m then some (s.drop m.length) else none
theorem skp_app (m r : List UInt8) : skp m (m ++ r) = some r := by
  unfold skp
  rw [List.take_left, if_pos rfl, List.drop_left]
theorem skp_is {m s r : List UInt8} (h : skp m s = some r) : s = m ++ r := by
  unfold skp at h
  split at h
  · rename_i e
    injection h with h
    rw [← h]
    conv => lhs; rw [← List.take_append_drop m.length s, e]
  · cases h
/-- what stands ahead of a byte -/
def ahead (c : UInt8) : List UInt8 → Option (List UInt8 × List UInt8)
  | [] => none
  | d :: r => if d = c then some ([], d :: r) else (ahead c r).map fun p => (d :: p.1, p.2)
theorem ahead_is {c : UInt8} : ∀ {s a r : List UInt8}, ahead c s = some (a, r) → s = a ++ r ∧ (∃ q, r = c :: q) ∧ c ∉ a
  | [], _, _, h => by cases h
  | d :: s, a, r, h => by
    unfold ahead at h
    split at h
    · rename_i e
      injection h with h
      injection h with h1 h2
      subst h1; subst h2; subst e
      exact ⟨rfl, ⟨s, rfl⟩, by simp⟩
    · rename_i e
      cases hs : ahead c s with
      | none => rw [hs] at h; cases h
      | some p =>
        rw [hs] at h
        injection h with h
        injection h with h1 h2
        obtain ⟨i1, i2, i3⟩ := ahead_is (a := p.1) (r := p.2) hs
        subst h1; subst h2
        refine ⟨by rw [List.cons_append, ← i1], i2, ?_⟩
        intro hm
        rcases List.mem_cons.1 hm with hm | hm
        · exact e hm.symm
        · exact i3 hm
theorem ahead_app {c : UInt8} (q : List UInt8) : ∀ a : List UInt8, c ∉ a → ahead c (a ++ c :: q) = some (a, c :: q)
  | [], _ => by
    show ahead c (c :: q) = _
    unfold ahead
    rw [if_pos rfl]
  | d :: a, h => by
    have hd : d ≠ c := fun e => h (by rw [e]; exact List.mem_cons_self ..)
    have ha := ahead_app q a (fun hm => h (List.mem_cons_of_mem _ hm))
    show ahead c (d :: (a ++ c :: q)) = _
    unfold ahead
    rw [if_neg hd, ha]
    rfl
/-- a text up to a byte -/
def txtL (c : UInt8) (s : List UInt8) : Option (ByteArray × List UInt8) := (ahead c s).bind fun p => (Pg.unesc p.1).map fun t => (⟨t.toArray⟩, p.2)
theorem unesc_is {a t : List UInt8} (h : Pg.unesc a = some t) : a = Pg.esc t := by
  rw [Pg.unesc_mean] at h
  split at h
  · rename_i e
    injection h with h
    rw [← h]; exact e.symm
  · cases h
theorem txtL_is {c : UInt8} {s r : List UInt8} {t : ByteArray} (h : txtL c s = some (t, r)) : s = Pg.esc t.data.toList ++ r ∧ ∃ q, r = c :: q := by
  unfold txtL at h
  cases ha : ahead c s with
  | none => rw [ha] at h; cases h
  | some p =>
    rw [ha] at h
    change (Pg.unesc p.1).map _ = _ at h
    cases hu : Pg.unesc p.1 with
    | none => rw [hu] at h; cases h
    | some u =>
      rw [hu] at h
      injection h with h
      injection h with h1 h2
      obtain ⟨i1, i2, _⟩ := ahead_is (a := p.1) (r := p.2) ha
      subst h1; subst h2
      exact ⟨by rw [← unesc_is hu]; exact i1, i2⟩
theorem not_esc (c : UInt8) (hc : Pg.quotable c = true) (l : List UInt8) : c ∉ Pg.esc l := fun hm => by
  have := Pg.esc_any l
  rw [List.any_eq_false] at this
  exact this c hm hc
theorem txtL_app (c : UInt8) (hc : Pg.quotable c = true) (t : ByteArray) (q : List UInt8) : txtL c (Pg.esc t.data.toList ++ c :: q) = some (t, c :: q) := by
  unfold txtL
  rw [ahead_app q _ (not_esc c hc _)]
  show (Pg.unesc (Pg.esc t.data.toList)).map _ = _
  rw [Pg.unesc_esc]
  rfl
end Go.Proofs.YtaejlcffimkopaaDoor.pg
