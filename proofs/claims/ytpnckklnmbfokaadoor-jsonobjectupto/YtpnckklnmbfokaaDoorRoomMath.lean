import Derived.Test.YtpnckklnmbfokaaDoorReadWalk6
import Derived.Test.YtpnckklnmbfokaaDoorObjWalk3
namespace Go.Proofs.YtpnckklnmbfokaaDoor.jw
open Go.Proofs.YtpnckklnmbfokaaDoor

theorem chars_room : ∀ (n : Nat) (acc l : List UInt8) {t r : List UInt8}, Json.chars n acc l = some (t, r) → t.length + r.length ≤ acc.length + l.length
  | 0, _, _, _, _, h => by simp [Json.chars] at h
  | _ + 1, _, [], _, _, h => by simp [Json.chars] at h
  | n + 1, acc, c :: r, t, r2, h => by
    simp only [Json.chars] at h
    split at h
    · injection h with h; injection h with h1 h2; subst h1; subst h2; simp
    · split at h
      · cases h
      · rename_i d r1 e
        have h1 := char_room e
        have h2 := chars_room n _ r1 h
        rw [List.length_append] at h2
        omega
theorem quoted_room {l t r : List UInt8} (h : Json.quoted l = some (t, r)) : t.length + r.length ≤ l.length := by
  unfold Json.quoted at h
  split at h
  · cases h
  · rename_i r0 e
    have h1 := (Json.word_le e).1
    have h2 := chars_room _ _ _ h
    simp only [List.length_cons, List.length_nil] at h1 h2
    omega
theorem value_room {l r : List UInt8} {m : Mem} (h : Json.value l = some (m, r)) : m.text.length ≤ l.length := by
  cases l with
  | nil => cases h
  | cons c s =>
    simp only [Json.value] at h
    split at h
    · split at h
      · cases h
      · rename_i t r1 e
        injection h with h; injection h with h1 h2; subst h1
        have := quoted_room e
        show t.length ≤ _
        omega
    · split at h
      · split at h
        · cases h
        · injection h with h; injection h with h1 h2; subst h1; exact Nat.zero_le _
      · split at h
        · split at h
          · cases h
          · injection h with h; injection h with h1 h2; subst h1; exact Nat.zero_le _
        · split at h
          · cases h
          · injection h with h; injection h with h1 h2; subst h1; exact Nat.zero_le _
theorem member_room {l r : List UInt8} {m : Mem} (h : Json.member l = some (m, r)) : m.name.length ≤ l.length ∧ m.text.length ≤ l.length := by
  unfold Json.member at h
  split at h
  · cases h
  · rename_i name r0 e0
    have h0 := quoted_room e0
    split at h
    · cases h
    · rename_i r1 e1
      have h1 := Json.part_lt e1
      have h2 := Json.blanks_le r0
      split at h
      · cases h
      · rename_i k r2 e2
        have h3 := value_room e2
        injection h with h; injection h with h _; subst h
        exact ⟨by show name.length ≤ _; omega, by show k.text.length ≤ _; omega⟩
theorem members_room : ∀ (n : Nat) (acc : List Mem) (l : List UInt8) {ms : List Mem} {r : List UInt8} (N : Nat), (∀ m ∈ acc, m.name.length ≤ N ∧ m.text.length ≤ N) → l.length ≤ N → Json.members n acc l = some (ms, r) → ∀ m ∈ ms, m.name.length ≤ N ∧ m.text.length ≤ N
  | 0, _, _, _, _, _, _, _, h => by simp [Json.members] at h
  | n + 1, acc, l, ms, r, N, ha, hl, h => by
    simp only [Json.members] at h
    split at h
    · cases h
    · rename_i m r0 e
      have hr := member_room e
      have hlt := Json.member_lt e
      have hm : ∀ k ∈ acc ++ [m], k.name.length ≤ N ∧ k.text.length ≤ N := by
        intro k hk
        rcases List.mem_append.1 hk with hk | hk
        · exact ha k hk
        · simp only [List.mem_singleton] at hk; subst hk; exact ⟨by omega, by omega⟩
      split at h
      · rename_i r1 e1
        have := Json.part_lt e1
        exact members_room n _ _ N hm (by omega) h
      · injection h with h; injection h with h _; subst h; exact hm
theorem object_room {l : List UInt8} {ms : List Mem} (h : Json.object l = some ms) : ∀ m ∈ ms, m.name.length ≤ l.length ∧ m.text.length ≤ l.length := by
  unfold Json.object at h
  split at h
  · cases h
  · rename_i r0 e0
    have h0 := Json.part_lt e0
    have h1 := Json.blanks_le l
    split at h
    · split at h
      · injection h with h; subst h; intro m hm; cases hm
      · cases h
    · split at h
      · cases h
      · rename_i ms' r1 e
        split at h
        · cases h
        · split at h
          · injection h with h; subst h
            exact members_room _ _ _ l.length (fun m hm => by cases hm) (by omega) e
          · cases h
theorem read_room {l : List UInt8} {ms : List Mem} (h : Json.read l = (0, ms)) : ms.length ≤ 32 ∧ ∀ m ∈ ms, m.name.length ≤ l.length ∧ m.text.length ≤ l.length := by
  unfold Json.read at h
  split at h
  · cases h
  · rename_i ms' e
    split at h
    · cases h
    · split at h
      · cases h
      · injection h with _ h; subst h
        exact ⟨by omega, object_room e⟩
theorem tot_le : ∀ (ms : List Mem) (N : Nat), (∀ m ∈ ms, m.name.length ≤ N ∧ m.text.length ≤ N) → tot ms ≤ ms.length * (12 * N + 40)
  | [], _, _ => by simp [tot]
  | m :: r, N, h => by
    have ih := tot_le r N (fun x hx => h x (List.mem_cons_of_mem _ hx))
    have hm := h m (by simp)
    show 6 * (m.name.length + m.text.length) + 40 + tot r ≤ _
    have e : (r.length + 1) * (12 * N + 40) = r.length * (12 * N + 40) + (12 * N + 40) := Nat.succ_mul _ _
    rw [List.length_cons, e]
    omega
theorem read_tot {l : List UInt8} {ms : List Mem} (h : Json.read l = (0, ms)) : tot ms ≤ 32 * (12 * l.length + 40) := by
  obtain ⟨h1, h2⟩ := read_room h
  exact Nat.le_trans (tot_le ms _ h2) (Nat.mul_le_mul_right _ h1)
theorem obj_len (ms : List Mem) (h : ∀ m ∈ ms, Json.inRange m.num) : (Json.objOf ms).length ≤ tot ms + 2 := by
  have := row_len ms h
  unfold Json.objOf
  simp only [List.length_cons, List.length_append, List.length_nil]
  omega
end Go.Proofs.YtpnckklnmbfokaaDoor.jw
