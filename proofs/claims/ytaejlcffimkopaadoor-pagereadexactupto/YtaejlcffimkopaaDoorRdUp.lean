import Derived.Test.YtaejlcffimkopaaDoorRdPl
import Derived.Test.YtaejlcffimkopaaDoorRefUnesc5
namespace Go.Proofs.YtaejlcffimkopaaDoor.pg
open Go.ChangeShapes Go.WideShapes Go.ChangeAt Go.RowKit Go.Proofs.YtaejlcffimkopaaDoor.common Go.Maps
attribute [local go_sem ↓] Go.wp_at_zero Go.wp_at_succ

/-- what a method of the place comes to: not lost, just if it was not lost and the reader over lists says something; then it says the same -/
structure Rel {α : Type} (f : List UInt8 → Option (α × List UInt8)) (s : ByteArray) (a : Nat) (l : Bool) (v : α) (a' : Nat) (l' : Bool) : Prop where
  yes : l' = false → l = false ∧ f (rest s a) = some (v, rest s a')
  no : l' = true → l = true ∨ f (rest s a) = none
structure RelS (m : ByteArray) (s : ByteArray) (a : Nat) (l : Bool) (a' : Nat) (l' : Bool) : Prop where
  yes : l' = false → l = false ∧ skp m.data.toList (rest s a) = some (rest s a')
  no : l' = true → l = true ∨ skp m.data.toList (rest s a) = none
theorem Rel.bind {α β : Type} {f : List UInt8 → Option (α × List UInt8)} {g : α → List UInt8 → Option (β × List UInt8)} {s : ByteArray} {a a1 a2 : Nat} {l l1 l2 : Bool} {v : α} {u : β} (h1 : Rel f s a l v a1 l1) (h2 : Rel (g v) s a1 l1 u a2 l2) : Rel (fun x => (f x).bind fun p => g p.1 p.2) s a l u a2 l2 := by
  refine ⟨fun e => ?_, fun e => ?_⟩
  · obtain ⟨e1, e2⟩ := h2.yes e
    obtain ⟨e3, e4⟩ := h1.yes e1
    exact ⟨e3, by simp only [e4, Option.bind_some]; exact e2⟩
  · cases hl : l1 with
    | true =>
      rcases h1.no hl with h | h
      · exact Or.inl h
      · exact Or.inr (by simp only [h, Option.bind_none])
    | false =>
      obtain ⟨e3, e4⟩ := h1.yes hl
      rcases h2.no e with h | h
      · rw [hl] at h; cases h
      · exact Or.inr (by simp only [e4, Option.bind_some]; exact h)
theorem RelS.bind {β : Type} {m : ByteArray} {g : List UInt8 → Option (β × List UInt8)} {s : ByteArray} {a a1 a2 : Nat} {l l1 l2 : Bool} {u : β} (h1 : RelS m s a l a1 l1) (h2 : Rel g s a1 l1 u a2 l2) : Rel (fun x => (skp m.data.toList x).bind g) s a l u a2 l2 := by
  refine ⟨fun e => ?_, fun e => ?_⟩
  · obtain ⟨e1, e2⟩ := h2.yes e
    obtain ⟨e3, e4⟩ := h1.yes e1
    exact ⟨e3, by simp only [e4, Option.bind_some]; exact e2⟩
  · cases hl : l1 with
    | true =>
      rcases h1.no hl with h | h
      · exact Or.inl h
      · exact Or.inr (by simp only [h, Option.bind_none])
    | false =>
      obtain ⟨e3, e4⟩ := h1.yes hl
      rcases h2.no e with h | h
      · rw [hl] at h; cases h
      · exact Or.inr (by simp only [e4, Option.bind_some]; exact h)
theorem Rel.ret {α : Type} (s : ByteArray) (a : Nat) (l : Bool) (v : α) : Rel (fun x => some (v, x)) s a l v a l := ⟨fun e => ⟨e, rfl⟩, fun e => Or.inl e⟩
/-- where the place stands -/
def plat (w : World) (p : Nat) : Nat := match w.cell? ⟨p, 1, none⟩ with
  | some (.int _ k) => k.toNat
  | _ => 0
theorem Pl.plat {w : World} {p : Nat} {s : ByteArray} {a : Nat} {l : Bool} (h : Pl w p s a l) : plat w p = a := by
  have h' : w.heap[p]? = some (.cells #[.string s, .int .i64 a, .bool l] 71) := h
  have c : w.cell? ⟨p, 1, none⟩ = some (.int .i64 a) := by simp [World.cell?, h']
  unfold pg.plat
  rw [c]
  simp
theorem Pl.drewN {w : World} {p : Nat} {s : ByteArray} {a : Nat} {l : Bool} (h : Pl w p s a l) (n : Nat) : Pl (w.drewN n) p s a l := h
theorem ahead_no {c : UInt8} : ∀ l : List UInt8, c ∉ l → ahead c l = none
  | [], _ => rfl
  | d :: r, h => by
    have hd : d ≠ c := fun e => h (by rw [e]; exact List.mem_cons_self ..)
    have ih := ahead_no r (fun hm => h (List.mem_cons_of_mem _ hm))
    unfold ahead
    rw [if_neg hd, ih]
    rfl
theorem rest_at (s : ByteArray) (k : Nat) (h : k < s.size) : rest s k = s[k] :: rest s (k + 1) := by
  unfold rest
  rw [List.drop_eq_getElem_cons (by rw [len_list]; exact h)]
  rfl
theorem rest_split (s : ByteArray) (a k : Nat) (h : a ≤ k) : rest s a = (rest s a).take (k - a) ++ rest s k := by
  have e : rest s k = (rest s a).drop (k - a) := by unfold rest; rw [List.drop_drop]; congr 1; omega
  rw [e, List.take_append_drop]
theorem take_next (s : ByteArray) (a k : Nat) (h : a ≤ k) (hk : k < s.size) : (rest s a).take (k + 1 - a) = (rest s a).take (k - a) ++ [s[k]] := by
  obtain ⟨X, hX⟩ : ∃ X, X = (rest s a).take (k - a) := ⟨_, rfl⟩
  have hl : X.length = k - a := by rw [hX, List.length_take]; unfold rest; rw [List.length_drop, len_list]; omega
  have e : rest s a = (X ++ [s[k]]) ++ rest s (k + 1) := by
    rw [List.append_assoc]
    show _ = X ++ (s[k] :: rest s (k + 1))
    rw [hX, ← rest_at s k hk]
    exact rest_split s a k h
  rw [← hX]
  conv => lhs; rw [e]
  exact List.take_left' (by rw [List.length_append, hl]; simp; omega)
theorem ext_rest (s : ByteArray) (a k : Nat) : (s.extract a k).data.toList = (rest s a).take (k - a) := by rw [ext_list]; rfl
theorem up_end {s : ByteArray} {c : UInt8} {a : Nat} (h : c ∉ (rest s a).take (s.size - a)) : txtL c (rest s a) = none := by
  have e : (rest s a).take (s.size - a) = rest s a := List.take_of_length_le (by unfold rest; rw [List.length_drop, len_list]; exact Nat.le_refl _)
  rw [e] at h
  unfold txtL
  rw [ahead_no _ h]
  rfl
theorem up_at {s : ByteArray} {c : UInt8} {a k : Nat} (ha : a ≤ k) (hk : k < s.size) (he : s[k] = c) (h : c ∉ (rest s a).take (k - a)) : txtL c (rest s a) = (Pg.unesc (s.extract a k).data.toList).map fun t => ((⟨t.toArray⟩ : ByteArray), rest s k) := by
  have e := rest_split s a k ha
  have e2 := rest_at s k hk
  rw [he] at e2
  have h3 : ahead c (rest s a) = some ((rest s a).take (k - a), rest s k) := by
    conv => lhs; rw [e, e2]
    rw [ahead_app _ _ h, ← e2]
  unfold txtL
  rw [h3, Option.bind_some, ext_rest]
theorem unesc_size {x : List UInt8} {t : List UInt8} (h : Pg.unesc x = some t) : t.length ≤ x.length := by
  rw [unesc_is h]
  exact (Pg.esc_len t).1

/-- the document's Unescape, one answer for each text -/
def unV (x : ByteArray) : ByteArray := match Pg.unesc x.data.toList with
  | some t => ⟨t.toArray⟩
  | none => ⟨#[]⟩
def unN (x : ByteArray) : Int := match Pg.unesc x.data.toList with
  | some _ => 0
  | none => 2
theorem refUn_one (x : ByteArray) (w : World) (hs : 6 * x.size + 6 ≤ 140737488355328) :
    Calls Tryd.prog 67 #[.string x] w fun e w' => e = .returned (.tuple #[.string (unV x), .int .i64 (unN x)]) ∧ Below w.heap.size w w' := by
  refine (refUnescape_any x w hs).mono ?_
  rintro e w' ⟨hb, ⟨t, ht, rfl⟩ | ⟨hn, rfl⟩⟩
  · refine ⟨?_, hb⟩
    unfold unV unN
    rw [ht]
  · refine ⟨?_, hb⟩
    unfold unV unN
    rw [hn]
theorem unV_size (x : ByteArray) : (unV x).size ≤ x.size := by
  unfold unV
  cases h : Pg.unesc x.data.toList with
  | some t =>
    have := unesc_size h
    rw [len_list] at this
    show t.toArray.size ≤ _
    simpa using this
  | none => exact Nat.zero_le _

set_option maxRecDepth 100000 in
set_option maxHeartbeats 3200000 in
theorem upTo_any (p : Nat) (s : ByteArray) (c : UInt8) (a : Nat) (l : Bool) (w : World) (h : Pl w p s a l) (ha : a ≤ s.size) (hs : s.size ≤ 1099511627776) :
    Calls Tryd.prog 50 #[ptr p, .int .u8 (c.toNat : Int)] w fun e w' => ∃ v a' l', e = .returned (.string v) ∧ Kr p w w' ∧ Pl w' p s a' l' ∧ a + v.size ≤ a' ∧ a' ≤ s.size ∧ Rel (txtL c) s a l v a' l' := by
  have h' : w.heap[p]? = some (.cells #[.string s, .int .i64 a, .bool l] 71) := h
  have c1 : w.cell? ⟨p, 1, none⟩ = some (.int .i64 a) := by simp [World.cell?, h']
  have HP := hide h
  have a0 : (0 : Int) ≤ (a : Int) := Int.natCast_nonneg _
  clear h h'
  go_enter Tryd.func50, Tryd.ntmps50
  go_wp2_with fail
  clear c1
  go_loopw [] (fun wr => ∃ k : Nat, a ≤ k ∧ k ≤ s.size ∧ Hid (Pl wr p s k l) ∧ Hid (Kr p w wr) ∧ Hid (c ∉ (rest s a).take (k - a))) (fun wr => s.size - plat wr p)
  case atStart => exact ⟨a, Nat.le_refl _, ha, HP, Kr.refl _ _, by show _ ∉ _; rw [Nat.sub_self]; simp⟩
  case round =>
    clear HP
    obtain ⟨k, hak, hks, HP, HK, HN⟩ := hrel
    have h1 : wr.heap[p]? = some (.cells #[.string s, .int .i64 k, .bool l] 71) := HP.out
    have hpp := (Array.getElem?_eq_some_iff.1 h1).1
    have c0 : wr.cell? ⟨p, 0, none⟩ = some (.string s) := by simp [World.cell?, h1]
    have c1 : wr.cell? ⟨p, 1, none⟩ = some (.int .i64 k) := by simp [World.cell?, h1]
    have y1 : wr.frozen? ⟨p, 1, none⟩ = false := by simp [World.frozen?, h1]
    have hpl := HP.out.plat
    clear h1
    have k0 : (0 : Int) ≤ (k : Int) := Int.natCast_nonneg _
    have hak' : (a : Int) ≤ (k : Int) := by omega
    have hks' : (k : Int) ≤ (s.size : Int) := by omega
    by_cases hgo : ∃ hlt : k < s.size, s[k] ≠ c
    · obtain ⟨hlt, he⟩ := hgo
      have hki : (k : Int) < (s.size : Int) := by omega
      have e1 : ((s[k].toNat : Int) == (c.toNat : Int)) = false := by
        refine beq_false_of_ne fun e => he ?_
        exact UInt8.toNat_inj.1 (by omega)
      have HN1 : Hid (c ∉ (rest s a).take (k + 1 - a)) := by
        show _ ∉ _
        rw [take_next s a k hak hlt]
        intro hm
        rcases List.mem_append.1 hm with hm | hm
        · exact HN.out hm
        · simp at hm; exact he hm.symm
      go_wp2_with fail
      go_quiet (fail)
      go_wp2_with fail
      go_roundw
      case rel =>
        have e : ((k : Int) + 1) = ((k + 1 : Nat) : Int) := by omega
        refine ⟨k + 1, by omega, by omega, ?_, ?_, HN1⟩
        · show Pl _ _ _ _ _
          rw [e]
          exact (HP.out.drewN nq).at1 (k + 1)
        · show Kr _ _ _
          rw [e]
          exact (HK.out.trans (Kr.of (below_drewN' (Below.refl _ wr) nq))).trans (Kr.set p (wr.drewN nq) 1 (.int .i64 ((k + 1 : Nat) : Int)))
      case measure =>
        have e : ((k : Int) + 1) = ((k + 1 : Nat) : Int) := by omega
        rw [e, ((HP.out.drewN nq).at1 (k + 1)).plat, hpl]
        omega
    · have hex : k = s.size ∨ ∃ hlt : k < s.size, s[k] = c := by
        rcases Nat.lt_or_ge k s.size with h | h
        · refine Or.inr ⟨h, ?_⟩
          rcases Classical.em (s[k] = c) with e | e
          · exact e
          · exact absurd ⟨h, e⟩ hgo
        · exact Or.inl (by omega)
      have hxs : (s.extract a k).size ≤ k - a := by
        have := congrArg List.length (ext_rest s a k)
        rw [len_list, List.length_take] at this
        omega
      have HU := hide (fun Y => refUn_one (s.extract a k) Y (by omega))
      have HVS := hide (unV_size (s.extract a k))
      have HPC := hide (fun Y (hY : Below wr.heap.size wr Y) => HP.out.below hY)
      have HKC : Hid (∀ Y, Below wr.heap.size wr Y → Kr p w Y) := fun Y hY => HK.out.trans (Kr.of hY)
      have yc0 : ∀ Y, Below wr.heap.size wr Y → Y.cell? ⟨p, 0, none⟩ = some (.string s) := fun Y hY => (hY.cell (p := ⟨p, 0, none⟩) hpp).trans c0
      have yc1 : ∀ Y, Below wr.heap.size wr Y → Y.cell? ⟨p, 1, none⟩ = some (.int .i64 k) := fun Y hY => (hY.cell (p := ⟨p, 1, none⟩) hpp).trans c1
      rcases hex with rfl | ⟨hlt, he⟩
      · have hki : ¬ (s.size : Int) < (s.size : Int) := by omega
        have HT := hide (up_end HN.out)
        go_wp2_with fail
        go_quiet (fail)
        go_wp2_with fail
        have hb0 : Below wr.heap.size wr (wr.drewN nq) := below_drewN' (Below.refl _ wr) nq
        have HB0 := hide hb0
        go_region_held3 (fun Y => Below wr.heap.size wr Y)
          (first
            | assumption
            | exact hb0.drew
            | exact HB0.out.trans (by assumption : Below (wr.drewN _).heap.size (wr.drewN _) _)
            | exact HB0.out.drew.trans (by assumption : Below (wr.drewN _).drew.heap.size (wr.drewN _).drew _))
          ((go_at_call 67; refine (HU.out _).mono ?_; rintro e w5 ⟨rfl, b5⟩))
        have H5 : Hid (Below wr.heap.size wr w5) := by assumption
        have hP5 := HPC.out w5 H5.out
        have HK5 := hide (HKC.out w5 H5.out)
        have h5 : w5.heap[p]? = some (.cells #[.string s, .int .i64 s.size, .bool l] 71) := hP5
        have g0 : w5.cell? ⟨p, 0, none⟩ = some (.string s) := by simp [World.cell?, h5]
        have g1 : w5.cell? ⟨p, 1, none⟩ = some (.int .i64 s.size) := by simp [World.cell?, h5]
        have g2 : w5.cell? ⟨p, 2, none⟩ = some (.bool l) := by simp [World.cell?, h5]
        have g3 : w5.frozen? ⟨p, 2, none⟩ = false := by simp [World.frozen?, h5]
        have HP5 := hide hP5
        clear b5 hb0 yc0 yc1 c0 c1 y1 h5 hP5 HPC HKC HU
        generalize unV (s.extract a s.size) = V at *
        generalize unN (s.extract a s.size) = n at *
        by_cases hn : n = 0
        · subst hn
          go_wp2_with fail
          go_quiet (fail)
          go_wp2_with fail
          go_ret
          refine ⟨_, s.size, true, rfl, (HK5.out.trans (Kr.of (below_drewN' (Below.refl _ w5) _))).trans (Kr.set p _ 2 (.bool true)), (HP5.out.drewN _).lose, by have := HVS.out; omega, by omega, ⟨fun e => (by cases e), fun _ => Or.inr HT.out⟩⟩
        · have hn' : ¬ (n = 0) := hn
          go_wp2_with fail
          go_quiet (fail)
          go_wp2_with fail
          go_ret
          refine ⟨_, s.size, true, rfl, (HK5.out.trans (Kr.of (below_drewN' (Below.refl _ w5) _))).trans (Kr.set p _ 2 (.bool true)), (HP5.out.drewN _).lose, by have := HVS.out; omega, by omega, ⟨fun e => (by cases e), fun _ => Or.inr HT.out⟩⟩
      · have hki : (k : Int) < (s.size : Int) := by omega
        have e1 : ((s[k].toNat : Int) == (c.toNat : Int)) = true := by rw [he]; simp
        have hkn : ¬ ((k : Int) = (s.size : Int)) := by omega
        have HT := hide (up_at hak hlt he HN.out)
        go_wp2_with fail
        go_quiet (fail)
        go_wp2_with fail
        have hb0 : Below wr.heap.size wr (wr.drewN nq) := below_drewN' (Below.refl _ wr) nq
        have HB0 := hide hb0
        go_region_held3 (fun Y => Below wr.heap.size wr Y)
          (first
            | assumption
            | exact hb0.drew
            | exact HB0.out.trans (by assumption : Below (wr.drewN _).heap.size (wr.drewN _) _)
            | exact HB0.out.drew.trans (by assumption : Below (wr.drewN _).drew.heap.size (wr.drewN _).drew _))
          ((go_at_call 67; refine (HU.out _).mono ?_; rintro e w5 ⟨rfl, b5⟩))
        have H5 : Hid (Below wr.heap.size wr w5) := by assumption
        have hP5 := HPC.out w5 H5.out
        have HK5 := hide (HKC.out w5 H5.out)
        have h5 : w5.heap[p]? = some (.cells #[.string s, .int .i64 k, .bool l] 71) := hP5
        have g0 : w5.cell? ⟨p, 0, none⟩ = some (.string s) := by simp [World.cell?, h5]
        have g1 : w5.cell? ⟨p, 1, none⟩ = some (.int .i64 k) := by simp [World.cell?, h5]
        have g2 : w5.cell? ⟨p, 2, none⟩ = some (.bool l) := by simp [World.cell?, h5]
        have g3 : w5.frozen? ⟨p, 2, none⟩ = false := by simp [World.frozen?, h5]
        have HP5 := hide hP5
        clear b5 hb0 yc0 yc1 c0 c1 y1 h5 hP5 HPC HKC HU
        cases hx : Pg.unesc (s.extract a k).data.toList with
        | some t =>
          have hV : unV (s.extract a k) = ⟨t.toArray⟩ := by unfold unV; rw [hx]
          have hN : unN (s.extract a k) = 0 := by unfold unN; rw [hx]
          have HT2 : Hid (txtL c (rest s a) = some (unV (s.extract a k), rest s k)) := by show _ = _; rw [HT.out, hx, hV]; rfl
          clear hV hx
          generalize unV (s.extract a k) = V at *
          rw [hN]
          go_wp2_with fail
          go_quiet (fail)
          go_wp2_with fail
          go_ret
          refine ⟨_, k, l, rfl, HK5.out.trans (Kr.of (below_drewN' (Below.refl _ w5) _)), HP5.out.drewN _, by have := HVS.out; omega, by omega, ⟨fun e => ⟨e, HT2.out⟩, fun e => Or.inl e⟩⟩
        | none =>
          have hN : unN (s.extract a k) = 2 := by unfold unN; rw [hx]
          have HT2 : Hid (txtL c (rest s a) = none) := by show _ = _; rw [HT.out, hx]; rfl
          clear hx
          generalize unV (s.extract a k) = V at *
          rw [hN]
          go_wp2_with fail
          go_quiet (fail)
          go_wp2_with fail
          go_ret
          refine ⟨_, k, true, rfl, (HK5.out.trans (Kr.of (below_drewN' (Below.refl _ w5) _))).trans (Kr.set p _ 2 (.bool true)), (HP5.out.drewN _).lose, by have := HVS.out; omega, by omega, ⟨fun e => (by cases e), fun _ => Or.inr HT2.out⟩⟩
end Go.Proofs.YtaejlcffimkopaaDoor.pg
