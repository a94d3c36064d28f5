import Derived.Test.YtilhfmhjgfmejaaGreatDoorMRgKit
namespace Go.Proofs.YtilhfmhjgfmejaaGreatDoor.rg
open Go.ChangeShapes Go.WideShapes Go.ChangeAt Go.RowKit Go.Proofs.YtilhfmhjgfmejaaGreatDoor.common Go.Maps
attribute [local go_sem ↓] Go.wp_at_zero Go.wp_at_succ

theorem set_twelve {w : World} {F : Nat} {t : TypeId} {x0 x1 x2 x3 x4 x5 x6 x7 x8 x9 x10 x11 : Value} (h : w.heap[F]? = some (.cells #[x0, x1, x2, x3, x4, x5, x6, x7, x8, x9, x10, x11] t)) (a0 a1 a2 a3 a4 a5 a6 a7 a8 a9 a10 a11 : Value) : ((((((((((((w.setCell ⟨F, 0, none⟩ a0).setCell ⟨F, 1, none⟩ a1).setCell ⟨F, 2, none⟩ a2).setCell ⟨F, 3, none⟩ a3).setCell ⟨F, 4, none⟩ a4).setCell ⟨F, 5, none⟩ a5).setCell ⟨F, 6, none⟩ a6).setCell ⟨F, 7, none⟩ a7).setCell ⟨F, 8, none⟩ a8).setCell ⟨F, 9, none⟩ a9).setCell ⟨F, 10, none⟩ a10).setCell ⟨F, 11, none⟩ a11).heap[F]? = some (.cells #[a0, a1, a2, a3, a4, a5, a6, a7, a8, a9, a10, a11] t) := by
  have h0 : (w.setCell ⟨F, 0, none⟩ a0).heap[F]? = some (.cells #[a0, x1, x2, x3, x4, x5, x6, x7, x8, x9, x10, x11] t) := set_of h 0 a0
  generalize w.setCell ⟨F, 0, none⟩ a0 = w0 at h0 ⊢
  have h1 : (w0.setCell ⟨F, 1, none⟩ a1).heap[F]? = some (.cells #[a0, a1, x2, x3, x4, x5, x6, x7, x8, x9, x10, x11] t) := set_of h0 1 a1
  generalize w0.setCell ⟨F, 1, none⟩ a1 = w1 at h1 ⊢
  have h2 : (w1.setCell ⟨F, 2, none⟩ a2).heap[F]? = some (.cells #[a0, a1, a2, x3, x4, x5, x6, x7, x8, x9, x10, x11] t) := set_of h1 2 a2
  generalize w1.setCell ⟨F, 2, none⟩ a2 = w2 at h2 ⊢
  have h3 : (w2.setCell ⟨F, 3, none⟩ a3).heap[F]? = some (.cells #[a0, a1, a2, a3, x4, x5, x6, x7, x8, x9, x10, x11] t) := set_of h2 3 a3
  generalize w2.setCell ⟨F, 3, none⟩ a3 = w3 at h3 ⊢
  have h4 : (w3.setCell ⟨F, 4, none⟩ a4).heap[F]? = some (.cells #[a0, a1, a2, a3, a4, x5, x6, x7, x8, x9, x10, x11] t) := set_of h3 4 a4
  generalize w3.setCell ⟨F, 4, none⟩ a4 = w4 at h4 ⊢
  have h5 : (w4.setCell ⟨F, 5, none⟩ a5).heap[F]? = some (.cells #[a0, a1, a2, a3, a4, a5, x6, x7, x8, x9, x10, x11] t) := set_of h4 5 a5
  generalize w4.setCell ⟨F, 5, none⟩ a5 = w5 at h5 ⊢
  have h6 : (w5.setCell ⟨F, 6, none⟩ a6).heap[F]? = some (.cells #[a0, a1, a2, a3, a4, a5, a6, x7, x8, x9, x10, x11] t) := set_of h5 6 a6
  generalize w5.setCell ⟨F, 6, none⟩ a6 = w6 at h6 ⊢
  have h7 : (w6.setCell ⟨F, 7, none⟩ a7).heap[F]? = some (.cells #[a0, a1, a2, a3, a4, a5, a6, a7, x8, x9, x10, x11] t) := set_of h6 7 a7
  generalize w6.setCell ⟨F, 7, none⟩ a7 = w7 at h7 ⊢
  have h8 : (w7.setCell ⟨F, 8, none⟩ a8).heap[F]? = some (.cells #[a0, a1, a2, a3, a4, a5, a6, a7, a8, x9, x10, x11] t) := set_of h7 8 a8
  generalize w7.setCell ⟨F, 8, none⟩ a8 = w8 at h8 ⊢
  have h9 : (w8.setCell ⟨F, 9, none⟩ a9).heap[F]? = some (.cells #[a0, a1, a2, a3, a4, a5, a6, a7, a8, a9, x10, x11] t) := set_of h8 9 a9
  generalize w8.setCell ⟨F, 9, none⟩ a9 = w9 at h9 ⊢
  have h10 : (w9.setCell ⟨F, 10, none⟩ a10).heap[F]? = some (.cells #[a0, a1, a2, a3, a4, a5, a6, a7, a8, a9, a10, x11] t) := set_of h9 10 a10
  generalize w9.setCell ⟨F, 10, none⟩ a10 = w10 at h10 ⊢
  have h11 : (w10.setCell ⟨F, 11, none⟩ a11).heap[F]? = some (.cells #[a0, a1, a2, a3, a4, a5, a6, a7, a8, a9, a10, a11] t) := set_of h10 11 a11
  exact h11

/-- m is the block of one of the two lists of a client -/
def Bk (u : Value × Value) (m : Nat) : Prop := u.1.ownBlock = some m ∨ u.2.ownBlock = some m
/-- the lists of clients lie in blocks of their own, rising -/
structure ApC (s : List (Value × Value)) : Prop where
  lt : ∀ (i j : Nat) u v, i < j → s[i]? = some u → s[j]? = some v → ∀ m m', Bk u m → Bk v m' → m < m'
  ne : ∀ (j : Nat) u, s[j]? = some u → ∀ m m', u.1.ownBlock = some m → u.2.ownBlock = some m' → m ≠ m'
theorem ApC.snoc {s : List (Value × Value)} (h : ApC s) {u : Value × Value} {N : Nat} (h1 : ∀ (j : Nat) v, s[j]? = some v → ∀ m, Bk v m → m < N) (h2 : ∀ m, Bk u m → N ≤ m) (h3 : ∀ m m', u.1.ownBlock = some m → u.2.ownBlock = some m' → m ≠ m') : ApC (s ++ [u]) := by
  have key : ∀ (j : Nat) v, (s ++ [u])[j]? = some v → (j < s.length ∧ s[j]? = some v) ∨ (j = s.length ∧ v = u) := by
    intro j v hv
    by_cases hj : j < s.length
    · exact Or.inl ⟨hj, by rw [List.getElem?_append_left hj] at hv; exact hv⟩
    · have hl := (List.getElem?_eq_some_iff.1 hv).1
      have hj2 : j = s.length := by simp at hl; omega
      subst hj2
      refine Or.inr ⟨rfl, ?_⟩
      simp at hv
      exact hv.symm
  refine ⟨fun i j a b hij ha hb m m' hm hm' => ?_, fun j a ha => ?_⟩
  · rcases key i a ha with ⟨hi, ha'⟩ | ⟨hi, _⟩
    · rcases key j b hb with ⟨_, hb'⟩ | ⟨_, hbu⟩
      · exact h.lt i j a b hij ha' hb' m m' hm hm'
      · exact Nat.lt_of_lt_of_le (h1 i a ha' m hm) (h2 m' (hbu ▸ hm'))
    · rcases key j b hb with ⟨hj, _⟩ | ⟨hj, _⟩ <;> omega
  · rcases key j a ha with ⟨_, ha'⟩ | ⟨_, hau⟩
    · exact h.ne j a ha'
    · rw [hau]; exact h3
theorem OwnC.bk_lt {base : Nat} {w : World} {v : Value} {l : List Cli} {s : List (Value × Value)} (h : OwnC base w v l s) : ∀ (j : Nat) u, s[j]? = some u → ∀ m, Bk u m → m < w.heap.size := by
  intro j u hu m hm
  obtain ⟨hj, rfl⟩ := List.getElem?_eq_some_iff.1 hu
  rcases hm with hm | hm
  · exact ((h.to j hj).lt m hm).2
  · exact ((h.sc j hj).lt m hm).2

set_option maxRecDepth 100000 in
set_option maxHeartbeats 6400000 in
theorem twin_own (w : World) (t : Ten) (vC vU : Value) (cs : List Cli) (us : List Usr) (hC : LiesC w vC cs) (hU : LiesU w vU us) (hcs : cs.length * 104 ≤ 140737488355328) (hus : us.length * 48 ≤ 140737488355328) (hci : ∀ x ∈ cs, x.to.length * 16 ≤ 140737488355328 ∧ x.sc.length * 16 ≤ 140737488355328) :
    Calls Tryz.prog 12 #[.agg #[.int .i64 t.a0, .int .i64 t.a1, .int .i64 t.a2, .int .i64 t.a3, .int .i64 t.a4, .int .i64 t.a5, .int .i64 t.a6, .int .i64 t.a7, .int .i64 t.a8, .int .i64 t.a9, vC, vU]] w fun e w' => ∃ vC' vU' s, e = .returned (.agg #[.int .i64 t.a0, .int .i64 t.a1, .int .i64 t.a2, .int .i64 t.a3, .int .i64 t.a4, .int .i64 t.a5, .int .i64 t.a6, .int .i64 t.a7, .int .i64 t.a8, .int .i64 t.a9, vC', vU']) ∧ OwnC (w.heap.size + 3) w' vC' cs s ∧ ApC s ∧ LiesU w' vU' us ∧ Below w.heap.size w w' := by
  have HUw := hide hU
  obtain ⟨oc, ck, rfl, hCc⟩ := hC
  obtain ⟨ou, uk, rfl, _⟩ := hU
  obtain ⟨j0, hjn, hy0, hy1, hy2⟩ := info_parts infoC
  obtain ⟨hP, hR, hQ⟩ := heap_three w (.cells #[.int .i64 t.a0, .int .i64 t.a1, .int .i64 t.a2, .int .i64 t.a3, .int .i64 t.a4, .int .i64 t.a5, .int .i64 t.a6, .int .i64 t.a7, .int .i64 t.a8, .int .i64 t.a9, .slice oc cs.length ck, .slice ou us.length uk] 25) (.cells #[.int .i64 0, .int .i64 0, .int .i64 0, .int .i64 0, .int .i64 0, .int .i64 0, .int .i64 0, .int .i64 0, .int .i64 0, .int .i64 0, .slice none 0 0, .slice none 0 0] 25) (.cells #[.int .i64 t.a0, .int .i64 t.a1, .int .i64 t.a2, .int .i64 t.a3, .int .i64 t.a4, .int .i64 t.a5, .int .i64 t.a6, .int .i64 t.a7, .int .i64 t.a8, .int .i64 t.a9, .slice none 0 0, .slice none 0 0] 25)
  have B1 : Below w.heap.size w (((w.alloc (.cells #[.int .i64 t.a0, .int .i64 t.a1, .int .i64 t.a2, .int .i64 t.a3, .int .i64 t.a4, .int .i64 t.a5, .int .i64 t.a6, .int .i64 t.a7, .int .i64 t.a8, .int .i64 t.a9, .slice oc cs.length ck, .slice ou us.length uk] 25)).alloc (.cells #[.int .i64 0, .int .i64 0, .int .i64 0, .int .i64 0, .int .i64 0, .int .i64 0, .int .i64 0, .int .i64 0, .int .i64 0, .int .i64 0, .slice none 0 0, .slice none 0 0] 25)).alloc (.cells #[.int .i64 t.a0, .int .i64 t.a1, .int .i64 t.a2, .int .i64 t.a3, .int .i64 t.a4, .int .i64 t.a5, .int .i64 t.a6, .int .i64 t.a7, .int .i64 t.a8, .int .i64 t.a9, .slice none 0 0, .slice none 0 0] 25)) := (((Below.refl _ _).alloc (Nat.le_refl _) _).alloc (by simp) _).alloc (by simp; omega) _
  have hsz : (((w.alloc (.cells #[.int .i64 t.a0, .int .i64 t.a1, .int .i64 t.a2, .int .i64 t.a3, .int .i64 t.a4, .int .i64 t.a5, .int .i64 t.a6, .int .i64 t.a7, .int .i64 t.a8, .int .i64 t.a9, .slice oc cs.length ck, .slice ou us.length uk] 25)).alloc (.cells #[.int .i64 0, .int .i64 0, .int .i64 0, .int .i64 0, .int .i64 0, .int .i64 0, .int .i64 0, .int .i64 0, .int .i64 0, .int .i64 0, .slice none 0 0, .slice none 0 0] 25)).alloc (.cells #[.int .i64 t.a0, .int .i64 t.a1, .int .i64 t.a2, .int .i64 t.a3, .int .i64 t.a4, .int .i64 t.a5, .int .i64 t.a6, .int .i64 t.a7, .int .i64 t.a8, .int .i64 t.a9, .slice none 0 0, .slice none 0 0] 25)).heap.size = w.heap.size + 3 := by simp
  have HP := hide hP
  have HR := hide hR
  have HQ := hide hQ
  have HB1 := hide B1
  have HL1 := hide (HUw.out.below B1)
  have HCC := hide hCc
  have HCI := hide hci
  clear hP hR hQ B1 hCc hci
  go_enter Tryz.func12, Tryz.ntmps12
  go_wp2_with (at_builtin; refine append_users _ rfl _ _ rfl (w.heap.size + 3) rfl _ us rfl HL1.out ?c3 ?c4 ?c5 ?_)
  case c3 => unfold maxLen; omega
  case c4 => omega
  case c5 => rw [hsz]; exact Nat.le_refl _
  intro v1 w1 own1 hg1
  obtain ⟨o1, c1k, rfl⟩ := form_w own1
  have P1 := grown_at hg1 HP.out (fun k hk => by cases hk)
  have R1 := grown_at hg1 HR.out (fun k hk => by cases hk)
  have Q1 := grown_at hg1 HQ.out (fun k hk => by cases hk)
  have q1 : w1.cell? ⟨w.heap.size + 1 + 1, 11, none⟩ = some (.slice none 0 0) := cell_of Q1 11
  have z1 : w1.frozen? ⟨w.heap.size + 1 + 1, 11, none⟩ = false := free_of Q1 11
  have HQ2 := hide (set_of Q1 11 (.slice o1 us.length c1k))
  have HP2 := hide (heap_set w1 ⟨w.heap.size + 1 + 1, 11, none⟩ (.slice o1 us.length c1k) P1 (by show w.heap.size ≠ w.heap.size + 1 + 1; omega))
  have HR2 := hide (heap_set w1 ⟨w.heap.size + 1 + 1, 11, none⟩ (.slice o1 us.length c1k) R1 (by show w.heap.size + 1 ≠ w.heap.size + 1 + 1; omega))
  have HO2 := hide (own_off own1 ⟨w.heap.size + 1 + 1, 11, none⟩ (.slice o1 us.length c1k) (Or.inl (by show w.heap.size + 1 + 1 < _; omega)))
  have HB2 : Hid (Below w.heap.size w (w1.setCell ⟨w.heap.size + 1 + 1, 11, none⟩ (.slice o1 us.length c1k))) := (HB1.out.grown hg1 (by rw [hsz]; omega) (fun k hk => by cases hk)).setCell (p := ⟨w.heap.size + 1 + 1, 11, none⟩) (by show w.heap.size ≤ w.heap.size + 1 + 1; omega) _
  have HZ2 : Hid (w.heap.size + 3 ≤ (w1.setCell ⟨w.heap.size + 1 + 1, 11, none⟩ (.slice o1 us.length c1k)).heap.size) := by
    have h1 := hg1.size
    rw [hsz] at h1
    have e := size_set w1 ⟨w.heap.size + 1 + 1, 11, none⟩ (.slice o1 us.length c1k)
    show _ ≤ _
    omega
  clear own1 hg1 P1 R1 Q1 HP HR HQ HB1 HL1 hsz
  go_wp2_with fail
  go_loopw [4] (fun i wr => ∃ (k : Nat) (s : List (Value × Value)) (vN : Value), k ≤ cs.length ∧ i = .int .i64 k ∧ Hid (OwnC (w.heap.size + 3) wr vN (cs.take k) s) ∧ Hid (wr.ownsRow (w.heap.size + 3) 47 3 (.slice o1 us.length c1k) us.length (uc us)) ∧ Hid (wr.heap[w.heap.size + 1 + 1]? = some (.cells #[.int .i64 t.a0, .int .i64 t.a1, .int .i64 t.a2, .int .i64 t.a3, .int .i64 t.a4, .int .i64 t.a5, .int .i64 t.a6, .int .i64 t.a7, .int .i64 t.a8, .int .i64 t.a9, vN, .slice o1 us.length c1k] 25)) ∧ Hid (wr.heap[w.heap.size]? = some (.cells #[.int .i64 t.a0, .int .i64 t.a1, .int .i64 t.a2, .int .i64 t.a3, .int .i64 t.a4, .int .i64 t.a5, .int .i64 t.a6, .int .i64 t.a7, .int .i64 t.a8, .int .i64 t.a9, .slice oc cs.length ck, .slice ou us.length uk] 25)) ∧ Hid (wr.heap[w.heap.size + 1]? = some (.cells #[.int .i64 0, .int .i64 0, .int .i64 0, .int .i64 0, .int .i64 0, .int .i64 0, .int .i64 0, .int .i64 0, .int .i64 0, .int .i64 0, .slice none 0 0, .slice none 0 0] 25)) ∧ Hid (Below w.heap.size w wr) ∧ Hid (w.heap.size + 3 ≤ wr.heap.size) ∧ Hid (ApC s)) (fun i _ => cs.length - (intOf i).toNat)
  case atStart => exact ⟨0, [], .slice none 0 0, by omega, rfl, ⟨rfl, World.ownsRow_nil _ _ _ _, fun i hi => absurd hi (Nat.not_lt_zero _), fun i hi => absurd hi (Nat.not_lt_zero _)⟩, HO2, HQ2, HP2, HR2, HB2, HZ2, ⟨fun i j u v _ h => by simp at h, fun j u h => by simp at h⟩⟩
  case round =>
    obtain ⟨k, sv, vN, hk, rfl, HF, HO, HQ, HP, HR, HB, HZ, HAP⟩ := hrel
    clear HO2 HQ2 HP2 HR2 HB2 HZ2
    have p2 : wr.cell? ⟨w.heap.size, 10, none⟩ = some (.slice oc cs.length ck) := cell_of HP.out 10
    by_cases hlt : k < cs.length
    · have hki : (k : Int) < (cs.length : Int) := by omega
      have k0 : (0 : Int) ≤ (k : Int) := Int.natCast_nonneg _
      have hil := HCI.out cs[k] (List.getElem_mem hlt)
      have htk : cs.take (k + 1) = cs.take k ++ [cs[k]] := List.take_succ_eq_append_getElem hlt
      have HTK := hide htk
      clear htk
      have hfc := HCC.out k hlt
      obtain ⟨X, hXe⟩ : ∃ X, cs[k] = X := ⟨_, rfl⟩
      rw [hXe] at hil hfc HTK
      clear hXe
      obtain ⟨xi, xp, xs, xd, xt, xc⟩ := X
      simp only at hil
      obtain ⟨bl, o, vR, vS, ho, hbl, hcat⟩ := hfc
      cases ho
      obtain ⟨e0, e1, e2, e3, e4, e5, hT0, hS0⟩ := hcat
      simp only at e0 e1 e2 e3 e4 e5 hT0 hS0
      have d0 := (HB.out.cell (p := ⟨bl, o + k * 6, none⟩) hbl).trans e0
      have d1 := (HB.out.cell (p := ⟨bl, o + k * 6 + 1, none⟩) hbl).trans e1
      have d2 := (HB.out.cell (p := ⟨bl, o + k * 6 + 2, none⟩) hbl).trans e2
      have d3 := (HB.out.cell (p := ⟨bl, o + k * 6 + 3, none⟩) hbl).trans e3
      have d4 := (HB.out.cell (p := ⟨bl, o + k * 6 + 4, none⟩) hbl).trans e4
      have d5 := (HB.out.cell (p := ⟨bl, o + k * 6 + 5, none⟩) hbl).trans e5
      have HT0 := hide hT0
      have HS0 := hide hS0
      obtain ⟨oR, cR, rfl, _⟩ := hT0
      obtain ⟨oS, cS, rfl, _⟩ := hS0
      clear e0 e1 e2 e3 e4 e5
      have BA : Below wr.heap.size wr ((wr.alloc (.cells #[.string xi, .bool xp, .string xs, .string xd, .slice oR xt.length cR, .slice oS xc.length cS] 45)).alloc (.cells #[] 9)) := ((Below.refl _ _).alloc (Nat.le_refl _) _).alloc (by simp) _
      have HBA := hide BA
      have HLT := hide ((HT0.out.below HB.out).below BA)
      have HX1 := hide (heap_old (wr.alloc (.cells #[.string xi, .bool xp, .string xs, .string xd, .slice oR xt.length cR, .slice oS xc.length cS] 45)) (.cells #[] 9) (heap_new wr (.cells #[.string xi, .bool xp, .string xs, .string xd, .slice oR xt.length cR, .slice oS xc.length cS] 45)))
      have HE1 : Hid (((wr.alloc (.cells #[.string xi, .bool xp, .string xs, .string xd, .slice oR xt.length cR, .slice oS xc.length cS] 45)).alloc (.cells #[] 9)).ownsRow (wr.heap.size + 1) 9 1 (.slice (some ⟨wr.heap.size + 1, 0, none⟩) 0 0) ([] : List ByteArray).length (ss.sc [])) := by
        have := World.ownsRow_lit (base := wr.heap.size + 1) (e := 9) (size := 1) (wr.alloc (.cells #[.string xi, .bool xp, .string xs, .string xd, .slice oR xt.length cR, .slice oS xc.length cS] 45)) #[] 0 (by simp) (by decide) rfl
        show World.ownsRow _ _ _ _ _ _ _
        simpa using this
      have hwz := HB.out.size
      have p3 := (HBA.out.cell (p := ⟨w.heap.size, 10, none⟩) (by show w.heap.size < wr.heap.size; have := HZ.out; omega)).trans p2
      have d4' := (HBA.out.cell (p := ⟨bl, o + k * 6 + 4, none⟩) (by show bl < wr.heap.size; omega)).trans d4
      clear BA
      go_wp2_with (at_builtin; refine ss.append_strs _ rfl _ _ rfl (wr.heap.size + 1) _ [] rfl HE1.out _ xt rfl HLT.out ?c3 ?c4 ?c5 ?_)
      case c3 => unfold maxLen; simp; omega
      case c4 => simp; omega
      case c5 => simp
      intro v5 w5 own5 hg5
      obtain ⟨o5, c5k, rfl⟩ := form_w own5
      have HB5 := hide (own5.lt)
      have X5 := grown_at hg5 HX1.out (fun k' hk' => by cases hk'; show wr.heap.size + 1 ≠ wr.heap.size; omega)
      have x5 : w5.cell? ⟨wr.heap.size, 4, none⟩ = some (.slice oR xt.length cR) := cell_of X5 4
      have y5 : w5.frozen? ⟨wr.heap.size, 4, none⟩ = false := free_of X5 4
      have B5 : Below wr.heap.size wr w5 := HBA.out.grown hg5 (by simp; omega) (fun k' hk' => by cases hk'; show wr.heap.size ≤ wr.heap.size + 1; omega)
      have HX6 := hide (set_of X5 4 (.slice o5 xt.length c5k))
      have HO5 := hide (own_off own5 ⟨wr.heap.size, 4, none⟩ (.slice o5 xt.length c5k) (Or.inl (by show wr.heap.size < _; omega)))
      have HB6 := hide (B5.setCell (p := ⟨wr.heap.size, 4, none⟩) (Nat.le_refl _) (.slice o5 xt.length c5k))
      have hz5 := hg5.size
      have HZ6 : Hid (wr.heap.size + 2 ≤ (w5.setCell ⟨wr.heap.size, 4, none⟩ (.slice o5 xt.length c5k)).heap.size) := by
        show _ ≤ _
        rw [size_set]
        simpa using hz5
      clear own5 hg5 X5 B5 HX1 HE1 HLT HBA p3 d4' hz5
      have e6 := size_set w5 ⟨wr.heap.size, 4, none⟩ (.slice o5 xt.length c5k)
      have hz6 : wr.heap.size + 2 ≤ w5.heap.size := by have := HZ6.out; omega
      have BA6 : Below w5.heap.size (w5.setCell ⟨wr.heap.size, 4, none⟩ (.slice o5 xt.length c5k)) ((w5.setCell ⟨wr.heap.size, 4, none⟩ (.slice o5 xt.length c5k)).alloc (.cells #[] 9)) := (Below.refl _ _).alloc (by rw [e6]; exact Nat.le_refl _) _
      have HE6 : Hid (((w5.setCell ⟨wr.heap.size, 4, none⟩ (.slice o5 xt.length c5k)).alloc (.cells #[] 9)).ownsRow w5.heap.size 9 1 (.slice (some ⟨w5.heap.size, 0, none⟩) 0 0) ([] : List ByteArray).length (ss.sc [])) := by
        have := World.ownsRow_lit (base := w5.heap.size) (e := 9) (size := 1) (w5.setCell ⟨wr.heap.size, 4, none⟩ (.slice o5 xt.length c5k)) #[] 0 (by rw [e6]; exact Nat.le_refl _) (by decide) rfl
        rw [e6] at this
        exact this
      have BW6 : Below wr.heap.size wr ((w5.setCell ⟨wr.heap.size, 4, none⟩ (.slice o5 xt.length c5k)).alloc (.cells #[] 9)) := HB6.out.trans (BA6.mono (by omega))
      have p6 := (BW6.cell (p := ⟨w.heap.size, 10, none⟩) (by show w.heap.size < wr.heap.size; have := HZ.out; omega)).trans p2
      have d6 := (BW6.cell (p := ⟨bl, o + k * 6 + 5, none⟩) (by show bl < wr.heap.size; omega)).trans d5
      have HLS := hide ((HS0.out.below HB.out).below BW6)
      have HBA6 := hide BA6
      have HX6' := hide (heap_old (w5.setCell ⟨wr.heap.size, 4, none⟩ (.slice o5 xt.length c5k)) (.cells #[] 9) HX6.out)
      clear BA6 BW6
      go_wp2_with (at_builtin; refine ss.append_strs _ rfl _ _ rfl w5.heap.size _ [] rfl HE6.out _ xc rfl HLS.out ?c3 ?c4 ?c5 ?_)
      case c3 => unfold maxLen; simp; omega
      case c4 => simp; omega
      case c5 => simp [e6]
      intro v7 w7 own7 hg7
      obtain ⟨o7, c7k, rfl⟩ := form_w own7
      have X7 := grown_at hg7 HX6'.out (fun k' hk' => by cases hk'; show w5.heap.size ≠ wr.heap.size; omega)
      have x7 : w7.cell? ⟨wr.heap.size, 5, none⟩ = some (.slice oS xc.length cS) := cell_of X7 5
      have y7 : w7.frozen? ⟨wr.heap.size, 5, none⟩ = false := free_of X7 5
      have hz7 : w5.heap.size + 1 ≤ w7.heap.size := by have := hg7.size; simp [e6] at this; omega
      have B67 : Below w5.heap.size (w5.setCell ⟨wr.heap.size, 4, none⟩ (.slice o5 xt.length c5k)) w7 := HBA6.out.grown hg7 (by simp [e6]) (fun k' hk' => by cases hk'; exact Nat.le_refl _)
      have B67' : Below (w5.setCell ⟨wr.heap.size, 4, none⟩ (.slice o5 xt.length c5k)).heap.size (w5.setCell ⟨wr.heap.size, 4, none⟩ (.slice o5 xt.length c5k)) w7 := by rw [e6]; exact B67
      have HX8 : Hid ((w7.setCell ⟨wr.heap.size, 5, none⟩ (.slice o7 xc.length c7k)).heap[wr.heap.size]? = some (.cells #[.string xi, .bool xp, .string xs, .string xd, .slice o5 xt.length c5k, .slice o7 xc.length c7k] 45)) := set_of X7 5 _
      have HO8 := hide (own_off (bk.own_below HO5.out B67') ⟨wr.heap.size, 5, none⟩ (.slice o7 xc.length c7k) (Or.inl (by show wr.heap.size < _; omega)))
      have HP8 := hide (own_off own7 ⟨wr.heap.size, 5, none⟩ (.slice o7 xc.length c7k) (Or.inl (by show wr.heap.size < _; omega)))
      have B8 : Below wr.heap.size wr (w7.setCell ⟨wr.heap.size, 5, none⟩ (.slice o7 xc.length c7k)) := (HB6.out.trans (B67.mono (by omega))).setCell (p := ⟨wr.heap.size, 5, none⟩) (Nat.le_refl _) (.slice o7 xc.length c7k)
      have e8 := size_set w7 ⟨wr.heap.size, 5, none⟩ (.slice o7 xc.length c7k)
      have hQl := (Array.getElem?_eq_some_iff.1 HQ.out).1
      have hPl := (Array.getElem?_eq_some_iff.1 HP.out).1
      have hRl := (Array.getElem?_eq_some_iff.1 HR.out).1
      have hQ8 := (B8.block _ hQl).trans HQ.out
      have q8 : (w7.setCell ⟨wr.heap.size, 5, none⟩ (.slice o7 xc.length c7k)).cell? ⟨w.heap.size + 1 + 1, 10, none⟩ = some vN := cell_of hQ8 10
      have HRG := hide (range_of (l := [.string xi, .bool xp, .string xs, .string xd, .slice o5 xt.length c5k, .slice o7 xc.length c7k]) HX8.out)
      have htl : (cs.take k).length = k := by rw [List.length_take]; omega
      have hrow : wr.ownsRow (w.heap.size + 3) 45 6 vN k (cc (cs.take k) sv) := by have := HF.out.row; rwa [htl] at this
      obtain ⟨oN, cN, hvN⟩ := form_w hrow
      have HRW := hide (bk.own_below hrow B8)
      clear hrow htl
      have HAP8 : Hid (ApC (sv ++ [(.slice o5 xt.length c5k, .slice o7 xc.length c7k)])) := HAP.out.snoc HF.out.bk_lt (fun m hm => by
          rcases hm with hm | hm
          · have := (HB5.out m hm).1; omega
          · have := (own7.lt m hm).1; omega) (fun m m' hm hm' => by have := (HB5.out m hm).2; have := (own7.lt m' hm').1; omega)
      have HFO := hide (HF.out.below B8)
      have HOO := hide (bk.own_below HO.out B8)
      have HB8 := hide B8
      have HC8 := hide (bk.cells_new (w7.setCell ⟨wr.heap.size, 5, none⟩ (.slice o7 xc.length c7k)) [.string xi, .bool xp, .string xs, .string xd, .slice o5 xt.length c5k, .slice o7 xc.length c7k] 45)
      rw [e8] at HC8
      subst hvN
      clear own7 hg7 X7 B67 B67' B8 HX6 HX6' HE6 HLS HBA6 HO5 p6 d6 p2 d0 d1 d2 d3 d4 d5 HZ6 HB6 HT0 HS0 x5 y5
      go_wp2_with (first
        | (refine wpList_load_mid rfl 45 (.tmp 5) rfl wr.heap.size 0 rfl _ _ HRG.out Tryz.underlying45 rfl sizeCl ?_)
        | (at_builtin; refine wpList_append_own _ rfl _ _ 22 rfl (w.heap.size + 3) 45 j0 _ 6 104 Tryz.underlying22 hjn hy0 hy1 hy2 rfl (by decide) _ _ _ rfl (HRW.out.alloc _) ⟨w7.heap.size, 0, none⟩ 1 1 [.string xi, .bool xp, .string xs, .string xd, .slice o5 xt.length c5k, .slice o7 xc.length c7k] rfl rfl HC8.out ?c2 ?c3 ?c4 ?c5 ?_))
      case c2 => first | rfl | (intro u hu; simp at hu; rcases hu with rfl | rfl | rfl | rfl | rfl | rfl <;> rfl)
      case c3 => unfold maxLen; omega
      case c4 => omega
      case c5 => simp [e8]; have := HZ.out; omega
      intro v9 w9 own9 hg9 _
      obtain ⟨o9, c9k, rfl⟩ := form_w own9
      have hrb := own_ge HRW.out
      have hz := HZ.out
      have hQ9 := grown_at hg9 (heap_old (w7.setCell ⟨wr.heap.size, 5, none⟩ (.slice o7 xc.length c7k)) (.cells #[.string xi, .bool xp, .string xs, .string xd, .slice o5 xt.length c5k, .slice o7 xc.length c7k] 45) hQ8) (fun k' hk' => by have := hrb k' hk'; omega)
      have hP9 := grown_at hg9 (heap_old (w7.setCell ⟨wr.heap.size, 5, none⟩ (.slice o7 xc.length c7k)) (.cells #[.string xi, .bool xp, .string xs, .string xd, .slice o5 xt.length c5k, .slice o7 xc.length c7k] 45) ((HB8.out.block _ hPl).trans HP.out)) (fun k' hk' => by have := hrb k' hk'; omega)
      have hR9 := grown_at hg9 (heap_old (w7.setCell ⟨wr.heap.size, 5, none⟩ (.slice o7 xc.length c7k)) (.cells #[.string xi, .bool xp, .string xs, .string xd, .slice o5 xt.length c5k, .slice o7 xc.length c7k] 45) ((HB8.out.block _ hRl).trans HR.out)) (fun k' hk' => by have := hrb k' hk'; omega)
      have hB9 : Below w.heap.size w w9 := ((HB.out.trans (HB8.out.mono HB.out.size)).alloc (by have := HB8.out.size; omega) (.cells #[.string xi, .bool xp, .string xs, .string xd, .slice o5 xt.length c5k, .slice o7 xc.length c7k] 45)).grown hg9 (by have := HB8.out.size; simp; omega) (fun k' hk' => by have := hrb k' hk'; omega)
      have E9 : ∀ i (h : i < sv.length), w9.ownsRow (w.heap.size + 3) 9 1 sv[i].1 ((cs.take k)[i]'(by have := HF.out.len; omega)).to.length (ss.sc ((cs.take k)[i]'(by have := HF.out.len; omega)).to) := fun i h => ((HFO.out.to i h).alloc _).kept hg9 (rows_ne (by decide) (HFO.out.to i h) HRW.out)
      have F9 : ∀ i (h : i < sv.length), w9.ownsRow (w.heap.size + 3) 9 1 sv[i].2 ((cs.take k)[i]'(by have := HF.out.len; omega)).sc.length (ss.sc ((cs.take k)[i]'(by have := HF.out.len; omega)).sc) := fun i h => ((HFO.out.sc i h).alloc _).kept hg9 (rows_ne (by decide) (HFO.out.sc i h) HRW.out)
      have M9 : w9.ownsRow (w.heap.size + 3) 9 1 (.slice o5 xt.length c5k) xt.length (ss.sc xt) := own_low ((HO8.out.alloc _).kept hg9 (rows_ne (by decide) HO8.out HRW.out)) (by omega)
      have N9 : w9.ownsRow (w.heap.size + 3) 9 1 (.slice o7 xc.length c7k) xc.length (ss.sc xc) := own_low ((HP8.out.alloc _).kept hg9 (rows_ne (by decide) HP8.out HRW.out)) (by omega)
      have O9 := (HOO.out.alloc (.cells #[.string xi, .bool xp, .string xs, .string xd, .slice o5 xt.length c5k, .slice o7 xc.length c7k] 45)).kept hg9 (rows_ne (by decide) HOO.out HRW.out)
      have hz9 : w.heap.size + 3 ≤ w9.heap.size := by have := hg9.size; have := HB8.out.size; simp at *; omega
      have hql : w.heap.size + 1 + 1 < w.heap.size + 3 := by omega
      have HF10 : Hid (OwnC (w.heap.size + 3) (w9.setCell ⟨w.heap.size + 1 + 1, 10, none⟩ (.slice o9 (k + 1) c9k)) (.slice o9 (k + 1) c9k) (cs.take (k + 1)) (sv ++ [(.slice o5 xt.length c5k, .slice o7 xc.length c7k)])) := by
        show OwnC _ _ _ _ _
        rw [HTK.out]
        refine OwnC.off ?_ _ _ hql
        refine ownC_snoc (f := ⟨xi, xp, xs, xd, xt, xc⟩) HF.out.len ?_ E9 F9 M9 N9
        have htl : (cs.take k).length = k := by rw [List.length_take]; omega
        rw [htl]
        exact own9
      have HO10 := hide (own_off O9 ⟨w.heap.size + 1 + 1, 10, none⟩ (.slice o9 (k + 1) c9k) (Or.inl hql))
      have HQ10 := hide (set_of hQ9 10 (.slice o9 (k + 1) c9k))
      have HP10 := hide (heap_set w9 ⟨w.heap.size + 1 + 1, 10, none⟩ (.slice o9 (k + 1) c9k) hP9 (by show w.heap.size ≠ w.heap.size + 1 + 1; omega))
      have HR10 := hide (heap_set w9 ⟨w.heap.size + 1 + 1, 10, none⟩ (.slice o9 (k + 1) c9k) hR9 (by show w.heap.size + 1 ≠ w.heap.size + 1 + 1; omega))
      have HB10 := hide (hB9.setCell (p := ⟨w.heap.size + 1 + 1, 10, none⟩) (by show w.heap.size ≤ w.heap.size + 1 + 1; omega) (.slice o9 (k + 1) c9k))
      have HZ10 : Hid (w.heap.size + 3 ≤ (w9.setCell ⟨w.heap.size + 1 + 1, 10, none⟩ (.slice o9 (k + 1) c9k)).heap.size) := by
        show _ ≤ _
        rw [size_set]
        exact hz9
      have q9 : w9.cell? ⟨w.heap.size + 1 + 1, 10, none⟩ = some (.slice oN k cN) := cell_of hQ9 10
      have z9 : w9.frozen? ⟨w.heap.size + 1 + 1, 10, none⟩ = false := free_of hQ9 10
      clear own9 hg9 hQ9 hP9 hR9 hB9 E9 F9 M9 N9 O9 hQ8 q8 HFO HOO HRW HO8 HP8 HRG HC8 HX8
      go_wp2_with fail
      go_roundw
      case rel => exact ⟨k + 1, _, _, by omega, by go_num, HF10, HO10, HQ10, HP10, HR10, HB10, HZ10, HAP8⟩
      case measure => simp [intOf] <;> omega
    · have hk8 : ¬ (k : Int) < (cs.length : Int) := by omega
      obtain rfl : k = cs.length := by omega
      rw [List.take_length] at HF
      obtain ⟨oN, cN, rfl⟩ := form_w HF.out.row
      have HRG := hide (range_of HQ.out)
      have r0 : wr.cell? ⟨w.heap.size + 1, 0, none⟩ = some (.int .i64 0) := cell_of HR.out 0
      have y0 : wr.frozen? ⟨w.heap.size + 1, 0, none⟩ = false := free_of HR.out 0
      have r1 : wr.cell? ⟨w.heap.size + 1, 0 + 1, none⟩ = some (.int .i64 0) := cell_of HR.out 1
      have y1 : wr.frozen? ⟨w.heap.size + 1, 0 + 1, none⟩ = false := free_of HR.out 1
      have r2 : wr.cell? ⟨w.heap.size + 1, 0 + 2, none⟩ = some (.int .i64 0) := cell_of HR.out 2
      have y2 : wr.frozen? ⟨w.heap.size + 1, 0 + 2, none⟩ = false := free_of HR.out 2
      have r3 : wr.cell? ⟨w.heap.size + 1, 0 + 3, none⟩ = some (.int .i64 0) := cell_of HR.out 3
      have y3 : wr.frozen? ⟨w.heap.size + 1, 0 + 3, none⟩ = false := free_of HR.out 3
      have r4 : wr.cell? ⟨w.heap.size + 1, 0 + 4, none⟩ = some (.int .i64 0) := cell_of HR.out 4
      have y4 : wr.frozen? ⟨w.heap.size + 1, 0 + 4, none⟩ = false := free_of HR.out 4
      have r5 : wr.cell? ⟨w.heap.size + 1, 0 + 5, none⟩ = some (.int .i64 0) := cell_of HR.out 5
      have y5 : wr.frozen? ⟨w.heap.size + 1, 0 + 5, none⟩ = false := free_of HR.out 5
      have r6 : wr.cell? ⟨w.heap.size + 1, 0 + 6, none⟩ = some (.int .i64 0) := cell_of HR.out 6
      have y6 : wr.frozen? ⟨w.heap.size + 1, 0 + 6, none⟩ = false := free_of HR.out 6
      have r7 : wr.cell? ⟨w.heap.size + 1, 0 + 7, none⟩ = some (.int .i64 0) := cell_of HR.out 7
      have y7 : wr.frozen? ⟨w.heap.size + 1, 0 + 7, none⟩ = false := free_of HR.out 7
      have r8 : wr.cell? ⟨w.heap.size + 1, 0 + 8, none⟩ = some (.int .i64 0) := cell_of HR.out 8
      have y8 : wr.frozen? ⟨w.heap.size + 1, 0 + 8, none⟩ = false := free_of HR.out 8
      have r9 : wr.cell? ⟨w.heap.size + 1, 0 + 9, none⟩ = some (.int .i64 0) := cell_of HR.out 9
      have y9 : wr.frozen? ⟨w.heap.size + 1, 0 + 9, none⟩ = false := free_of HR.out 9
      have r10 : wr.cell? ⟨w.heap.size + 1, 0 + 10, none⟩ = some (.slice none 0 0) := cell_of HR.out 10
      have y10 : wr.frozen? ⟨w.heap.size + 1, 0 + 10, none⟩ = false := free_of HR.out 10
      have r11 : wr.cell? ⟨w.heap.size + 1, 0 + 11, none⟩ = some (.slice none 0 0) := cell_of HR.out 11
      have y11 : wr.frozen? ⟨w.heap.size + 1, 0 + 11, none⟩ = false := free_of HR.out 11
      go_wp2_with (refine wpList_load_mid rfl 25 (.tmp 3) rfl (w.heap.size + 1 + 1) 0 rfl _ _ HRG.out Tryz.underlying25 rfl sizeCf ?_)
      have hrl : w.heap.size + 1 < w.heap.size + 3 := by omega
      have hwl : w.heap.size ≤ w.heap.size + 1 := Nat.le_succ _
      have HO9 := hide (own_off (own_off (own_off (own_off (own_off (own_off (own_off (own_off (own_off (own_off (own_off (own_off HO.out ⟨w.heap.size + 1, 0, none⟩ (.int .i64 t.a0) (Or.inl hrl)) ⟨w.heap.size + 1, 1, none⟩ (.int .i64 t.a1) (Or.inl hrl)) ⟨w.heap.size + 1, 2, none⟩ (.int .i64 t.a2) (Or.inl hrl)) ⟨w.heap.size + 1, 3, none⟩ (.int .i64 t.a3) (Or.inl hrl)) ⟨w.heap.size + 1, 4, none⟩ (.int .i64 t.a4) (Or.inl hrl)) ⟨w.heap.size + 1, 5, none⟩ (.int .i64 t.a5) (Or.inl hrl)) ⟨w.heap.size + 1, 6, none⟩ (.int .i64 t.a6) (Or.inl hrl)) ⟨w.heap.size + 1, 7, none⟩ (.int .i64 t.a7) (Or.inl hrl)) ⟨w.heap.size + 1, 8, none⟩ (.int .i64 t.a8) (Or.inl hrl)) ⟨w.heap.size + 1, 9, none⟩ (.int .i64 t.a9) (Or.inl hrl)) ⟨w.heap.size + 1, 10, none⟩ (.slice oN cs.length cN) (Or.inl hrl)) ⟨w.heap.size + 1, 11, none⟩ (.slice o1 us.length c1k) (Or.inl hrl))
      have HF9 := hide (OwnC.off (OwnC.off (OwnC.off (OwnC.off (OwnC.off (OwnC.off (OwnC.off (OwnC.off (OwnC.off (OwnC.off (OwnC.off (OwnC.off HF.out ⟨w.heap.size + 1, 0, none⟩ (.int .i64 t.a0) hrl) ⟨w.heap.size + 1, 1, none⟩ (.int .i64 t.a1) hrl) ⟨w.heap.size + 1, 2, none⟩ (.int .i64 t.a2) hrl) ⟨w.heap.size + 1, 3, none⟩ (.int .i64 t.a3) hrl) ⟨w.heap.size + 1, 4, none⟩ (.int .i64 t.a4) hrl) ⟨w.heap.size + 1, 5, none⟩ (.int .i64 t.a5) hrl) ⟨w.heap.size + 1, 6, none⟩ (.int .i64 t.a6) hrl) ⟨w.heap.size + 1, 7, none⟩ (.int .i64 t.a7) hrl) ⟨w.heap.size + 1, 8, none⟩ (.int .i64 t.a8) hrl) ⟨w.heap.size + 1, 9, none⟩ (.int .i64 t.a9) hrl) ⟨w.heap.size + 1, 10, none⟩ (.slice oN cs.length cN) hrl) ⟨w.heap.size + 1, 11, none⟩ (.slice o1 us.length c1k) hrl)
      have HB9 := hide (Below.setCell (Below.setCell (Below.setCell (Below.setCell (Below.setCell (Below.setCell (Below.setCell (Below.setCell (Below.setCell (Below.setCell (Below.setCell (Below.setCell HB.out (p := ⟨w.heap.size + 1, 0, none⟩) hwl (.int .i64 t.a0)) (p := ⟨w.heap.size + 1, 1, none⟩) hwl (.int .i64 t.a1)) (p := ⟨w.heap.size + 1, 2, none⟩) hwl (.int .i64 t.a2)) (p := ⟨w.heap.size + 1, 3, none⟩) hwl (.int .i64 t.a3)) (p := ⟨w.heap.size + 1, 4, none⟩) hwl (.int .i64 t.a4)) (p := ⟨w.heap.size + 1, 5, none⟩) hwl (.int .i64 t.a5)) (p := ⟨w.heap.size + 1, 6, none⟩) hwl (.int .i64 t.a6)) (p := ⟨w.heap.size + 1, 7, none⟩) hwl (.int .i64 t.a7)) (p := ⟨w.heap.size + 1, 8, none⟩) hwl (.int .i64 t.a8)) (p := ⟨w.heap.size + 1, 9, none⟩) hwl (.int .i64 t.a9)) (p := ⟨w.heap.size + 1, 10, none⟩) hwl (.slice oN cs.length cN)) (p := ⟨w.heap.size + 1, 11, none⟩) hwl (.slice o1 us.length c1k))
      have HR9 := set_twelve HR.out (.int .i64 t.a0) (.int .i64 t.a1) (.int .i64 t.a2) (.int .i64 t.a3) (.int .i64 t.a4) (.int .i64 t.a5) (.int .i64 t.a6) (.int .i64 t.a7) (.int .i64 t.a8) (.int .i64 t.a9) (.slice oN cs.length cN) (.slice o1 us.length c1k)
      refine bodyPost_ret (results_c rfl _ rfl (range_of (l := [.int .i64 t.a0, .int .i64 t.a1, .int .i64 t.a2, .int .i64 t.a3, .int .i64 t.a4, .int .i64 t.a5, .int .i64 t.a6, .int .i64 t.a7, .int .i64 t.a8, .int .i64 t.a9, .slice oN cs.length cN, .slice o1 us.length c1k]) HR9) Tryz.underlying25 rfl sizeCf) rfl ?_
      exact ⟨_, _, rfl, _, HF9.out, HAP.out, liesU_of_own HO9.out, HB9.out⟩
end Go.Proofs.YtilhfmhjgfmejaaGreatDoor.rg
