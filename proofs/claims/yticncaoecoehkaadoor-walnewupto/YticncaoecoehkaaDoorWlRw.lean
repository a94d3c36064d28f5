import Derived.Test.YticncaoecoehkaaDoorWlSameD
import Derived.Test.YticncaoecoehkaaDoorWlTold
namespace Go.Proofs.YticncaoecoehkaaDoor.wl
open Go.ChangeShapes Go.WideShapes Go.ChangeAt Go.RowKit Go.Proofs.YticncaoecoehkaaDoor.common Go.Proofs.YticncaoecoehkaaDoor.dk

/-- payloads in a row of one's own that touches none of the blocks G -/
structure Rw (w : World) (G : List Nat) (v : Value) (us : List Value) (L : List (List UInt8)) : Prop where
  row : w.ownsRow 0 22 1 v us.length us
  len : us.length = L.length
  rd : ∀ i (h1 : i < us.length) (h2 : i < L.length), Rd w us[i] L[i]
  far : ∀ b, v.ownBlock = some b → b ∉ G
  aside : ∀ u ∈ us, ∀ a n c, u = .slice (some a) n c → a.block ∉ G ∧ ∃ cur, w.heap[a.block]? = some (.cells cur 5 (0, 0))
theorem rw_nil (w : World) (G : List Nat) : Rw w G (.slice none 0 0) [] [] := ⟨World.ownsRow_nil _ _ _ _, rfl, fun i h1 => absurd h1 (by simp), fun b hb => (by cases hb), fun u hu => (by cases hu)⟩
theorem Rw.lt {w : World} {G : List Nat} {v : Value} {us : List Value} {L : List (List UInt8)} (h : Rw w G v us L) : ∀ b, v.ownBlock = some b → b < w.heap.size := own_lt h.row
theorem Rw.fr {w w' : World} {F G G' : List Nat} {v : Value} {us : List Value} {L : List (List UInt8)} (h : Rw w G v us L) (hf : Fr F w w') (hF : ∀ k ∈ F, k ∈ G) (hs : ∀ k ∈ G', k ∈ G ∨ w.heap.size ≤ k) : Rw w' G' v us L := by
  refine ⟨own_frF h.row hf (fun b hb hm => h.far b hb (hF b hm)), h.len, fun i h1 h2 => ?_, fun b hb hm => ?_, fun u hu a n c e => ?_⟩
  · refine (h.rd i h1 h2).keep (fun oa n cap e => ?_) hf.size
    obtain ⟨h3, cur, h4⟩ := h.aside _ (List.getElem_mem h1) oa n cap e
    exact hf.block _ (Array.getElem?_eq_some_iff.1 h4).1 (fun hm => h3 (hF _ hm))
  · rcases hs b hm with h2 | h2
    · exact h.far b hb h2
    · have := h.lt b hb; omega
  · obtain ⟨h3, cur, h4⟩ := h.aside u hu a n c e
    have hlt := (Array.getElem?_eq_some_iff.1 h4).1
    refine ⟨fun hm => ?_, cur, (hf.block _ hlt (fun hm => h3 (hF _ hm))).trans h4⟩
    rcases hs _ hm with h2 | h2
    · exact h3 h2
    · omega
theorem Rw.below {w w' : World} {G : List Nat} {v : Value} {us : List Value} {L : List (List UInt8)} (h : Rw w G v us L) (hb : Below w.heap.size w w') : Rw w' G v us L := h.fr (F := []) (Fr.of hb) (fun k hk => (by cases hk)) (fun _ hk => Or.inl hk)
/-- a block of the law's own (no row of payloads, no bytes) is written -/
theorem Rw.more {w : World} {G G' : List Nat} {v : Value} {us : List Value} {L : List (List UInt8)} (h : Rw w G v us L) (hs : ∀ k ∈ G', k ∈ G ∨ w.heap.size ≤ k) : Rw w G' v us L := h.fr (Fr.refl [] w) (fun k hk => (by cases hk)) hs
theorem Rw.ls {w : World} {G : List Nat} {v : Value} {us : List Value} {L : List (List UInt8)} (h : Rw w G v us L) : Ls w v L := ls_own h.row h.len h.rd
theorem Rw.form {w : World} {G : List Nat} {v : Value} {us : List Value} {L : List (List UInt8)} (h : Rw w G v us L) : ∃ oa c, v = .slice oa L.length c := h.ls.len
theorem Tl.rw {w : World} {F : List Nat} {v : Value} {its : List It} (h : Tl w F v its) {G : List Nat} (hG : ∀ b, v.ownBlock = some b ∨ (∃ x ∈ its, x.g = b) → b ∉ G) : Rw w G v (its.map It.v) (ps its) := by
  refine ⟨by rw [List.length_map]; exact h.row, by simp [ps], fun i h1 h2 => ?_, fun b hb => hG b (Or.inl hb), fun u hu a n c e => ?_⟩
  · have hi' : i < its.length := by simpa using h1
    simp only [List.getElem_map, ps]
    exact (h.nw its[i] (List.getElem_mem hi')).rd _
  · obtain ⟨x, hx, rfl⟩ := List.mem_map.1 hu
    cases e
    exact ⟨hG _ (Or.inr ⟨x, hx, rfl⟩), _, h.nw x hx⟩

theorem infoLs : (Tryd.prog.info? 22).map (fun i => (i.zero, i.size, i.bytes)) = some (some (.slice none 0 0), 1, 24) := by kernel_rfl
theorem Rw.at {w : World} {G : List Nat} {oa : Option Addr} {c : Nat} {us : List Value} {L : List (List UInt8)} {n : Nat} (h : Rw w G (.slice oa n c) us L) (k : Nat) (hk : k < L.length) : ∃ g, oa = some ⟨g, 0, none⟩ ∧ g < w.heap.size ∧ w.cell? ⟨g, k, none⟩ = some (us[k]'(by rw [h.len]; exact hk)) := by
  have hk' : k < us.length := by rw [h.len]; exact hk
  rcases h.row.2 with ⟨_, h0⟩ | ⟨g, cap, cur, e, _, hc, h1, _, h3, h4⟩
  · omega
  · cases e
    refine ⟨g, rfl, (Array.getElem?_eq_some_iff.1 hc).1, ?_⟩
    have e : (cur.toList.take (us.length * 1))[k]? = us[k]? := by rw [h4]
    rw [List.getElem?_take_of_lt (by omega), List.getElem?_eq_getElem (l := us) hk'] at e
    simp only [World.cell?, hc]
    simpa using e
theorem slice_of {w : World} {u : Value} {l : List UInt8} (h : Rd w u l) : ∃ o c, u = .slice o l.length c := h.len

set_option maxRecDepth 100000 in
set_option maxHeartbeats 3200000 in
theorem behind_any (w : World) (G : List Nat) (va vb : Value) (us vs : List Value) (P Q : List (List UInt8)) (ha : Rw w G va us P) (hb : Rw w G vb vs Q) (hG : ∀ k ∈ G, k < w.heap.size) (hn : P.length + Q.length ≤ 1099511627776) :
    Calls Tryd.prog 26 #[va, vb] w fun r' w' => ∃ v, r' = .returned v ∧ Rw w' G v (us ++ vs) (P ++ Q) ∧ (∀ b, v.ownBlock = some b → w.heap.size ≤ b) ∧ Below w.heap.size w w' := by
  obtain ⟨i0, hi, hz0, hz1, hz2⟩ := info_parts infoLs
  have hul := ha.len
  have hvl := hb.len
  obtain ⟨oa, ca, rfl⟩ := ha.form
  obtain ⟨ob, cb, rfl⟩ := hb.form
  have HA := hide ha
  have HB := hide hb
  have HU := hide hul
  have HV := hide hvl
  have HGG := hide hG
  clear ha hb hul hvl hG
  have HFIN : Hid (∀ (X : World) (v : Value), X.ownsRow w.heap.size 22 1 v (us ++ vs).length (us ++ vs) → Below w.heap.size w X → Rw X G v (us ++ vs) (P ++ Q)) := fun X v hown hbx => by
    have hA := HA.out.below hbx
    have hB := HB.out.below hbx
    refine ⟨own_mono' hown (Nat.zero_le _), by rw [List.length_append, List.length_append, HU.out, HV.out], fun i h1 h2 => ?_, fun b hb hm => ?_, fun u hu => ?_⟩
    · by_cases hi : i < us.length
      · rw [List.getElem_append_left hi, List.getElem_append_left (by rw [← HU.out]; exact hi)]
        exact hA.rd i hi (by rw [← HU.out]; exact hi)
      · rw [List.getElem_append_right (by omega), List.getElem_append_right (by rw [← HU.out]; omega)]
        have h3 := hB.rd (i - us.length) (by rw [List.length_append] at h1; omega) (by rw [List.length_append, ← HU.out, ← HV.out] at h2; rw [← HV.out]; omega)
        simp only [HU.out] at h3 ⊢
        exact h3
    · have h1 := own_ge hown b hb
      have h2 := HGG.out b hm
      omega
    · rcases List.mem_append.1 hu with h | h
      · exact hA.aside u h
      · exact hB.aside u h
  go_enter Tryd.func26, Tryd.ntmps26
  go_wp2
  go_loopw [5, 6] (fun v i wr => ∃ k : Nat, k ≤ P.length ∧ i = .int .i64 k ∧ wr.ownsRow w.heap.size 22 1 v k (us.take k) ∧ Below w.heap.size w wr) (fun _ i _ => P.length - (intOf i).toNat)
  case atStart => exact ⟨0, Nat.zero_le _, rfl, World.ownsRow_nil _ _ _ _, Below.refl _ _⟩
  case round =>
    obtain ⟨k, hk, rfl, hown, hnx⟩ := hrel
    have hsz := hnx.size
    by_cases hlt : k < P.length
    · obtain ⟨g, rfl, _, c1⟩ := (HA.out.below hnx).at k hlt
      have HKU : Hid (k < us.length) := by show _ < _; rw [HU.out]; exact hlt
      have hsn := hide (take_snocL us k HKU.out)
      obtain ⟨xo, xc, hx⟩ := slice_of (HA.out.rd k HKU.out hlt)
      have k0 : (0 : Int) ≤ (k : Int) := Int.natCast_nonneg _
      have k1 : (k : Int) < (P.length : Int) := by omega
      generalize (P[k]).length = pl at *
      generalize us[k]'HKU.out = x at *
      subst hx
      go_wp2_with (at_builtin; refine wpList_append_own _ rfl _ _ 28 rfl w.heap.size 22 i0 (.slice none 0 0) 1 24 Tryd.underlying28 hi hz0 hz1 hz2 rfl (by decide) _ _ _ rfl (hown.alloc _) ⟨wr.heap.size, 0, none⟩ 1 1 [.slice xo pl xc] rfl rfl ?c1 ?c2 ?c3 ?c4 ?c5 ?_)
      case c1 => exact cell_one_new _ _ _
      case c2 => intro u hu; simp at hu; subst hu; rfl
      case c3 => unfold maxLen; omega
      case c4 => omega
      case c5 => simp; omega
      intro v' w1 hown' hgrow _
      have R1 : w1.ownsRow w.heap.size 22 1 v' (k + 1) (us.take (k + 1)) := by rw [hsn.out]; exact hown'
      have R2 : Below w.heap.size w w1 := by
        refine (hnx.alloc hsz _).grown hgrow (by simp; omega) ?_
        exact own_ge hown
      clear hown' hgrow hown
      have H1 := hide R1
      have H2 := hide R2
      clear R1 R2
      go_wp2
      go_roundw
      case rel => exact ⟨k + 1, by omega, by go_num, H1.out, H2.out⟩
      case measure => simp [intOf]; omega
    · obtain rfl : k = P.length := by omega
      have HO : Hid (wr.ownsRow w.heap.size 22 1 u5 P.length us) := by
        rw [List.take_of_length_le (by rw [HU.out]; exact Nat.le_refl _)] at hown; exact hown
      have HNX := hide hnx
      clear hown hnx
      go_wp2
      go_loopw [5, 7] (fun v i wr2 => ∃ k : Nat, k ≤ Q.length ∧ i = .int .i64 k ∧ wr2.ownsRow w.heap.size 22 1 v (P.length + k) (us ++ vs.take k) ∧ Below w.heap.size w wr2) (fun _ i _ => Q.length - (intOf i).toNat)
      case atStart => exact ⟨0, Nat.zero_le _, rfl, by rw [List.take_zero, List.append_nil]; exact HO.out, HNX.out⟩
      case round =>
        obtain ⟨k, hk, rfl, hown, hnx⟩ := hrel
        have hsz := hnx.size
        by_cases hlt : k < Q.length
        · obtain ⟨g, rfl, _, c1⟩ := (HB.out.below hnx).at k hlt
          have HKU : Hid (k < vs.length) := by show _ < _; rw [HV.out]; exact hlt
          have hsn := hide (take_snocL vs k HKU.out)
          obtain ⟨xo, xc, hx⟩ := slice_of (HB.out.rd k HKU.out hlt)
          have k0 : (0 : Int) ≤ (k : Int) := Int.natCast_nonneg _
          have k1 : (k : Int) < (Q.length : Int) := by omega
          generalize (Q[k]).length = pl at *
          generalize vs[k]'HKU.out = x at *
          subst hx
          go_wp2_with (at_builtin; refine wpList_append_own _ rfl _ _ 28 rfl w.heap.size 22 i0 (.slice none 0 0) 1 24 Tryd.underlying28 hi hz0 hz1 hz2 rfl (by decide) _ _ _ rfl (hown.alloc _) ⟨wr.heap.size, 0, none⟩ 1 1 [.slice xo pl xc] rfl rfl ?d1 ?d2 ?d3 ?d4 ?d5 ?_)
          case d1 => exact cell_one_new _ _ _
          case d2 => intro u hu; simp at hu; subst hu; rfl
          case d3 => unfold maxLen; omega
          case d4 => omega
          case d5 => simp; omega
          intro v' w1 hown' hgrow _
          have R1 : w1.ownsRow w.heap.size 22 1 v' (P.length + (k + 1)) (us ++ vs.take (k + 1)) := by rw [hsn.out, ← Nat.add_assoc]; exact hown'
          have R2 : Below w.heap.size w w1 := by
            refine (hnx.alloc hsz _).grown hgrow (by simp; omega) ?_
            exact own_ge hown
          clear hown' hgrow hown
          have H1 := hide R1
          have H2 := hide R2
          clear R1 R2
          go_wp2
          go_roundw
          case rel => exact ⟨k + 1, by omega, by go_num, H1.out, H2.out⟩
          case measure => simp [intOf]; omega
        · obtain rfl : k = Q.length := by omega
          have hO2 : wr.ownsRow w.heap.size 22 1 u5 (us ++ vs).length (us ++ vs) := by
            rw [List.take_of_length_le (by rw [HV.out]; exact Nat.le_refl _)] at hown
            rw [List.length_append, HU.out, HV.out]
            exact hown
          have HO2 := hide hO2
          have HNX2 := hide hnx
          have HGE : Hid (∀ b, Value.ownBlock u5 = some b → w.heap.size ≤ b) := own_ge hO2
          clear hown hnx hO2
          go_wp2
          go_ret
          exact ⟨_, rfl, HFIN.out _ _ HO2.out HNX2.out, HGE.out, HNX2.out⟩
end Go.Proofs.YticncaoecoehkaaDoor.wl
