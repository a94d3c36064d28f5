import Derived.Test.YtgmgffcfmopgmaaDoorWrPut
import Derived.Test.YtgmgffcfmopgmaaDoorWlSameD
import Derived.Test.YtgmgffcfmopgmaaDoorWlTold
import Derived.Test.YtgmgffcfmopgmaaDoorWlArgS
import Derived.Test.YtgmgffcfmopgmaaDoorRdCopy
namespace Go.Proofs.YtgmgffcfmopgmaaDoor.wl
open Go.ChangeShapes Go.WideShapes Go.ChangeAt Go.RowKit Go.Proofs.YtgmgffcfmopgmaaDoor.common Go.Proofs.YtgmgffcfmopgmaaDoor.dk Go.Proofs.YtgmgffcfmopgmaaDoor.dr

/-- an Open that answers -/
structure PoK (w w' : World) (p : Nat) (F F' : List Nat) (x : St) (g : Nat) (v : Value) (us : List Value) : Prop where
  row : Ow2 w' w.heap.size v us (Wl.scan x.b)
  log : LgAt w' g p (Wl.scan x.b).length (Wl.good x.b) false
  new : w.heap.size ≤ g
  far : g ∉ F'
  disk : Dk w' p F' (opS x).1
  fr : Fr F w w'
  sub : ∀ k ∈ F', k ∈ F ∨ w.heap.size ≤ k
def Po (e : Nat → Addr) (w : World) (p : Nat) (F : List Nat) (x : St) (r' : Ending) (w' : World) : Prop :=
  ((opS x).2 = 0 ∧ ∃ g v us F', r' = .returned (.tuple #[ptr g, v, .nilIface]) ∧ PoK w w' p F F' x g v us) ∨
  ((opS x).2 ≠ 0 ∧ r' = .returned (.tuple #[.pointer none, .slice none 0 0, errV e (opS x).2]) ∧ Mv w p F (opS x).1 w')
theorem openP_any (w : World) (K p : Nat) (F : List Nat) (x : St) (h : Dk w p F x) (e : Nat → Addr) (he : Er w K e) (hF : ∀ k ∈ F, K ≤ k) (hx : Fine x) (ht : crcw.Tab w) (hG : 13 < K) (hb : x.b.length ≤ 4398046511104) :
    Calls Tryd.prog 11 #[ptr p] w fun r' w' => Po e w p F x r' w' := by
  obtain ⟨y, n, hr⟩ : ∃ y n, x.reads = (y, n) := ⟨_, _, rfl⟩
  have hfy : Fine y := by have := fineR hx; rw [hr] at this; exact this
  by_cases hn : n = 0
  · subst hn
    have hyb : y.b = x.b := by have := reads_b x (by rw [hr]); rw [hr] at this; exact this
    have hgl := Wl.good_le x.b
    have hop : opS x = kpS y (Wl.good y.b) y.b.length := by unfold opS; rw [hr, if_pos rfl]
    obtain ⟨z, m, hk⟩ : ∃ z m, kpS y (Wl.good y.b) y.b.length = (z, m) := ⟨_, _, rfl⟩
    have hoz : opS x = (z, m) := hop.trans hk
    have hft := fineT hfy (Wl.good y.b) (by rw [hyb]; omega)
    by_cases hm : m = 0
    · subst hm
      refine (openL_ok w K p F x h e he.ed hF hx ht y hr hfy hft (by rw [hyb]; exact hb) z hk hG).mono ?_
      rintro r' w' ⟨g, F', v', its, rfl, hlg, hps, hown, hits, hfr, hs, hg, _, _⟩
      rw [hyb] at hps hlg
      have hl : its.length = (Wl.scan x.b).length := by rw [← hps]; simp [ps]
      refine Or.inl ⟨by rw [hoz], g, v', its.map It.v, F', rfl, ⟨⟨by rw [List.length_map]; exact hown, by rw [List.length_map]; exact hl, fun j h1 h2 => ?_⟩, ?_, hg, hlg.2.2, by rw [hoz]; exact hlg.1, hfr, hs⟩⟩
      · have hj : j < its.length := by simpa using h1
        have hq : (Wl.scan x.b)[j] = its[j].p := by
          have e5 : (ps its)[j]'(by simp [ps]; exact hj) = its[j].p := by simp [ps]
          rw [← e5]
          congr 1
          exact hps.symm
        have hit := hits.1 its[j] (List.getElem_mem hj)
        have hfp := (Wl.fit_iff _).1 (Wl.scan_fits x.b _ (List.getElem_mem h2))
        rw [hq] at hfp ⊢
        simp only [List.getElem_map]
        exact hit.1.own w.heap.size hit.2 (by unfold maxLen; omega)
      · have := hlg.2.1
        rw [← hl]
        exact this
    · refine (openL_keep w K p F x h e he.ed hF hx ht y hr hfy hft (by rw [hyb]; exact hb) z m hk hm hG).mono ?_
      rintro r' w' ⟨rfl, hmv⟩
      exact Or.inr ⟨by rw [hoz]; exact hm, by rw [hoz], by rw [hoz]; exact hmv⟩
  · have hoz : opS x = (y, n) := by unfold opS; rw [hr, if_neg hn]
    refine (openL_read w K p F x h e he.ed hF hx y n hr hn).mono ?_
    rintro r' w' ⟨rfl, hmv⟩
    exact Or.inr ⟨by rw [hoz]; exact hn, by rw [hoz], by rw [hoz]; exact hmv⟩

/-- the disk and the document's, in one state -/
structure Wp (base : Nat) (W0 w : World) (e : Nat → Addr) (p pc : Nat) (F Fc : List Nat) (x : St) (k : Nat) : Prop where
  d : Dk w p F x
  c : Dq w pc Fc (sq x)
  ld : ∀ q ∈ F, base ≤ q
  lc : ∀ q ∈ Fc, base ≤ q
  er : Er w base e
  fine : Fine x
  arms : x.a.length ≤ k
  dis : ∀ q ∈ F, q ∉ Fc
  low : Below base W0 w
  len : x.b.length ≤ 1074790400
theorem Wp.keep {base : Nat} {W0 w w' : World} {e : Nat → Addr} {p pc : Nat} {F Fc : List Nat} {x : St} {k : Nat} (h : Wp base W0 w e p pc F Fc x k) (hb : Below w.heap.size w w') : Wp base W0 w' e p pc F Fc x k :=
  ⟨h.d.below hb, h.c.below hb, h.ld, h.lc, h.er.below hb, h.fine, h.arms, h.dis, h.low.trans (hb.mono h.er.size), h.len⟩
/-- first the disk, then the document's -/
theorem Wp.step {base : Nat} {W0 w w1 w2 : World} {e : Nat → Addr} {p pc : Nat} {F Fc : List Nat} {x x' : St} {k j : Nat} (h : Wp base W0 w e p pc F Fc x k) (h1 : Mv w p F x' w1) (h2 : ∀ Fc1, Fc1 = Fc → Mq w1 pc Fc1 (sq x') w2) (hf : Fine x') (ha : x'.a.length ≤ j) (hl : x'.b.length ≤ 1074790400) : ∃ F' Fc', Wp base W0 w2 e p pc F' Fc' x' j ∧ Fr (F ++ Fc) w w2 ∧ (∀ q ∈ F' ++ Fc', q ∈ F ++ Fc ∨ w.heap.size ≤ q) := by
  obtain ⟨F', d1, f1, s1⟩ := h1
  obtain ⟨Fc', c2, f2, s2⟩ := h2 Fc rfl
  have hd1 : ∀ q ∈ F', q ∉ Fc := fun q hq hm => by
    rcases s1 q hq with h5 | h5
    · exact h.dis q h5 hm
    · have := h.c.lt q hm; omega
  have er1 := h.er.fr f1 h.ld
  refine ⟨F', Fc', ⟨d1.other f2 hd1, c2, fun q hq => ?_, fun q hq => ?_, er1.fr f2 h.lc, hf, ha, fun q hq hm => ?_, (h.low.trans (f1.below h.ld h.er.size)).trans (f2.below h.lc er1.size), hl⟩, ?_, fun q hq => ?_⟩
  · rcases s1 q hq with h5 | h5
    · exact h.ld q h5
    · exact Nat.le_trans h.er.size h5
  · rcases s2 q hq with h5 | h5
    · exact h.lc q h5
    · exact Nat.le_trans er1.size h5
  · rcases s2 q hm with h5 | h5
    · exact hd1 q hq h5
    · have := d1.lt q hq; omega
  · exact (f1.mono (fun q hq => List.mem_append_left _ hq)).trans f2 (fun q hq => Or.inl (List.mem_append_right _ hq))
  · rcases List.mem_append.1 hq with h5 | h5
    · rcases s1 q h5 with h6 | h6
      · exact Or.inl (List.mem_append_left _ h6)
      · exact Or.inr h6
    · rcases s2 q h5 with h6 | h6
      · exact Or.inl (List.mem_append_right _ h6)
      · exact Or.inr (Nat.le_trans f1.size h6)
/-- first the document's, then the disk -/
theorem Wp.stepR {base : Nat} {W0 w w1 w2 : World} {e : Nat → Addr} {p pc : Nat} {F Fc : List Nat} {x x' : St} {k j : Nat} (h : Wp base W0 w e p pc F Fc x k) (h1 : Mq w pc Fc (sq x') w1) (h2 : Mv w1 p F x' w2) (hf : Fine x') (ha : x'.a.length ≤ j) (hl : x'.b.length ≤ 1074790400) : ∃ F' Fc', Wp base W0 w2 e p pc F' Fc' x' j ∧ Fr (F ++ Fc) w w2 ∧ (∀ q ∈ F' ++ Fc', q ∈ F ++ Fc ∨ w.heap.size ≤ q) := by
  obtain ⟨Fc', c1, f1, s1⟩ := h1
  obtain ⟨F', d2, f2, s2⟩ := h2
  have hd1 : ∀ q ∈ Fc', q ∉ F := fun q hq hm => by
    rcases s1 q hq with h5 | h5
    · exact h.dis q hm h5
    · have := h.d.lt q hm; omega
  have er1 := h.er.fr f1 h.lc
  refine ⟨F', Fc', ⟨d2, c1.other f2 hd1, fun q hq => ?_, fun q hq => ?_, er1.fr f2 h.ld, hf, ha, fun q hq hm => ?_, (h.low.trans (f1.below h.lc h.er.size)).trans (f2.below h.ld er1.size), hl⟩, ?_, fun q hq => ?_⟩
  · rcases s2 q hq with h5 | h5
    · exact h.ld q h5
    · exact Nat.le_trans er1.size h5
  · rcases s1 q hq with h5 | h5
    · exact h.lc q h5
    · exact Nat.le_trans h.er.size h5
  · rcases s2 q hq with h5 | h5
    · exact hd1 q hm h5
    · have := c1.lt q hm; omega
  · exact (f1.mono (fun q hq => List.mem_append_right _ hq)).trans f2 (fun q hq => Or.inl (List.mem_append_left _ hq))
  · rcases List.mem_append.1 hq with h5 | h5
    · rcases s2 q h5 with h6 | h6
      · exact Or.inl (List.mem_append_left _ h6)
      · exact Or.inr (Nat.le_trans f1.size h6)
    · rcases s1 q h5 with h6 | h6
      · exact Or.inl (List.mem_append_right _ h6)
      · exact Or.inr h6

set_option maxRecDepth 100000 in
set_option maxHeartbeats 3200000 in
theorem looks_any (w : World) (p pc : Nat) (F Fc : List Nat) (x : St) (hd : Dk w p F x) (hc : Dq w pc Fc (sq x)) (hx : Fine x) :
    Calls Tryd.prog 38 #[ptr p, ptr pc] w fun r' w' => r' = .returned (.bool true) ∧ Below w.heap.size w w' := by
  have hm := hx.ok.most
  have HL := hide (look_any w p F x hd (by omega))
  have HD := hide hd
  have HC := hide hc
  clear hd hc
  go_enter Tryd.func38, Tryd.ntmps38
  go_wp2_with fail
  refine HL.out.mono ?_
  rintro r' w1 ⟨v1, rfl, h1, b1⟩
  have HLC := hide (dlook_any w1 pc Fc x (HC.out.below b1) hx)
  have HR1 := hide h1.rd
  obtain ⟨o1, c1, rfl⟩ := h1.rd.len
  have HB1 := hide b1
  clear h1 b1 HL
  go_wp2_with fail
  refine HLC.out.mono ?_
  rintro r' w2 ⟨v2, rfl, h2, b2⟩
  have HSB := hide (sameBytes_eq w2 _ _ x.b (HR1.out.below b2) (rd_own h2) (by omega))
  obtain ⟨o2, c2, rfl⟩ := (rd_own h2).len
  have HB2 : Hid (Below w.heap.size w w2) := keepD HB1.out b2
  clear h2 b2 HLC
  go_wp2_with fail
  refine HSB.out.mono ?_
  rintro r' w3 ⟨rfl, b3⟩
  have HB3 : Hid (Below w.heap.size w w3) := keepD HB2.out b3
  have HE1 := hide (dead_any w3 p F x (HD.out.below HB3.out))
  have HE2 := hide (ddead_any w3 pc Fc (sq x) (HC.out.below HB3.out))
  have hsd : (sq x).d = x.d := rfl
  rw [hsd] at HE2
  clear b3 HSB hsd
  cases hxd : x.d with
  | true =>
    rw [hxd] at HE1 HE2
    go_wp2_with (first
      | (go_at_call 31; refine HE1.out.mono ?_; rintro r' w7 ⟨rfl, rfl⟩)
      | (go_at_call 63; refine HE2.out.mono ?_; rintro r' w7 ⟨rfl, rfl⟩))
    go_ret
    exact ⟨by simp, HB3.out⟩
  | false =>
    rw [hxd] at HE1 HE2
    go_wp2_with (first
      | (go_at_call 31; refine HE1.out.mono ?_; rintro r' w7 ⟨rfl, rfl⟩)
      | (go_at_call 63; refine HE2.out.mono ?_; rintro r' w7 ⟨rfl, rfl⟩))
    go_ret
    exact ⟨by simp, HB3.out⟩
end Go.Proofs.YtgmgffcfmopgmaaDoor.wl
