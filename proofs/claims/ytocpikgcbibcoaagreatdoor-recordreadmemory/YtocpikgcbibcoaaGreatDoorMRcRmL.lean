import Derived.Test.YtocpikgcbibcoaaGreatDoorMRcRmB
import Derived.Test.YtocpikgcbibcoaaGreatDoorMRcRmW
import Derived.Test.YtocpikgcbibcoaaGreatDoorMRcMemQ
import Derived.Test.YtocpikgcbibcoaaGreatDoorMRcPkB
import Derived.Test.YtocpikgcbibcoaaGreatDoorMRcOnlyK
import Derived.Test.YtocpikgcbibcoaaGreatDoorMRdSameD
import Derived.Test.YtocpikgcbibcoaaGreatDoorMRcUn
namespace Go.Proofs.YtocpikgcbibcoaaGreatDoor.rc
open Go.ChangeShapes Go.WideShapes Go.ChangeAt Go.RowKit Go.Proofs.YtocpikgcbibcoaaGreatDoor.common Go.Proofs.YtocpikgcbibcoaaGreatDoor.dk

/-- the blocks from lo to hi are as they were -/
def Iv (lo hi : Nat) (w w' : World) : Prop := hi ≤ w'.heap.size ∧ ∀ k, lo ≤ k → k < hi → w'.heap[k]? = w.heap[k]?
theorem Iv.below {lo hi : Nat} {w w' w'' : World} (h : Iv lo hi w w') (hb : Below w'.heap.size w' w'') : Iv lo hi w w'' :=
  ⟨Nat.le_trans h.1 hb.size, fun k h1 h2 => (hb.block k (Nat.lt_of_lt_of_le h2 h.1)).trans (h.2 k h1 h2)⟩
theorem Iv.fr {lo hi : Nat} {w w' w'' : World} {F : List Nat} (h : Iv lo hi w w') (hf : Fr F w' w'') (hF : ∀ k ∈ F, k < lo ∨ hi ≤ k) : Iv lo hi w w'' :=
  ⟨Nat.le_trans h.1 hf.size, fun k h1 h2 => (hf.block k (Nat.lt_of_lt_of_le h2 h.1) (fun hm => by have := hF k hm; omega)).trans (h.2 k h1 h2)⟩
theorem iv_of {lo : Nat} {w w' : World} (hb : Below w.heap.size w w') : Iv lo w.heap.size w w' := ⟨hb.size, fun k _ h2 => hb.block k h2⟩
theorem own_iv {w w' : World} {base hi : Nat} {e : TypeId} {size : Nat} {v : Value} {n : Nat} {xs : List Value} (h : w.ownsRow base e size v n xs) (hi0 : w.heap.size ≤ hi) (hk : Iv base hi w w') : w'.ownsRow base e size v n xs := by
  refine ⟨h.1, ?_⟩
  rcases h.2 with h1 | ⟨g, cap, cur, rfl, h1, h2, h3⟩
  · exact Or.inl h1
  · exact Or.inr ⟨g, cap, cur, rfl, h1, (hk.2 g h1 (Nat.lt_of_lt_of_le (Array.getElem?_eq_some_iff.1 h2).1 hi0)).trans h2, h3⟩
theorem OwnR.iv {base : Nat} {w w' : World} {v : Value} {l : List Rec} {s : List Value} (h : OwnR base w v l s) (hk : Iv base w.heap.size w w') : OwnR base w' v l s :=
  ⟨h.len, own_iv h.row (Nat.le_refl _) hk, fun i hi => own_iv (h.each i hi) (Nat.le_refl _) hk⟩
theorem OwnR.liesAll {base : Nat} {w : World} {oa : Option Addr} {m cap : Nat} {l : List Rec} {s : List Value} (h : OwnR base w (.slice oa m cap) l s) : LiesR w (.slice oa l.length cap) l := by
  have := h.lies l.length (Nat.le_refl _)
  rwa [List.take_length] at this
theorem OwnR.blocks {base : Nat} {w : World} {v : Value} {l : List Rec} {s : List Value} (h : OwnR base w v l s) : ∀ k ∈ s.filterMap Value.ownBlock, base ≤ k ∧ k < w.heap.size := fun k hk => by
  obtain ⟨u, hu, hk⟩ := List.mem_filterMap.1 hk
  obtain ⟨j, hj, rfl⟩ := List.getElem_of_mem hu
  exact ⟨own_ge (h.each j hj) k hk, ((h.each j hj).lt k hk).2⟩
theorem own_keepI {w w' : World} {base : Nat} {e : TypeId} {size : Nat} {v : Value} {n : Nat} {xs : List Value} (h : w.ownsRow base e size v n xs) (hk : ∀ g, v.ownBlock = some g → w'.heap[g]? = w.heap[g]?) : w'.ownsRow base e size v n xs := by
  refine ⟨h.1, ?_⟩
  rcases h.2 with h1 | ⟨g, cap, cur, rfl, h1, h2, h3⟩
  · exact Or.inl h1
  · exact Or.inr ⟨g, cap, cur, rfl, h1, (hk g rfl).trans h2, h3⟩
/-- the texts of the i-th record -/
def scs (l : List Rec) (j : Nat) : List ByteArray := (l[j]?.getD zR).ss
theorem OwnR.ms {base g n cap : Nat} {w : World} {l : List Rec} {s : List Value} (h : OwnR base w (.slice (some ⟨g, 0, none⟩) n cap) l s) : Ms g s w (scs l) w ∧ ∀ v ∈ s, v.ownBlock ≠ some g := by
  have hc := h.row.cells (g := g) rfl
  refine ⟨⟨fun i hi => ?_, fun i hi => ?_, Fr.refl _ _⟩, fun u hu hb => ?_⟩
  · have hil : i < l.length := by have := h.len; omega
    have := hc _ _ (rcc_get l s h.len i hil 7 s[i] rfl)
    rw [Addr.add_mid, Nat.zero_add] at this
    exact this
  · have hil : i < l.length := by have := h.len; omega
    have := own_least (h.each i hi) (Nat.zero_le base)
    have e : scs l i = l[i].ss := by unfold scs; rw [List.getElem?_eq_getElem hil]; rfl
    rw [e]
    exact this
  · obtain ⟨j, hj, rfl⟩ := List.getElem_of_mem hu
    rcases rows_ne (show (9 : TypeId) ≠ 26 by decide) (h.each j hj) h.row with k | k
    · rw [k] at hb; cases hb
    · exact k hb
theorem scs_le {l : List Rec} (h : ∀ r ∈ l, r.ss.length ≤ 16) (j : Nat) : (scs l j).length ≤ 16 := by
  unfold scs
  cases e : l[j]? with
  | none => exact Nat.zero_le _
  | some r => exact h r (List.mem_of_getElem? e)
/-- behind the marking -/
theorem Ms.marked {g : Nat} {s : List Value} {l : List Rec} {w W : World} (h : Ms g s w (fun j => if j < s.length then List.replicate (scs l j).length (mkM j) else scs l j) W) (hl : l.length = s.length) : Ms g s W (fun j => List.replicate (scs l j).length (mkM j)) W := by
  have e : (fun j => if j < s.length then List.replicate (scs l j).length (mkM j) else scs l j) = fun j => List.replicate (scs l j).length (mkM j) := by
    funext j
    by_cases hj : j < s.length
    · rw [if_pos hj]
    · rw [if_neg hj]
      have : scs l j = [] := by unfold scs; rw [List.getElem?_eq_none (by omega)]; rfl
      rw [this]
      rfl
  rw [e] at h
  exact ⟨h.cell, h.row, Fr.refl _ _⟩
theorem rw_head {A : Nat → Prop} {w : World} {g n cap : Nat} {l r : List UInt8} (h : Rw A w (.slice (some ⟨g, 0, none⟩) n cap) (l ++ r)) (h0 : 0 < l.length) (c : Nat) : Rd w (.slice (some ⟨g, 0, none⟩) l.length c) l := by
  obtain ⟨g', cap', hv, _, hg, _, hr⟩ := row_bytes h.1 (by simp; omega)
  cases hv
  have := rd_part (k := 0) (n := l.length) (cap := c) hr hg (by simp)
  simpa using this
theorem rw_tail {A : Nat → Prop} {w : World} {g n cap : Nat} {l r : List UInt8} (h : Rw A w (.slice (some ⟨g, 0, none⟩) n cap) (l ++ r)) (h0 : 0 < l.length) (c : Nat) : Rd w (.slice (some ⟨g, l.length, none⟩) r.length c) r := by
  obtain ⟨g', cap', hv, _, hg, _, hr⟩ := row_bytes h.1 (by simp; omega)
  cases hv
  have := rd_part (k := l.length) (n := r.length) (cap := c) hr hg (by simp)
  simpa using this
/-- a record that was just laid into a row of one -/
theorem ownR_one (w : World) (r : Rec) (u : Value) {base : Nat} (hb : base ≤ w.heap.size) (hu : w.ownsRow base 9 1 u r.ss.length (r.ss.map Value.string)) : OwnR base (w.alloc (.cells (rcs r u) 26)) (.slice (some ⟨w.heap.size, 0, none⟩) 1 1) [r] [u] := by
  refine ⟨rfl, ⟨rfl, Or.inr ⟨_, 1, _, rfl, hb, heap_alloc_new w _, Nat.le_refl _, by decide, rfl, rfl⟩⟩, fun i hi => ?_⟩
  have : i = 0 := by simp at hi; omega
  subst this
  exact own_below hu ((Below.refl _ _).alloc (Nat.le_refl _) _)
/-- the two records that go ahead -/
abbrev xB : ByteArray := ⟨#[120]⟩
abbrev hd1 : Rec := ⟨3, eB, eB, eB, eB, eB, eB, [], 0⟩
abbrev hd2 : Rec := ⟨3, eB, eB, eB, eB, eB, eB, [xB], 0⟩
abbrev hdW (w : World) : World := (w.alloc (.cells #[.string xB] 9)).alloc (.cells (rcs hd1 (.slice none 0 0) ++ rcs hd2 (.slice (some ⟨w.heap.size, 0, none⟩) 1 1)) 26)
theorem hd_own (w : World) : (hdW w).ownsRow w.heap.size 26 9 (.slice (some ⟨w.heap.size + 1, 0, none⟩) 2 2) 2 (rcc [hd1, hd2] [.slice none 0 0, .slice (some ⟨w.heap.size, 0, none⟩) 1 1]) := by
  refine ⟨rfl, Or.inr ⟨w.heap.size + 1, 2, rcs hd1 (.slice none 0 0) ++ rcs hd2 (.slice (some ⟨w.heap.size, 0, none⟩) 1 1), rfl, by omega, ?_, Nat.le_refl _, by decide, rfl, rfl⟩⟩
  have h := heap_alloc_new (w.alloc (.cells #[.string xB] 9)) (.cells (rcs hd1 (.slice none 0 0) ++ rcs hd2 (.slice (some ⟨w.heap.size, 0, none⟩) 1 1)) 26)
  rw [World.size_alloc] at h
  exact h
theorem hd_below (w : World) : Below w.heap.size w (hdW w) := ((Below.refl _ _).alloc (Nat.le_refl _) _).alloc (by simp) _
theorem hd_lies {w w' : World} {v' : Value} {l : List Rec} {sl : List Value} (hll : l.length = sl.length) (hls : ∀ i (hi : i < sl.length), Go.Proofs.YtocpikgcbibcoaaGreatDoor.ss.Lies w sl[i] (l[i]?.getD zR).ss)
    (ho : w'.ownsRow w.heap.size 26 9 v' (2 + l.length) (rcc [hd1, hd2] [.slice none 0 0, .slice (some ⟨w.heap.size, 0, none⟩) 1 1] ++ rcc l sl)) (hg : (hdW w).grownBy w' (some (w.heap.size + 1))) : LiesR w' v' (hd1 :: hd2 :: l) ∧ Below w.heap.size w w' := by
  have hB : Below w.heap.size w w' := (hd_below w).grown hg (by simp; omega) (fun b hb => by cases hb; omega)
  refine ⟨liesR_of_row (base := w.heap.size) (s := .slice none 0 0 :: .slice (some ⟨w.heap.size, 0, none⟩) 1 1 :: sl) ?_ (by simp [hll]) (fun i hi => ?_), hB⟩
  · have e1 : (hd1 :: hd2 :: l).length = 2 + l.length := by simp; omega
    rw [e1]
    have e2 := rcc_app [hd1, hd2] l [.slice none 0 0, .slice (some ⟨w.heap.size, 0, none⟩) 1 1] sl rfl
    show World.ownsRow _ _ _ _ _ _ (rcc ([hd1, hd2] ++ l) ([.slice none 0 0, .slice (some ⟨w.heap.size, 0, none⟩) 1 1] ++ sl))
    rw [e2]
    exact ho
  · match i, hi with
    | 0, _ => exact lies_none w'
    | 1, _ =>
      have hz : w'.heap[w.heap.size]? = some (.cells #[.string xB] 9 (0, 0)) := by
        rw [hg.block w.heap.size (by simp; omega) (by simp)]
        rw [heap_alloc_old (w.alloc (.cells #[.string xB] 9)) _ (by simp)]
        exact heap_alloc_new w _
      have ho1 : w'.ownsRow 0 9 1 (.slice (some ⟨w.heap.size, 0, none⟩) 1 1) 1 [.string xB] := ⟨rfl, Or.inr ⟨_, 1, _, rfl, Nat.zero_le _, hz, Nat.le_refl _, by decide, rfl, rfl⟩⟩
      exact Go.Proofs.YtocpikgcbibcoaaGreatDoor.ss.lies_of_own (l := [xB]) ho1
    | i + 2, hi =>
      have hi' : i < sl.length := by simpa using hi
      exact (hls i hi').below hB
theorem hd_tid {l : List Rec} (h : ∀ r ∈ l, TidIn r) : ∀ r ∈ hd1 :: hd2 :: l, TidIn r := fun r hr => by
  rcases List.mem_cons.1 hr with k | k
  · subst k; exact ⟨by decide, by decide, by decide, by decide, by decide, by decide, fun s hs => by cases hs⟩
  · rcases List.mem_cons.1 k with k | k
    · subst k
      exact ⟨by decide, by decide, by decide, by decide, by decide, by decide, fun s hs => by rw [List.mem_singleton.1 hs]; decide⟩
    · exact h r k
end Go.Proofs.YtocpikgcbibcoaaGreatDoor.rc

namespace Go.Proofs.YtocpikgcbibcoaaGreatDoor.rc
open Go.ChangeShapes Go.WideShapes Go.ChangeAt Go.RowKit Go.Proofs.YtocpikgcbibcoaaGreatDoor.common Go.Proofs.YtocpikgcbibcoaaGreatDoor.dk
attribute [local go_sem ↓] Go.wp_at_zero Go.wp_at_succ

set_option maxRecDepth 100000 in
set_option maxHeartbeats 25600000 in
theorem lawReadMemory (l : List Rec) (v : Value) (w : World) (e : Nat → Addr) (hv : LiesR w v l) (hs : ∀ r ∈ l, TidIn r) (hn : (2 + l.length) * 136 ≤ 140737488355328) (he : Env (e 1) (e 2) (errw.E e 0) w) (hE : errw.Errs w e) (hp : pk.Env w) :
    Calls Tryz.prog 3 #[v] w fun x w' => x = .returned (.bool true) ∧ Below w.heap.size w w' := by
  have HENV : Hid (∀ X, Below w.heap.size w X → Env (e 1) (e 2) (errw.E e 0) X ∧ errw.Errs X e ∧ pk.Env X) := fun X hX => ⟨he.below hX, hE.below hX, hp.below hX⟩
  obtain ⟨sl, hll, hls, hcl⟩ := hv.slices
  have HLL := hide hll
  have HLS := hide hls
  have HVY := hide (hv.below (hd_below w))
  have HOC : Hid (∀ u ∈ rcc l sl, u.oneCell' = true) := rcc_one' l sl (fun i hi => by obtain ⟨a, c, h, _⟩ := hls i hi; exact ⟨a, _, c, h⟩)
  have HCL : Hid (∀ ad cap, v = .slice (some ad) l.length cap → ∀ j u, (rcc l sl)[j]? = some u → (hdW w).cell? (ad.add j) = some u) := fun ad cap hq j u hu => by
    have h1 := hcl ad cap hq j u hu
    exact ((hd_below w).cell (World.block_lt_of_cell? w _ h1)).trans h1
  have HS := hide hs
  have HML : Hid (2 + l.length ≤ maxLen) := by show _ ≤ _; unfold maxLen; omega
  have HN := hide hn
  have HOW := hide (hd_own w)
  clear hv hs he hE hp hll hls hcl hn
  go_enter Tryz.func3, Tryz.ntmps3
  go_wp2_with (at_builtin; refine append_recs _ rfl _ _ rfl w.heap.size (w.heap.size + 1) 2 2 _ rfl HOW.out v l sl rfl HVY.out HLL.out HOC.out HCL.out HML.out HN.out (by simp; omega) ?_)
  intro v' wA ho hg
  obtain ⟨hLA, hBA⟩ := hd_lies HLL.out HLS.out ho hg
  have HBA := hide hBA
  have HTA := hide (tidyAll_any _ v' wA hLA (hd_tid HS.out) (HENV.out wA hBA).2.2)
  unfold TaOut at HTA
  obtain ⟨oA, cA, nA, hvA⟩ : ∃ oA nA cA, v' = .slice oA nA cA := by obtain ⟨a, b, h, _⟩ := hLA; exact ⟨a, _, b, h⟩
  subst hvA
  clear ho hg hLA hBA HVY HOC HCL HS HML HN HOW HLL HLS
  go_wp2_with fail
  refine HTA.out.mono ?_
  rintro x w1 ⟨vq, q, sq, rfl, hown, q0, q4, hqm, b1'⟩
  have b1 := keepW HBA.out b1'
  obtain ⟨gq, cq, rfl, hgb, hgq, hcap, hr⟩ := hown.slot q0
  have HB1 := hide b1
  have HO1 := hide hown
  have hgood := pk_good q0 q4 hqm
  have HPE : Hid (pkE q = 0) := hgood.1
  have HPL : Hid (3 ≤ (pkL q).length ∧ (pkL q).length ≤ 5425) := hgood.2.2
  have HUN : Hid (∀ o, UnR (pkL q) o → o = some q) := fun o h => un_of q0 q4 hqm h
  have HSL : Hid (∀ r ∈ q, r.Small ∧ r.Low) := fun r hr => ⟨(may_sz (hqm r hr)).small, (may_sz (hqm r hr)).low⟩
  have HQS : Hid (∀ r ∈ q, r.ss.length ≤ 16) := fun r hr => (may_sz (hqm r hr)).len
  have HQ4 := hide q4
  have HQ0 := hide q0
  obtain ⟨r0, t, u0, st, hq, hsq⟩ : ∃ r0 t u0 st, q = r0 :: t ∧ sq = u0 :: st := by
    cases q with
    | nil => simp at q0
    | cons a b =>
      cases sq with
      | nil => have := hown.len; simp at this
      | cons c d => exact ⟨a, b, c, d, rfl, rfl⟩
  have HQE := hide hq
  have HM0 : Hid (mayB r0 = true) := hqm r0 (by rw [hq]; exact List.mem_cons_self ..)
  have HEL : Hid (1 < (recL r0).length ∧ (recL r0).length ≤ 1354) := rec_len HM0.out
  have HDN : Hid (∀ o, DecR (recL r0) o → o = some r0) := fun o h => h.on r0 HM0.out (may_sz HM0.out).low rfl
  have HR16 : Hid (r0.ss.length ≤ 16) := HQS.out r0 (by rw [hq]; exact List.mem_cons_self ..)
  have HU0 : Hid (w1.ownsRow wA.heap.size 9 1 u0 r0.ss.length (r0.ss.map Value.string)) := by
    have h1 := hown.each 0 (by rw [hsq]; exact Nat.zero_lt_succ _)
    simp only [hq, hsq, List.getElem_cons_zero] at h1
    exact h1
  obtain ⟨ou, cu, hu0⟩ := own_slice HU0.out
  subst hu0
  have HRG : Hid (w1.rangeAt gq 0 (rcl9 r0 (.slice ou r0.ss.length cu))) := fun j x hx => by
    have h1 := hr j x (by rw [hq, hsq]; show (rcl9 r0 _ ++ _)[j]? = _; rw [List.getElem?_append_left (List.getElem?_eq_some_iff.1 hx).1]; exact hx)
    exact h1
  have HGQ : Hid (gq < w1.heap.size) := hgq
  have HLQ : Hid (∀ X, Below w1.heap.size w1 X → LiesR X (.slice (some ⟨gq, 0, none⟩) q.length cq) q) := fun X hX => by
    have := ((hown.below hX).lies q.length (Nat.le_refl _))
    rwa [List.take_length] at this
  have HHE := hide (heldOf_any q _ w1 (HLQ.out w1 (Below.refl _ _)) HQS.out HQ4.out)
  clear hown hr hgb hgq hqm hgood b1 b1' q0 q4 hsq hcap HTA HBA HO1
  have n0 : (0 : Int) < (q.length : Int) := by have := HQ0.out; omega
  have n1 : (0 : Int) ≤ (0 : Int) := Int.le_refl _
  have HQL : Hid (q.length = (r0 :: t).length) := by show _ = _; rw [hq]
  clear hq
  go_wp2_with fail
  refine HHE.out.mono ?_
  rintro x w2 ⟨vh, sh, rfl, hh, b2⟩
  have HB2 := hide (keepW HB1.out b2)
  have HW2 := hide b2
  have HOH := hide hh
  obtain ⟨gh, ch, hvh, hgh1, hgh2, hch, hrh⟩ := hh.slot HQ0.out
  subst hvh
  obtain ⟨uh, sh', hsh⟩ : ∃ uh sh', sh = uh :: sh' := by
    cases sh with
    | nil => have h1 := hh.len; have h2 := HQ0.out; simp at h1; rw [h1] at h2; simp at h2
    | cons a b => exact ⟨a, b, rfl⟩
  have HUH : Hid (w2.ownsRow w1.heap.size 9 1 uh r0.ss.length (r0.ss.map Value.string)) := by
    have h1 := hh.each 0 (by rw [hsh]; exact Nat.zero_lt_succ _)
    simp only [HQE.out, hsh, List.getElem_cons_zero] at h1
    exact h1
  obtain ⟨oh, ck, huh⟩ := own_slice HUH.out
  subst huh
  have HRH : Hid (w2.rangeAt gh 0 (rcl9 r0 (.slice oh r0.ss.length ck))) := fun j x hx => by
    have h1 := hrh j x (by rw [HQE.out, hsh]; show (rcl9 r0 _ ++ _)[j]? = _; rw [List.getElem?_append_left (List.getElem?_eq_some_iff.1 hx).1]; exact hx)
    exact h1
  have HGH : Hid (w1.heap.size ≤ gh ∧ gh < w2.heap.size) := ⟨hgh1, hgh2⟩
  have HLQ2 : Hid (∀ X, Below w2.heap.size w2 X → LiesR X (.slice (some ⟨gq, 0, none⟩) q.length cq) q) := fun X hX => HLQ.out X (keepW HW2.out hX)
  have HKR : Hid (∀ X, Below w2.heap.size w2 X → X.rangeAt gq 0 (rcl9 r0 (.slice ou r0.ss.length cu)) ∧ Go.Proofs.YtocpikgcbibcoaaGreatDoor.ss.Lies X (.slice ou r0.ss.length cu) r0.ss) := fun X hX => ⟨range_block HRG.out ((keepW HW2.out hX).block gq HGQ.out), ss.lies_of_own (own_below HU0.out (keepW HW2.out hX))⟩
  have HPKQ : Hid (∀ X, Below w.heap.size w X → Below w2.heap.size w2 X → Calls Tryz.prog 6 #[.slice (some ⟨gq, 0, none⟩) q.length cq] X fun x w' => ∃ v', x = .returned (.tuple #[v', .nilIface]) ∧ w'.ownsRow X.heap.size 5 1 v' (pkL q).length ((pkL q).map B) ∧ Below X.heap.size X w') := fun X hX hX2 => by
    have h1 := pack_any q _ (e 1) (e 2) e X (HLQ2.out X hX2) HSL.out (HENV.out X hX).1 ((HENV.out X hX).2.1.cell 2 (by decide))
    unfold PackOut at h1
    rw [HPE.out] at h1
    exact h1
  have HENQ : Hid (∀ X, Below w.heap.size w X → Below w2.heap.size w2 X → Calls Tryz.prog 7 #[.agg (rcs r0 (.slice ou r0.ss.length cu))] X fun x w' => ∃ v', x = .returned (.tuple #[v', .nilIface]) ∧ (∃ n, X.heap.size ≤ n ∧ w'.ownsRow n 5 1 v' (recL r0).length ((recL r0).map B)) ∧ Below X.heap.size X w') := fun X hX hX2 => by
    have h1 := encode_any r0 _ (e 1) (e 2) e X (HKR.out X hX2).2 (may_sz HM0.out).small (may_sz HM0.out).low (HENV.out X hX).1
    unfold EncOut at h1
    rw [HM0.out] at h1
    simp only [if_true] at h1
    exact h1
  have HUNP : Hid (∀ X vz, Below w.heap.size w X → Lo X.heap.size X vz (pkL q) → Calls Tryz.prog 9 #[vz] X fun x w' => ∃ v' vs, x = .returned (.tuple #[v', .nilIface]) ∧ OwnR X.heap.size w' v' q vs ∧ Rise vs ∧ Below X.heap.size X w') := fun X vz hX hz => by
    refine (unpackO_any (pkL q) vz (e 1) (e 2) e X hz (by have := HPL.out; omega) (HENV.out X hX).1 ((HENV.out X hX).2.1.cell 1 (by decide))).mono ?_
    rintro x w' ⟨o, v', vs, rfl, h1, h2, h3, h4⟩
    obtain rfl := HUN.out o h4
    exact ⟨v', vs, rfl, h1, h2, h3⟩
  have HDEC : Hid (∀ X vz, Below w.heap.size w X → Lo X.heap.size X vz (recL r0) → Calls Tryz.prog 10 #[vz] X fun x w' => ∃ v', x = .returned (.tuple #[.agg (rcs r0 v'), .nilIface]) ∧ w'.ownsRow X.heap.size 9 1 v' r0.ss.length (r0.ss.map Value.string) ∧ Below X.heap.size X w') := fun X vz hX hz => by
    refine (decode_any (recL r0) vz (e 1) (e 2) e X hz (by have := HEL.out; omega) (HENV.out X hX).1 ((HENV.out X hX).2.1.cell 1 (by decide))).mono ?_
    rintro x w' ⟨o, v', rfl, h1, h3, h4⟩
    obtain rfl := HDN.out o h4
    exact ⟨v', rfl, h1, h3⟩
  have HL2 : Hid (Below w2.heap.size w2 w2) := Below.refl _ _
  have HZ2 : Hid (w1.heap.size ≤ w2.heap.size) := b2.size
  have HI2h : Hid (Iv w1.heap.size w2.heap.size w2 w2) := iv_of (Below.refl _ _)
  clear hh b2 HHE HLQ HRG hgh1 hgh2 hch hrh hsh HU0 HGQ HSL HPE HUN HDN
  generalize pkL q = PP at *
  generalize recL r0 = EE at *
  have p1 : ¬ (PP.length : Int) = 0 := by have := HPL.out; omega
  have p2 : ¬ (EE.length : Int) = 0 := by have := HEL.out; omega
  have p3 : ((PP.length : Int) == 0) = false := beq_false_of_ne p1
  have p4 : ((EE.length : Int) == 0) = false := beq_false_of_ne p2
  go_wp2_with fail
  refine (HPKQ.out _ HB2.out HL2.out).mono ?_
  rintro x w3 ⟨vp, rfl, own3, b3⟩
  have HI3h := hide (HI2h.out.below b3)
  have HB3 := hide (keepW HB2.out b3)
  have HZ3 : Hid (w2.heap.size ≤ w3.heap.size) := b3.size
  have HL3 := hide (keepW HL2.out b3)
  obtain ⟨gp, cp, hvp, hgp, hgp2, hcp, hrp⟩ := row_bytes own3 (by have := HPL.out; omega)
  subst hvp
  have HOP := hide own3
  have HI3p : Hid (Iv w2.heap.size w3.heap.size w3 w3) := iv_of (Below.refl _ _)
  have HCP := hide hcp
  clear own3 b3 hgp hgp2 hrp hcp
  have HRR := hide (HKR.out w3 HL3.out).1
  go_wp2_with (refine wpList_load_mid rfl 26 (.tmp 51) rfl gq 0 rfl _ _ HRR.out Tryz.underlying26 rfl sizeRec ?_)
  refine (HENQ.out _ HB3.out HL3.out).mono ?_
  rintro x w4 ⟨vs, rfl, ⟨n4, hn4, own4⟩, b4⟩
  have own4 := own_least own4 hn4
  have HI4h := hide (HI3h.out.below b4)
  have HI4p := hide (HI3p.out.below b4)
  have HB4 := hide (keepW HB3.out b4)
  have HZ4 : Hid (w3.heap.size ≤ w4.heap.size) := b4.size
  have HL4 := hide (keepW HL3.out b4)
  obtain ⟨gs, cs, hvs, hgs, hgs2, hcs, hrs⟩ := row_bytes own4 (by have := HEL.out; omega)
  subst hvs
  have HOS := hide own4
  have HI4s : Hid (Iv w3.heap.size w4.heap.size w4 w4) := iv_of (Below.refl _ _)
  clear own4 b4 hgs hgs2 hrs hcs hn4 HRR
  have HWR5 := hide (withRoom_any PP (.slice (some ⟨gp, 0, none⟩) PP.length cp) 7 w4 (rd_own (own_iv HOP.out (Nat.le_refl _) HI4p.out)) (by have := HPL.out; omega) (by have := HPL.out; omega))
  go_wp2_with fail
  refine HWR5.out.mono ?_
  rintro x w5 ⟨gi, ci, rfl, hci, r5, b5⟩
  have HI5h := hide (HI4h.out.below b5)
  have HI5p := hide (HI4p.out.below b5)
  have HI5s := hide (HI4s.out.below b5)
  have HB5 := hide (keepW HB4.out b5)
  have HZ5 : Hid (w4.heap.size ≤ w5.heap.size) := b5.size
  have HRi := hide r5
  have HCi := hide hci
  have HGi : Hid (w4.heap.size ≤ gi ∧ gi < w5.heap.size) := r5.2 _ rfl
  have HI5i : Hid (Iv w4.heap.size w5.heap.size w5 w5) := iv_of (Below.refl _ _)
  obtain ⟨ni, hni⟩ : ∃ n, n = PP.length + 16 := ⟨_, rfl⟩
  rw [← hni] at HRi ⊢
  have HNi := hide hni
  clear r5 b5 hci hni HWR5
  have HWR6 := hide (withRoom_any EE (.slice (some ⟨gs, 0, none⟩) EE.length cs) 8 w5 (rd_own (own_iv HOS.out (Nat.le_refl _) HI5s.out)) (by have := HEL.out; omega) (by have := HEL.out; omega))
  go_wp2_with fail
  refine HWR6.out.mono ?_
  rintro x w6 ⟨go, co, rfl, hco, r6, b6⟩
  have HI6h := hide (HI5h.out.below b6)
  have HI6p := hide (HI5p.out.below b6)
  have HI6s := hide (HI5s.out.below b6)
  have HI6i := hide (HI5i.out.below b6)
  have HB6 := hide (keepW HB5.out b6)
  have HZ6 : Hid (w5.heap.size ≤ w6.heap.size) := b6.size
  have HRo := hide r6
  have HCo := hide hco
  have HGo : Hid (w5.heap.size ≤ go ∧ go < w6.heap.size) := r6.2 _ rfl
  have HI6o : Hid (Iv w5.heap.size w6.heap.size w6 w6) := iv_of (Below.refl _ _)
  obtain ⟨no, hno⟩ : ∃ n, n = EE.length + 16 := ⟨_, rfl⟩
  rw [← hno] at HRo ⊢
  have HNo := hide hno
  clear r6 b6 hco hno HWR6
  have HRWi6 : Hid (Rw (fun b => w4.heap.size ≤ b ∧ b < w5.heap.size) w6 (.slice (some ⟨gi, 0, none⟩) ni ci) (PP ++ List.replicate 16 7)) := by
    refine ⟨own_keepI HRi.out.1 (fun g hg => ?_), HRi.out.2⟩
    have h1 := HRi.out.2 g hg
    exact HI6i.out.2 g h1.1 h1.2
  have HUP7 := hide (HUNP.out w6 (.slice (some ⟨gi, 0, none⟩) PP.length ci) HB6.out (lo_of (rw_head HRWi6.out (by have := HPL.out; omega) ci) (fun oa m c hq => by cases hq; have := HCi.out; omega)))
  go_wp2_with fail
  refine HUP7.out.mono ?_
  rintro x w7 ⟨vm, sm, rfl, hwm, him, b7⟩
  have HI7h := hide (HI6h.out.below b7)
  have HI7p := hide (HI6p.out.below b7)
  have HI7s := hide (HI6s.out.below b7)
  have HI7i := hide (HI6i.out.below b7)
  have HI7o := hide (HI6o.out.below b7)
  have HB7 := hide (keepW HB6.out b7)
  have HZ7 : Hid (w6.heap.size ≤ w7.heap.size) := b7.size
  obtain ⟨gm, cm, hvm, hgm, hgm2, _, _⟩ := hwm.slot HQ0.out
  subst hvm
  have HOm := hide hwm
  have HRim := hide him
  have HI7m : Hid (Iv w6.heap.size w7.heap.size w7 w7) := iv_of (Below.refl _ _)
  have HGGm : Hid (w6.heap.size ≤ gm ∧ gm < w7.heap.size) := ⟨hgm, hgm2⟩
  clear hwm him b7 hgm hgm2 HUP7 HRWi6
  have HRWi7 : Hid (Rw (fun b => w4.heap.size ≤ b ∧ b < w5.heap.size) w7 (.slice (some ⟨gi, 0, none⟩) ni ci) (PP ++ List.replicate 16 7)) := by
    refine ⟨own_keepI HRi.out.1 (fun g hg => ?_), HRi.out.2⟩
    have h1 := HRi.out.2 g hg
    exact HI7i.out.2 g h1.1 h1.2
  have HUP8 := hide (HUNP.out w7 (.slice (some ⟨gi, 0, none⟩) PP.length ci) HB7.out (lo_of (rw_head HRWi7.out (by have := HPL.out; omega) ci) (fun oa m c hq => by cases hq; have := HCi.out; omega)))
  go_wp2_with fail
  refine HUP8.out.mono ?_
  rintro x w8 ⟨vn, sn, rfl, hwn, hin, b8⟩
  have HI8h := hide (HI7h.out.below b8)
  have HI8p := hide (HI7p.out.below b8)
  have HI8s := hide (HI7s.out.below b8)
  have HI8i := hide (HI7i.out.below b8)
  have HI8o := hide (HI7o.out.below b8)
  have HI8m := hide (HI7m.out.below b8)
  have HB8 := hide (keepW HB7.out b8)
  have HZ8 : Hid (w7.heap.size ≤ w8.heap.size) := b8.size
  obtain ⟨gn, cn, hvn, hgn, hgn2, _, _⟩ := hwn.slot HQ0.out
  subst hvn
  have HOn := hide hwn
  have HRin := hide hin
  have HI8n : Hid (Iv w7.heap.size w8.heap.size w8 w8) := iv_of (Below.refl _ _)
  have HGGn : Hid (w7.heap.size ≤ gn ∧ gn < w8.heap.size) := ⟨hgn, hgn2⟩
  clear hwn hin b8 hgn hgn2 HUP8 HRWi7
  have HRWo8 : Hid (Rw (fun b => w5.heap.size ≤ b ∧ b < w6.heap.size) w8 (.slice (some ⟨go, 0, none⟩) no co) (EE ++ List.replicate 16 8)) := by
    refine ⟨own_keepI HRo.out.1 (fun g hg => ?_), HRo.out.2⟩
    have h1 := HRo.out.2 g hg
    exact HI8o.out.2 g h1.1 h1.2
  have HDC9 := hide (HDEC.out w8 (.slice (some ⟨go, 0, none⟩) EE.length co) HB8.out (lo_of (rw_head HRWo8.out (by have := HEL.out; omega) co) (fun oa m c hq => by cases hq; have := HCo.out; omega)))
  go_wp2_with fail
  refine HDC9.out.mono ?_
  rintro x w9 ⟨va, rfl, owa, b9⟩
  obtain ⟨oa, ca, hva⟩ := own_slice owa
  subst hva
  obtain ⟨w9x, hw9x⟩ : ∃ X, X = w9.alloc (.cells (rcs r0 (.slice oa r0.ss.length ca)) 26) := ⟨_, rfl⟩
  have bxa : Below w9.heap.size w9 w9x := by rw [hw9x]; exact (Below.refl _ _).alloc (Nat.le_refl _) _
  have bba := keepW b9 bxa
  have HI9xh := hide (HI8h.out.below bba)
  have HI9xp := hide (HI8p.out.below bba)
  have HI9xs := hide (HI8s.out.below bba)
  have HI9xi := hide (HI8i.out.below bba)
  have HI9xo := hide (HI8o.out.below bba)
  have HI9xm := hide (HI8m.out.below bba)
  have HI9xn := hide (HI8n.out.below bba)
  have HB9x := hide (keepW HB8.out bba)
  have HZ9x : Hid (w8.heap.size ≤ w9x.heap.size) := bba.size
  have HQa : Hid (w9x.heap[w9.heap.size]? = some (.cells (rcs r0 (.slice oa r0.ss.length ca)) 26 (0, 0))) := by show _ = _; rw [hw9x]; exact heap_alloc_new w9 _
  have HOa := hide (own_below owa bxa)
  have HGGa : Hid (w8.heap.size ≤ w9.heap.size ∧ w9.heap.size < w9x.heap.size) := ⟨b9.size, (Array.getElem?_eq_some_iff.1 HQa.out).1⟩
  have HI9xa : Hid (Iv w8.heap.size w9x.heap.size w9x w9x) := iv_of (Below.refl _ _)
  have HXa := hide hw9x
  clear owa b9 bxa bba hw9x HDC9 HRWo8
  go_wp2_with fail
  rw [← HXa.out]
  clear HXa
  have HRWo9x : Hid (Rw (fun b => w5.heap.size ≤ b ∧ b < w6.heap.size) w9x (.slice (some ⟨go, 0, none⟩) no co) (EE ++ List.replicate 16 8)) := by
    refine ⟨own_keepI HRo.out.1 (fun g hg => ?_), HRo.out.2⟩
    have h1 := HRo.out.2 g hg
    exact HI9xo.out.2 g h1.1 h1.2
  have HDC10 := hide (HDEC.out w9x (.slice (some ⟨go, 0, none⟩) EE.length co) HB9x.out (lo_of (rw_head HRWo9x.out (by have := HEL.out; omega) co) (fun oa m c hq => by cases hq; have := HCo.out; omega)))
  go_wp2_with fail
  refine HDC10.out.mono ?_
  rintro x w10 ⟨vb, rfl, owb, b10⟩
  obtain ⟨ob, cb, hvb⟩ := own_slice owb
  subst hvb
  obtain ⟨w10x, hw10x⟩ : ∃ X, X = w10.alloc (.cells (rcs r0 (.slice ob r0.ss.length cb)) 26) := ⟨_, rfl⟩
  have bxb : Below w10.heap.size w10 w10x := by rw [hw10x]; exact (Below.refl _ _).alloc (Nat.le_refl _) _
  have bbb := keepW b10 bxb
  have HI10xh := hide (HI9xh.out.below bbb)
  have HI10xp := hide (HI9xp.out.below bbb)
  have HI10xs := hide (HI9xs.out.below bbb)
  have HI10xi := hide (HI9xi.out.below bbb)
  have HI10xo := hide (HI9xo.out.below bbb)
  have HI10xm := hide (HI9xm.out.below bbb)
  have HI10xn := hide (HI9xn.out.below bbb)
  have HI10xa := hide (HI9xa.out.below bbb)
  have HB10x := hide (keepW HB9x.out bbb)
  have HZ10x : Hid (w9x.heap.size ≤ w10x.heap.size) := bbb.size
  have HQb : Hid (w10x.heap[w10.heap.size]? = some (.cells (rcs r0 (.slice ob r0.ss.length cb)) 26 (0, 0))) := by show _ = _; rw [hw10x]; exact heap_alloc_new w10 _
  have HOb := hide (own_below owb bxb)
  have HGGb : Hid (w9x.heap.size ≤ w10.heap.size ∧ w10.heap.size < w10x.heap.size) := ⟨b10.size, (Array.getElem?_eq_some_iff.1 HQb.out).1⟩
  have HI10xb : Hid (Iv w9x.heap.size w10x.heap.size w10x w10x) := iv_of (Below.refl _ _)
  have HXb := hide hw10x
  clear owb b10 bxb bbb hw10x HDC10 HRWo9x
  go_wp2_with fail
  rw [← HXb.out]
  clear HXb
  have HRWi10x : Hid (Rw (fun b => w4.heap.size ≤ b ∧ b < w5.heap.size) w10x (.slice (some ⟨gi, 0, none⟩) ni ci) (PP ++ List.replicate 16 7)) := by
    refine ⟨own_keepI HRi.out.1 (fun g hg => ?_), HRi.out.2⟩
    have h1 := HRi.out.2 g hg
    exact HI10xi.out.2 g h1.1 h1.2
  have HSB1 := hide (sameBytes_eq w10x (.slice (some ⟨gi, 0, none⟩) PP.length ci) (.slice (some ⟨gp, 0, none⟩) PP.length cp) PP (rw_head HRWi10x.out (by have := HPL.out; omega) ci) (rd_own (own_iv HOP.out (Nat.le_refl _) HI10xp.out)) (by have := HPL.out; omega))
  refine HSB1.out.mono ?_
  rintro x w11 ⟨rfl, b11⟩
  clear HRWi10x
  have HI11h := hide (HI10xh.out.below b11)
  have HI11p := hide (HI10xp.out.below b11)
  have HI11s := hide (HI10xs.out.below b11)
  have HI11i := hide (HI10xi.out.below b11)
  have HI11o := hide (HI10xo.out.below b11)
  have HI11m := hide (HI10xm.out.below b11)
  have HI11n := hide (HI10xn.out.below b11)
  have HI11a := hide (HI10xa.out.below b11)
  have HI11b := hide (HI10xb.out.below b11)
  have HB11 := hide (keepW HB10x.out b11)
  have HZ11 : Hid (w10x.heap.size ≤ w11.heap.size) := b11.size
  clear b11 HSB1
  have HRWo11 : Hid (Rw (fun b => w5.heap.size ≤ b ∧ b < w6.heap.size) w11 (.slice (some ⟨go, 0, none⟩) no co) (EE ++ List.replicate 16 8)) := by
    refine ⟨own_keepI HRo.out.1 (fun g hg => ?_), HRo.out.2⟩
    have h1 := HRo.out.2 g hg
    exact HI11o.out.2 g h1.1 h1.2
  have HSB2 := hide (sameBytes_eq w11 (.slice (some ⟨go, 0, none⟩) EE.length co) (.slice (some ⟨gs, 0, none⟩) EE.length cs) EE (rw_head HRWo11.out (by have := HEL.out; omega) co) (rd_own (own_iv HOS.out (Nat.le_refl _) HI11s.out)) (by have := HEL.out; omega))
  go_wp2_with fail
  refine HSB2.out.mono ?_
  rintro x w12 ⟨rfl, b12⟩
  clear HRWo11
  have HI12h := hide (HI11h.out.below b12)
  have HI12p := hide (HI11p.out.below b12)
  have HI12s := hide (HI11s.out.below b12)
  have HI12i := hide (HI11i.out.below b12)
  have HI12o := hide (HI11o.out.below b12)
  have HI12m := hide (HI11m.out.below b12)
  have HI12n := hide (HI11n.out.below b12)
  have HI12a := hide (HI11a.out.below b12)
  have HI12b := hide (HI11b.out.below b12)
  have HB12 := hide (keepW HB11.out b12)
  have HZ12 : Hid (w11.heap.size ≤ w12.heap.size) := b12.size
  clear b12 HSB2
  have HRWi12 : Hid (Rw (fun b => w4.heap.size ≤ b ∧ b < w5.heap.size) w12 (.slice (some ⟨gi, 0, none⟩) ni ci) (PP ++ List.replicate 16 7)) := by
    refine ⟨own_keepI HRi.out.1 (fun g hg => ?_), HRi.out.2⟩
    have h1 := HRi.out.2 g hg
    exact HI12i.out.2 g h1.1 h1.2
  have k1i : (PP.length : Int) ≤ (ni : Int) := by have := HNi.out; omega
  have k2i : (PP.length : Int) ≤ (ci : Int) := by have := HCi.out; omega
  have k3i : ¬ ci = PP.length := by have := HCi.out; omega
  have k4i : ¬ ci - PP.length = 0 := by have := HCi.out; omega
  have k5i : ni ≤ ci := by have := HCi.out; have := HNi.out; omega
  have k6i : PP.length ≤ ni := by have := HNi.out; omega
  have k7i : PP.length ≤ ci := by have := HCi.out; omega
  have HFDi : Hid (∀ c', Calls Tryz.prog 12 #[.slice (some ⟨gi, PP.length, none⟩) (ni - PP.length) c', .int .u8 7] w12 fun e w' => e = .returned (.bool true) ∧ w' = w12) := fun c' => by
    have h1 := rw_tail HRWi12.out (by have := HPL.out; omega) c'
    rw [List.length_replicate] at h1
    have h2 : ni - PP.length = 16 := by have := HNi.out; omega
    rw [h2]
    exact filled_rd 16 _ 7 w12 h1 (by decide)
  go_wp2_with fail
  refine (HFDi.out _).mono ?_
  rintro x w0 ⟨rfl, h0⟩
  obtain rfl := h0.symm
  clear h0 HFDi HRWi12 k1i k2i k3i k4i k5i k6i k7i
  have HRWo12 : Hid (Rw (fun b => w5.heap.size ≤ b ∧ b < w6.heap.size) w12 (.slice (some ⟨go, 0, none⟩) no co) (EE ++ List.replicate 16 8)) := by
    refine ⟨own_keepI HRo.out.1 (fun g hg => ?_), HRo.out.2⟩
    have h1 := HRo.out.2 g hg
    exact HI12o.out.2 g h1.1 h1.2
  have k1o : (EE.length : Int) ≤ (no : Int) := by have := HNo.out; omega
  have k2o : (EE.length : Int) ≤ (co : Int) := by have := HCo.out; omega
  have k3o : ¬ co = EE.length := by have := HCo.out; omega
  have k4o : ¬ co - EE.length = 0 := by have := HCo.out; omega
  have k5o : no ≤ co := by have := HCo.out; have := HNo.out; omega
  have k6o : EE.length ≤ no := by have := HNo.out; omega
  have k7o : EE.length ≤ co := by have := HCo.out; omega
  have HFDo : Hid (∀ c', Calls Tryz.prog 12 #[.slice (some ⟨go, EE.length, none⟩) (no - EE.length) c', .int .u8 8] w12 fun e w' => e = .returned (.bool true) ∧ w' = w12) := fun c' => by
    have h1 := rw_tail HRWo12.out (by have := HEL.out; omega) c'
    rw [List.length_replicate] at h1
    have h2 : no - EE.length = 16 := by have := HNo.out; omega
    rw [h2]
    exact filled_rd 16 _ 8 w12 h1 (by decide)
  go_wp2_with fail
  refine (HFDo.out _).mono ?_
  rintro x w0 ⟨rfl, h0⟩
  obtain rfl := h0.symm
  clear h0 HFDo HRWo12 k1o k2o k3o k4o k5o k6o k7o
  have HRWi12 : Hid (Rw (fun b => w4.heap.size ≤ b ∧ b < w5.heap.size) w12 (.slice (some ⟨gi, 0, none⟩) ni ci) (PP ++ List.replicate 16 7)) := by
    refine ⟨own_keepI HRi.out.1 (fun g hg => ?_), HRi.out.2⟩
    have h1 := HRi.out.2 g hg
    exact HI12i.out.2 g h1.1 h1.2
  have HFI13 : Hid (Calls Tryz.prog 13 #[.slice (some ⟨gi, 0, none⟩) ni ci, .int .u8 9] w12 fun e w' => e = .returned (.tuple #[]) ∧ Rw (fun b => w4.heap.size ≤ b ∧ b < w5.heap.size) w' (.slice (some ⟨gi, 0, none⟩) ni ci) (List.replicate ni 9) ∧ Fr [gi] w12 w') := by
    have hL : (PP ++ List.replicate 16 7).length = ni := by have := HNi.out; simp; omega
    have h1 := HRWi12.out
    rw [← hL] at h1
    have h2 := fill_any _ _ gi ci 9 w12 h1 (by rw [hL]; have := HNi.out; have := HPL.out; have := HEL.out; omega)
    rw [hL] at h2
    exact h2
  go_wp2_with fail
  refine HFI13.out.mono ?_
  rintro x w13 ⟨rfl, r13, f13⟩
  clear HRWi12
  have HI13h := hide (HI12h.out.fr f13 (fun k hk => by have hk := (show w4.heap.size ≤ k ∧ k < w5.heap.size by rw [List.mem_singleton.1 hk]; exact HGi.out); have := HZ2.out; have := HZ3.out; have := HZ4.out; have := HZ5.out; have := HZ6.out; have := HZ7.out; have := HZ8.out; have := HZ9x.out; have := HZ10x.out; have := HZ11.out; have := HZ12.out; omega))
  have HI13p := hide (HI12p.out.fr f13 (fun k hk => by have hk := (show w4.heap.size ≤ k ∧ k < w5.heap.size by rw [List.mem_singleton.1 hk]; exact HGi.out); have := HZ2.out; have := HZ3.out; have := HZ4.out; have := HZ5.out; have := HZ6.out; have := HZ7.out; have := HZ8.out; have := HZ9x.out; have := HZ10x.out; have := HZ11.out; have := HZ12.out; omega))
  have HI13s := hide (HI12s.out.fr f13 (fun k hk => by have hk := (show w4.heap.size ≤ k ∧ k < w5.heap.size by rw [List.mem_singleton.1 hk]; exact HGi.out); have := HZ2.out; have := HZ3.out; have := HZ4.out; have := HZ5.out; have := HZ6.out; have := HZ7.out; have := HZ8.out; have := HZ9x.out; have := HZ10x.out; have := HZ11.out; have := HZ12.out; omega))
  have HI13o := hide (HI12o.out.fr f13 (fun k hk => by have hk := (show w4.heap.size ≤ k ∧ k < w5.heap.size by rw [List.mem_singleton.1 hk]; exact HGi.out); have := HZ2.out; have := HZ3.out; have := HZ4.out; have := HZ5.out; have := HZ6.out; have := HZ7.out; have := HZ8.out; have := HZ9x.out; have := HZ10x.out; have := HZ11.out; have := HZ12.out; omega))
  have HI13m := hide (HI12m.out.fr f13 (fun k hk => by have hk := (show w4.heap.size ≤ k ∧ k < w5.heap.size by rw [List.mem_singleton.1 hk]; exact HGi.out); have := HZ2.out; have := HZ3.out; have := HZ4.out; have := HZ5.out; have := HZ6.out; have := HZ7.out; have := HZ8.out; have := HZ9x.out; have := HZ10x.out; have := HZ11.out; have := HZ12.out; omega))
  have HI13n := hide (HI12n.out.fr f13 (fun k hk => by have hk := (show w4.heap.size ≤ k ∧ k < w5.heap.size by rw [List.mem_singleton.1 hk]; exact HGi.out); have := HZ2.out; have := HZ3.out; have := HZ4.out; have := HZ5.out; have := HZ6.out; have := HZ7.out; have := HZ8.out; have := HZ9x.out; have := HZ10x.out; have := HZ11.out; have := HZ12.out; omega))
  have HI13a := hide (HI12a.out.fr f13 (fun k hk => by have hk := (show w4.heap.size ≤ k ∧ k < w5.heap.size by rw [List.mem_singleton.1 hk]; exact HGi.out); have := HZ2.out; have := HZ3.out; have := HZ4.out; have := HZ5.out; have := HZ6.out; have := HZ7.out; have := HZ8.out; have := HZ9x.out; have := HZ10x.out; have := HZ11.out; have := HZ12.out; omega))
  have HI13b := hide (HI12b.out.fr f13 (fun k hk => by have hk := (show w4.heap.size ≤ k ∧ k < w5.heap.size by rw [List.mem_singleton.1 hk]; exact HGi.out); have := HZ2.out; have := HZ3.out; have := HZ4.out; have := HZ5.out; have := HZ6.out; have := HZ7.out; have := HZ8.out; have := HZ9x.out; have := HZ10x.out; have := HZ11.out; have := HZ12.out; omega))
  have HB13 : Hid (Below w.heap.size w w13) := HB12.out.trans (f13.below (fun k hk => by have hk := (show w4.heap.size ≤ k ∧ k < w5.heap.size by rw [List.mem_singleton.1 hk]; exact HGi.out); have := HB2.out.size; have := HZ2.out; have := HZ3.out; have := HZ4.out; have := HZ5.out; have := HZ6.out; have := HZ7.out; have := HZ8.out; have := HZ9x.out; have := HZ10x.out; have := HZ11.out; have := HZ12.out; omega) HB12.out.size)
  have HZ13 : Hid (w12.heap.size ≤ w13.heap.size) := f13.size
  have HRi13 := hide r13
  have HI13i : Hid (Iv w4.heap.size w5.heap.size w13 w13) := ⟨by show _ ≤ _; have := HZ2.out; have := HZ3.out; have := HZ4.out; have := HZ5.out; have := HZ6.out; have := HZ7.out; have := HZ8.out; have := HZ9x.out; have := HZ10x.out; have := HZ11.out; have := HZ12.out; have := HZ13.out; omega, fun _ _ _ => rfl⟩
  clear r13 f13 HFI13
  have HRWo13 : Hid (Rw (fun b => w5.heap.size ≤ b ∧ b < w6.heap.size) w13 (.slice (some ⟨go, 0, none⟩) no co) (EE ++ List.replicate 16 8)) := by
    refine ⟨own_keepI HRo.out.1 (fun g hg => ?_), HRo.out.2⟩
    have h1 := HRo.out.2 g hg
    exact HI13o.out.2 g h1.1 h1.2
  have HFI14 : Hid (Calls Tryz.prog 13 #[.slice (some ⟨go, 0, none⟩) no co, .int .u8 9] w13 fun e w' => e = .returned (.tuple #[]) ∧ Rw (fun b => w5.heap.size ≤ b ∧ b < w6.heap.size) w' (.slice (some ⟨go, 0, none⟩) no co) (List.replicate no 9) ∧ Fr [go] w13 w') := by
    have hL : (EE ++ List.replicate 16 8).length = no := by have := HNo.out; simp; omega
    have h1 := HRWo13.out
    rw [← hL] at h1
    have h2 := fill_any _ _ go co 9 w13 h1 (by rw [hL]; have := HNo.out; have := HPL.out; have := HEL.out; omega)
    rw [hL] at h2
    exact h2
  go_wp2_with fail
  refine HFI14.out.mono ?_
  rintro x w14 ⟨rfl, r14, f14⟩
  clear HRWo13
  have HI14h := hide (HI13h.out.fr f14 (fun k hk => by have hk := (show w5.heap.size ≤ k ∧ k < w6.heap.size by rw [List.mem_singleton.1 hk]; exact HGo.out); have := HZ2.out; have := HZ3.out; have := HZ4.out; have := HZ5.out; have := HZ6.out; have := HZ7.out; have := HZ8.out; have := HZ9x.out; have := HZ10x.out; have := HZ11.out; have := HZ12.out; have := HZ13.out; omega))
  have HI14p := hide (HI13p.out.fr f14 (fun k hk => by have hk := (show w5.heap.size ≤ k ∧ k < w6.heap.size by rw [List.mem_singleton.1 hk]; exact HGo.out); have := HZ2.out; have := HZ3.out; have := HZ4.out; have := HZ5.out; have := HZ6.out; have := HZ7.out; have := HZ8.out; have := HZ9x.out; have := HZ10x.out; have := HZ11.out; have := HZ12.out; have := HZ13.out; omega))
  have HI14s := hide (HI13s.out.fr f14 (fun k hk => by have hk := (show w5.heap.size ≤ k ∧ k < w6.heap.size by rw [List.mem_singleton.1 hk]; exact HGo.out); have := HZ2.out; have := HZ3.out; have := HZ4.out; have := HZ5.out; have := HZ6.out; have := HZ7.out; have := HZ8.out; have := HZ9x.out; have := HZ10x.out; have := HZ11.out; have := HZ12.out; have := HZ13.out; omega))
  have HI14i := hide (HI13i.out.fr f14 (fun k hk => by have hk := (show w5.heap.size ≤ k ∧ k < w6.heap.size by rw [List.mem_singleton.1 hk]; exact HGo.out); have := HZ2.out; have := HZ3.out; have := HZ4.out; have := HZ5.out; have := HZ6.out; have := HZ7.out; have := HZ8.out; have := HZ9x.out; have := HZ10x.out; have := HZ11.out; have := HZ12.out; have := HZ13.out; omega))
  have HI14m := hide (HI13m.out.fr f14 (fun k hk => by have hk := (show w5.heap.size ≤ k ∧ k < w6.heap.size by rw [List.mem_singleton.1 hk]; exact HGo.out); have := HZ2.out; have := HZ3.out; have := HZ4.out; have := HZ5.out; have := HZ6.out; have := HZ7.out; have := HZ8.out; have := HZ9x.out; have := HZ10x.out; have := HZ11.out; have := HZ12.out; have := HZ13.out; omega))
  have HI14n := hide (HI13n.out.fr f14 (fun k hk => by have hk := (show w5.heap.size ≤ k ∧ k < w6.heap.size by rw [List.mem_singleton.1 hk]; exact HGo.out); have := HZ2.out; have := HZ3.out; have := HZ4.out; have := HZ5.out; have := HZ6.out; have := HZ7.out; have := HZ8.out; have := HZ9x.out; have := HZ10x.out; have := HZ11.out; have := HZ12.out; have := HZ13.out; omega))
  have HI14a := hide (HI13a.out.fr f14 (fun k hk => by have hk := (show w5.heap.size ≤ k ∧ k < w6.heap.size by rw [List.mem_singleton.1 hk]; exact HGo.out); have := HZ2.out; have := HZ3.out; have := HZ4.out; have := HZ5.out; have := HZ6.out; have := HZ7.out; have := HZ8.out; have := HZ9x.out; have := HZ10x.out; have := HZ11.out; have := HZ12.out; have := HZ13.out; omega))
  have HI14b := hide (HI13b.out.fr f14 (fun k hk => by have hk := (show w5.heap.size ≤ k ∧ k < w6.heap.size by rw [List.mem_singleton.1 hk]; exact HGo.out); have := HZ2.out; have := HZ3.out; have := HZ4.out; have := HZ5.out; have := HZ6.out; have := HZ7.out; have := HZ8.out; have := HZ9x.out; have := HZ10x.out; have := HZ11.out; have := HZ12.out; have := HZ13.out; omega))
  have HB14 : Hid (Below w.heap.size w w14) := HB13.out.trans (f14.below (fun k hk => by have hk := (show w5.heap.size ≤ k ∧ k < w6.heap.size by rw [List.mem_singleton.1 hk]; exact HGo.out); have := HB2.out.size; have := HZ2.out; have := HZ3.out; have := HZ4.out; have := HZ5.out; have := HZ6.out; have := HZ7.out; have := HZ8.out; have := HZ9x.out; have := HZ10x.out; have := HZ11.out; have := HZ12.out; have := HZ13.out; omega) HB13.out.size)
  have HZ14 : Hid (w13.heap.size ≤ w14.heap.size) := f14.size
  have HRo14 := hide r14
  have HI14o : Hid (Iv w5.heap.size w6.heap.size w14 w14) := ⟨by show _ ≤ _; have := HZ2.out; have := HZ3.out; have := HZ4.out; have := HZ5.out; have := HZ6.out; have := HZ7.out; have := HZ8.out; have := HZ9x.out; have := HZ10x.out; have := HZ11.out; have := HZ12.out; have := HZ13.out; have := HZ14.out; omega, fun _ _ _ => rfl⟩
  clear r14 f14 HFI14
  have HRWi14 : Hid (Rw (fun b => w4.heap.size ≤ b ∧ b < w5.heap.size) w14 (.slice (some ⟨gi, 0, none⟩) ni ci) (List.replicate PP.length 9 ++ List.replicate 16 9)) := by
    have h0 := HRi13.out
    rw [HNi.out, ← List.replicate_append_replicate] at h0
    have h0' : Rw (fun b => w4.heap.size ≤ b ∧ b < w5.heap.size) w13 (.slice (some ⟨gi, 0, none⟩) ni ci) (List.replicate PP.length 9 ++ List.replicate 16 9) := by rw [HNi.out]; exact h0
    refine ⟨own_keepI h0'.1 (fun g hg => ?_), h0'.2⟩
    have h1 := h0'.2 g hg
    exact HI14i.out.2 g h1.1 h1.2
  have HRWo14 : Hid (Rw (fun b => w5.heap.size ≤ b ∧ b < w6.heap.size) w14 (.slice (some ⟨go, 0, none⟩) no co) (List.replicate EE.length 9 ++ List.replicate 16 9)) := by
    have h0 := HRo14.out
    rw [HNo.out, ← List.replicate_append_replicate] at h0
    have h0' : Rw (fun b => w5.heap.size ≤ b ∧ b < w6.heap.size) w14 (.slice (some ⟨go, 0, none⟩) no co) (List.replicate EE.length 9 ++ List.replicate 16 9) := by rw [HNo.out]; exact h0
    refine ⟨own_keepI h0'.1 (fun g hg => ?_), h0'.2⟩
    have h1 := h0'.2 g hg
    exact HI14o.out.2 g h1.1 h1.2
  have HANW : Hid (Calls Tryz.prog 14 #[.slice (some ⟨gi, 0, none⟩) PP.length ci, .slice (some ⟨go, 0, none⟩) EE.length co] w14 fun x w' => x = .returned (.bool true) ∧ Below w14.heap.size w14 w') := by
    have h1 := rw_head HRWi14.out (by have := HPL.out; simp; omega) ci
    have h2 := rw_head HRWo14.out (by have := HEL.out; simp; omega) co
    have h3 := anew_any _ _ _ _ w14 e (lo_of h1 (fun oa m c hq => by cases hq; have := HCi.out; simp; omega)) (lo_of h2 (fun oa m c hq => by cases hq; have := HCo.out; simp; omega)) (by have := HPL.out; simp; omega) (by have := HEL.out; simp; omega) (by have := HPL.out; simp; omega) (by have := HEL.out; simp; omega) (HENV.out w14 HB14.out).1 (HENV.out w14 HB14.out).2.1
    simp only [List.length_replicate] at h3
    exact h3
  go_wp2_with fail
  refine HANW.out.mono ?_
  rintro x w15 ⟨rfl, b15⟩
  clear HRWi14 HRWo14
  have HI15h := hide (HI14h.out.below b15)
  have HI15p := hide (HI14p.out.below b15)
  have HI15s := hide (HI14s.out.below b15)
  have HI15i := hide (HI14i.out.below b15)
  have HI15o := hide (HI14o.out.below b15)
  have HI15m := hide (HI14m.out.below b15)
  have HI15n := hide (HI14n.out.below b15)
  have HI15a := hide (HI14a.out.below b15)
  have HI15b := hide (HI14b.out.below b15)
  have HB15 := hide (keepW HB14.out b15)
  have HZ15 : Hid (w14.heap.size ≤ w15.heap.size) := b15.size
  clear b15 HANW
  have HSR16 := hide (sameRecs_any q _ _ w15 (HOm.out.iv HI15m.out).liesAll (HOH.out.iv HI15h.out).liesAll (fun r hr => by have := HQS.out r hr; omega) (by have := HQ4.out; omega))
  go_wp2_with fail
  refine HSR16.out.mono ?_
  rintro x w16 ⟨rfl, b16⟩
  have HI16h := hide (HI15h.out.below b16)
  have HI16p := hide (HI15p.out.below b16)
  have HI16m := hide (HI15m.out.below b16)
  have HI16n := hide (HI15n.out.below b16)
  have HI16a := hide (HI15a.out.below b16)
  have HI16b := hide (HI15b.out.below b16)
  have HB16 := hide (keepW HB15.out b16)
  have HZ16 : Hid (w15.heap.size ≤ w16.heap.size) := b16.size
  clear b16 HSR16
  have HQx : Hid (w16.heap[w9.heap.size]? = some (.cells (rcs r0 (.slice oa r0.ss.length ca)) 26 (0, 0))) := (HI16a.out.2 _ HGGa.out.1 HGGa.out.2).trans HQa.out
  have HRx : Hid (w16.rangeAt gh 0 (rcl9 r0 (.slice oh r0.ss.length ck))) := range_block HRH.out (HI16h.out.2 gh HGH.out.1 HGH.out.2)
  have HL1 : Hid (Go.Proofs.YtocpikgcbibcoaaGreatDoor.ss.Lies w16 (.slice oa r0.ss.length ca) r0.ss) := ss.lies_of_own (own_iv HOa.out (Nat.le_refl _) HI16a.out)
  have HL0 : Hid (Go.Proofs.YtocpikgcbibcoaaGreatDoor.ss.Lies w16 (.slice oh r0.ss.length ck) r0.ss) := ss.lies_of_own (own_iv HUH.out (Nat.le_refl _) HI16h.out)
  obtain ⟨f, hf, hg9⟩ := class_of w16
  have HSA : Hid (∀ n, Calls Tryz.prog 16 #[.agg (rcs r0 (.slice oa r0.ss.length ca)), .agg (rcs r0 (.slice oh r0.ss.length ck))] (f n) fun e w' => e = .returned (.bool true) ∧ ∃ m, w' = f m) := fun n => (sameRec_any r0 _ _ (f n) (HL1.out.below (hf n)) (HL0.out.below (hf n)) (by have := HR16.out; omega)).mono (fun e w1 h => ⟨h.1, w1, (hg9 _ (keepW (hf n) h.2)).symm⟩)
  have hbx : w9.heap.size < w16.heap.size := (Array.getElem?_eq_some_iff.1 HQx.out).1
  have hgx : gh < w16.heap.size := by have := HGH.out; have := HZ2.out; have := HZ3.out; have := HZ4.out; have := HZ5.out; have := HZ6.out; have := HZ7.out; have := HZ8.out; have := HZ9x.out; have := HZ10x.out; have := HZ11.out; have := HZ12.out; have := HZ13.out; have := HZ14.out; have := HZ15.out; have := HZ16.out; omega
  have e00 : ∀ n, (f n).cell? ⟨w9.heap.size, 0, none⟩ = some (.int .i64 r0.k) := fun n => ((hf n).cell (p := ⟨w9.heap.size, 0, none⟩) hbx).trans (cell_of HQx.out 0)
  have e10 : ∀ n, (f n).cell? ⟨gh, 0, none⟩ = some (.int .i64 r0.k) := fun n => ((hf n).cell (p := ⟨gh, 0, none⟩) hgx).trans (HRx.out 0 _ rfl)
  have e01 : ∀ n, (f n).cell? ⟨w9.heap.size, 0 + 1, none⟩ = some (.string r0.id) := fun n => ((hf n).cell (p := ⟨w9.heap.size, 1, none⟩) hbx).trans (cell_of HQx.out 1)
  have e11 : ∀ n, (f n).cell? ⟨gh, 0 + 1, none⟩ = some (.string r0.id) := fun n => ((hf n).cell (p := ⟨gh, 1, none⟩) hgx).trans (HRx.out 1 _ rfl)
  have e02 : ∀ n, (f n).cell? ⟨w9.heap.size, 0 + 2, none⟩ = some (.string r0.us) := fun n => ((hf n).cell (p := ⟨w9.heap.size, 2, none⟩) hbx).trans (cell_of HQx.out 2)
  have e12 : ∀ n, (f n).cell? ⟨gh, 0 + 2, none⟩ = some (.string r0.us) := fun n => ((hf n).cell (p := ⟨gh, 2, none⟩) hgx).trans (HRx.out 2 _ rfl)
  have e03 : ∀ n, (f n).cell? ⟨w9.heap.size, 0 + 3, none⟩ = some (.string r0.cl) := fun n => ((hf n).cell (p := ⟨w9.heap.size, 3, none⟩) hbx).trans (cell_of HQx.out 3)
  have e13 : ∀ n, (f n).cell? ⟨gh, 0 + 3, none⟩ = some (.string r0.cl) := fun n => ((hf n).cell (p := ⟨gh, 3, none⟩) hgx).trans (HRx.out 3 _ rfl)
  have e04 : ∀ n, (f n).cell? ⟨w9.heap.size, 0 + 4, none⟩ = some (.string r0.rd) := fun n => ((hf n).cell (p := ⟨w9.heap.size, 4, none⟩) hbx).trans (cell_of HQx.out 4)
  have e14 : ∀ n, (f n).cell? ⟨gh, 0 + 4, none⟩ = some (.string r0.rd) := fun n => ((hf n).cell (p := ⟨gh, 4, none⟩) hgx).trans (HRx.out 4 _ rfl)
  have e05 : ∀ n, (f n).cell? ⟨w9.heap.size, 0 + 5, none⟩ = some (.string r0.ch) := fun n => ((hf n).cell (p := ⟨w9.heap.size, 5, none⟩) hbx).trans (cell_of HQx.out 5)
  have e15 : ∀ n, (f n).cell? ⟨gh, 0 + 5, none⟩ = some (.string r0.ch) := fun n => ((hf n).cell (p := ⟨gh, 5, none⟩) hgx).trans (HRx.out 5 _ rfl)
  have e06 : ∀ n, (f n).cell? ⟨w9.heap.size, 0 + 6, none⟩ = some (.string r0.cd) := fun n => ((hf n).cell (p := ⟨w9.heap.size, 6, none⟩) hbx).trans (cell_of HQx.out 6)
  have e16 : ∀ n, (f n).cell? ⟨gh, 0 + 6, none⟩ = some (.string r0.cd) := fun n => ((hf n).cell (p := ⟨gh, 6, none⟩) hgx).trans (HRx.out 6 _ rfl)
  have e07 : ∀ n, (f n).cell? ⟨w9.heap.size, 0 + 7, none⟩ = some (.slice oa r0.ss.length ca) := fun n => ((hf n).cell (p := ⟨w9.heap.size, 7, none⟩) hbx).trans (cell_of HQx.out 7)
  have e17 : ∀ n, (f n).cell? ⟨gh, 0 + 7, none⟩ = some (.slice oh r0.ss.length ck) := fun n => ((hf n).cell (p := ⟨gh, 7, none⟩) hgx).trans (HRx.out 7 _ rfl)
  have e08 : ∀ n, (f n).cell? ⟨w9.heap.size, 0 + 8, none⟩ = some (.int .i64 r0.at_) := fun n => ((hf n).cell (p := ⟨w9.heap.size, 8, none⟩) hbx).trans (cell_of HQx.out 8)
  have e18 : ∀ n, (f n).cell? ⟨gh, 0 + 8, none⟩ = some (.int .i64 r0.at_) := fun n => ((hf n).cell (p := ⟨gh, 8, none⟩) hgx).trans (HRx.out 8 _ rfl)
  have HD : Hid (w16.drew = f w16.drew) := (hg9 _ (Below.refl _ _).drew).symm
  have HFB := hide hf
  haveI : Nonempty World := ⟨w⟩
  clear hf hg9 hbx hgx
  go_wp2_with fail
  refine wp_region_cls f (by kernel_rfl) (by kernel_rfl) _ HD.out ?_
  repeat (go_big_quiet_step (with_reducible exact HSA.out _))
  refine wpQuiet_nil ?_
  rintro _ ⟨nq, rfl⟩
  obtain ⟨w17, hw17⟩ : ∃ X, f nq = X := ⟨_, rfl⟩
  have b17 : Below w16.heap.size w16 w17 := by rw [← hw17]; exact HFB.out nq
  rw [hw17]
  clear e00 e01 e02 e03 e04 e05 e06 e07 e08 e10 e11 e12 e13 e14 e15 e16 e17 e18 hw17 HFB HD HSA f HQx HRx HL1 HL0
  have HI17h := hide (HI16h.out.below b17)
  have HI17p := hide (HI16p.out.below b17)
  have HI17m := hide (HI16m.out.below b17)
  have HI17n := hide (HI16n.out.below b17)
  have HI17a := hide (HI16a.out.below b17)
  have HI17b := hide (HI16b.out.below b17)
  have HB17 := hide (keepW HB16.out b17)
  have HZ17 : Hid (w16.heap.size ≤ w17.heap.size) := b17.size
  clear b17
  have HOM := hide (HOm.out.iv HI17m.out)
  have HBM : Hid (∀ k ∈ sm.filterMap Value.ownBlock, w6.heap.size ≤ k ∧ k < w7.heap.size) := HOm.out.blocks
  have HMS18 := hide HOM.out.ms
  have HLN18 : Hid (q.length = sm.length) := (HOM.out).len
  have HMK18 := hide (markScopes_any gm cm sm (scs q) w17 HRim.out HMS18.out.2 (by have := HLN18.out; have := HQ4.out; simp at *; omega) (scs_le (HQS.out)) HMS18.out.1)
  rw [← HLN18.out] at HMK18
  go_wp2_with fail
  refine HMK18.out.mono ?_
  rintro x w18 ⟨rfl, hm18⟩
  have f18 := hm18.fr
  have hm18' : Ms gm sm w17 (fun j => if j < sm.length then List.replicate (scs q j).length (mkM j) else scs q j) w18 := by rw [← HLN18.out]; exact hm18
  have HMD18 := hide (hm18'.marked HLN18.out)
  have HI18h := hide (HI17h.out.fr f18 (fun k hk => by have hk := (HBM.out k hk); have := HZ2.out; have := HZ3.out; have := HZ4.out; have := HZ5.out; have := HZ6.out; have := HZ7.out; have := HZ8.out; have := HZ9x.out; have := HZ10x.out; have := HZ11.out; have := HZ12.out; have := HZ13.out; have := HZ14.out; have := HZ15.out; have := HZ16.out; have := HZ17.out; omega))
  have HI18p := hide (HI17p.out.fr f18 (fun k hk => by have hk := (HBM.out k hk); have := HZ2.out; have := HZ3.out; have := HZ4.out; have := HZ5.out; have := HZ6.out; have := HZ7.out; have := HZ8.out; have := HZ9x.out; have := HZ10x.out; have := HZ11.out; have := HZ12.out; have := HZ13.out; have := HZ14.out; have := HZ15.out; have := HZ16.out; have := HZ17.out; omega))
  have HI18n := hide (HI17n.out.fr f18 (fun k hk => by have hk := (HBM.out k hk); have := HZ2.out; have := HZ3.out; have := HZ4.out; have := HZ5.out; have := HZ6.out; have := HZ7.out; have := HZ8.out; have := HZ9x.out; have := HZ10x.out; have := HZ11.out; have := HZ12.out; have := HZ13.out; have := HZ14.out; have := HZ15.out; have := HZ16.out; have := HZ17.out; omega))
  have HI18a := hide (HI17a.out.fr f18 (fun k hk => by have hk := (HBM.out k hk); have := HZ2.out; have := HZ3.out; have := HZ4.out; have := HZ5.out; have := HZ6.out; have := HZ7.out; have := HZ8.out; have := HZ9x.out; have := HZ10x.out; have := HZ11.out; have := HZ12.out; have := HZ13.out; have := HZ14.out; have := HZ15.out; have := HZ16.out; have := HZ17.out; omega))
  have HI18b := hide (HI17b.out.fr f18 (fun k hk => by have hk := (HBM.out k hk); have := HZ2.out; have := HZ3.out; have := HZ4.out; have := HZ5.out; have := HZ6.out; have := HZ7.out; have := HZ8.out; have := HZ9x.out; have := HZ10x.out; have := HZ11.out; have := HZ12.out; have := HZ13.out; have := HZ14.out; have := HZ15.out; have := HZ16.out; have := HZ17.out; omega))
  have HB18 : Hid (Below w.heap.size w w18) := HB17.out.trans (f18.below (fun k hk => by have hk := (HBM.out k hk); have := HB2.out.size; have := HZ2.out; have := HZ3.out; have := HZ4.out; have := HZ5.out; have := HZ6.out; have := HZ7.out; have := HZ8.out; have := HZ9x.out; have := HZ10x.out; have := HZ11.out; have := HZ12.out; have := HZ13.out; have := HZ14.out; have := HZ15.out; have := HZ16.out; have := HZ17.out; omega) HB17.out.size)
  have HZ18 : Hid (w17.heap.size ≤ w18.heap.size) := f18.size
  clear f18 hm18 hm18' HMK18
  have HBS19 := hide (beside_any gm cm sm (fun j => (scs q j).length) w18 HRim.out HMS18.out.2 (by show _ < _; have := HGGm.out; have := HZ2.out; have := HZ3.out; have := HZ4.out; have := HZ5.out; have := HZ6.out; have := HZ7.out; have := HZ8.out; have := HZ9x.out; have := HZ10x.out; have := HZ11.out; have := HZ12.out; have := HZ13.out; have := HZ14.out; have := HZ15.out; have := HZ16.out; have := HZ17.out; have := HZ18.out; omega) (by have := HLN18.out; have := HQ4.out; simp at *; omega) (scs_le (HQS.out)) HMD18.out)
  rw [← HLN18.out] at HBS19
  go_wp2_with fail
  refine HBS19.out.mono ?_
  rintro x w19 ⟨rfl, f19⟩
  have HI19h := hide (HI18h.out.fr f19 (fun k hk => by have hk := (HBM.out k hk); have := HZ2.out; have := HZ3.out; have := HZ4.out; have := HZ5.out; have := HZ6.out; have := HZ7.out; have := HZ8.out; have := HZ9x.out; have := HZ10x.out; have := HZ11.out; have := HZ12.out; have := HZ13.out; have := HZ14.out; have := HZ15.out; have := HZ16.out; have := HZ17.out; have := HZ18.out; omega))
  have HI19p := hide (HI18p.out.fr f19 (fun k hk => by have hk := (HBM.out k hk); have := HZ2.out; have := HZ3.out; have := HZ4.out; have := HZ5.out; have := HZ6.out; have := HZ7.out; have := HZ8.out; have := HZ9x.out; have := HZ10x.out; have := HZ11.out; have := HZ12.out; have := HZ13.out; have := HZ14.out; have := HZ15.out; have := HZ16.out; have := HZ17.out; have := HZ18.out; omega))
  have HI19n := hide (HI18n.out.fr f19 (fun k hk => by have hk := (HBM.out k hk); have := HZ2.out; have := HZ3.out; have := HZ4.out; have := HZ5.out; have := HZ6.out; have := HZ7.out; have := HZ8.out; have := HZ9x.out; have := HZ10x.out; have := HZ11.out; have := HZ12.out; have := HZ13.out; have := HZ14.out; have := HZ15.out; have := HZ16.out; have := HZ17.out; have := HZ18.out; omega))
  have HI19a := hide (HI18a.out.fr f19 (fun k hk => by have hk := (HBM.out k hk); have := HZ2.out; have := HZ3.out; have := HZ4.out; have := HZ5.out; have := HZ6.out; have := HZ7.out; have := HZ8.out; have := HZ9x.out; have := HZ10x.out; have := HZ11.out; have := HZ12.out; have := HZ13.out; have := HZ14.out; have := HZ15.out; have := HZ16.out; have := HZ17.out; have := HZ18.out; omega))
  have HI19b := hide (HI18b.out.fr f19 (fun k hk => by have hk := (HBM.out k hk); have := HZ2.out; have := HZ3.out; have := HZ4.out; have := HZ5.out; have := HZ6.out; have := HZ7.out; have := HZ8.out; have := HZ9x.out; have := HZ10x.out; have := HZ11.out; have := HZ12.out; have := HZ13.out; have := HZ14.out; have := HZ15.out; have := HZ16.out; have := HZ17.out; have := HZ18.out; omega))
  have HB19 : Hid (Below w.heap.size w w19) := HB18.out.trans (f19.below (fun k hk => by have hk := (HBM.out k hk); have := HB2.out.size; have := HZ2.out; have := HZ3.out; have := HZ4.out; have := HZ5.out; have := HZ6.out; have := HZ7.out; have := HZ8.out; have := HZ9x.out; have := HZ10x.out; have := HZ11.out; have := HZ12.out; have := HZ13.out; have := HZ14.out; have := HZ15.out; have := HZ16.out; have := HZ17.out; have := HZ18.out; omega) HB18.out.size)
  have HZ19 : Hid (w18.heap.size ≤ w19.heap.size) := f19.size
  clear f19 HBS19 HMD18 HMS18
  clear HLN18
  have HSR20 := hide (sameRecs_any q _ _ w19 (HOn.out.iv HI19n.out).liesAll (HOH.out.iv HI19h.out).liesAll (fun r hr => by have := HQS.out r hr; omega) (by have := HQ4.out; omega))
  go_wp2_with fail
  refine HSR20.out.mono ?_
  rintro x w20 ⟨rfl, b20⟩
  have HI20h := hide (HI19h.out.below b20)
  have HI20p := hide (HI19p.out.below b20)
  have HI20n := hide (HI19n.out.below b20)
  have HI20a := hide (HI19a.out.below b20)
  have HI20b := hide (HI19b.out.below b20)
  have HB20 := hide (keepW HB19.out b20)
  have HZ20 : Hid (w19.heap.size ≤ w20.heap.size) := b20.size
  clear b20 HSR20
  have HQx : Hid (w20.heap[w9.heap.size]? = some (.cells (rcs r0 (.slice oa r0.ss.length ca)) 26 (0, 0))) := (HI20a.out.2 _ HGGa.out.1 HGGa.out.2).trans HQa.out
  have HRx : Hid (w20.rangeAt gh 0 (rcl9 r0 (.slice oh r0.ss.length ck))) := range_block HRH.out (HI20h.out.2 gh HGH.out.1 HGH.out.2)
  have HL1 : Hid (Go.Proofs.YtocpikgcbibcoaaGreatDoor.ss.Lies w20 (.slice oa r0.ss.length ca) r0.ss) := ss.lies_of_own (own_iv HOa.out (Nat.le_refl _) HI20a.out)
  have HL0 : Hid (Go.Proofs.YtocpikgcbibcoaaGreatDoor.ss.Lies w20 (.slice oh r0.ss.length ck) r0.ss) := ss.lies_of_own (own_iv HUH.out (Nat.le_refl _) HI20h.out)
  obtain ⟨f, hf, hg9⟩ := class_of w20
  have HSA : Hid (∀ n, Calls Tryz.prog 16 #[.agg (rcs r0 (.slice oa r0.ss.length ca)), .agg (rcs r0 (.slice oh r0.ss.length ck))] (f n) fun e w' => e = .returned (.bool true) ∧ ∃ m, w' = f m) := fun n => (sameRec_any r0 _ _ (f n) (HL1.out.below (hf n)) (HL0.out.below (hf n)) (by have := HR16.out; omega)).mono (fun e w1 h => ⟨h.1, w1, (hg9 _ (keepW (hf n) h.2)).symm⟩)
  have hbx : w9.heap.size < w20.heap.size := (Array.getElem?_eq_some_iff.1 HQx.out).1
  have hgx : gh < w20.heap.size := by have := HGH.out; have := HZ2.out; have := HZ3.out; have := HZ4.out; have := HZ5.out; have := HZ6.out; have := HZ7.out; have := HZ8.out; have := HZ9x.out; have := HZ10x.out; have := HZ11.out; have := HZ12.out; have := HZ13.out; have := HZ14.out; have := HZ15.out; have := HZ16.out; have := HZ17.out; have := HZ18.out; have := HZ19.out; have := HZ20.out; omega
  have e00 : ∀ n, (f n).cell? ⟨w9.heap.size, 0, none⟩ = some (.int .i64 r0.k) := fun n => ((hf n).cell (p := ⟨w9.heap.size, 0, none⟩) hbx).trans (cell_of HQx.out 0)
  have e10 : ∀ n, (f n).cell? ⟨gh, 0, none⟩ = some (.int .i64 r0.k) := fun n => ((hf n).cell (p := ⟨gh, 0, none⟩) hgx).trans (HRx.out 0 _ rfl)
  have e01 : ∀ n, (f n).cell? ⟨w9.heap.size, 0 + 1, none⟩ = some (.string r0.id) := fun n => ((hf n).cell (p := ⟨w9.heap.size, 1, none⟩) hbx).trans (cell_of HQx.out 1)
  have e11 : ∀ n, (f n).cell? ⟨gh, 0 + 1, none⟩ = some (.string r0.id) := fun n => ((hf n).cell (p := ⟨gh, 1, none⟩) hgx).trans (HRx.out 1 _ rfl)
  have e02 : ∀ n, (f n).cell? ⟨w9.heap.size, 0 + 2, none⟩ = some (.string r0.us) := fun n => ((hf n).cell (p := ⟨w9.heap.size, 2, none⟩) hbx).trans (cell_of HQx.out 2)
  have e12 : ∀ n, (f n).cell? ⟨gh, 0 + 2, none⟩ = some (.string r0.us) := fun n => ((hf n).cell (p := ⟨gh, 2, none⟩) hgx).trans (HRx.out 2 _ rfl)
  have e03 : ∀ n, (f n).cell? ⟨w9.heap.size, 0 + 3, none⟩ = some (.string r0.cl) := fun n => ((hf n).cell (p := ⟨w9.heap.size, 3, none⟩) hbx).trans (cell_of HQx.out 3)
  have e13 : ∀ n, (f n).cell? ⟨gh, 0 + 3, none⟩ = some (.string r0.cl) := fun n => ((hf n).cell (p := ⟨gh, 3, none⟩) hgx).trans (HRx.out 3 _ rfl)
  have e04 : ∀ n, (f n).cell? ⟨w9.heap.size, 0 + 4, none⟩ = some (.string r0.rd) := fun n => ((hf n).cell (p := ⟨w9.heap.size, 4, none⟩) hbx).trans (cell_of HQx.out 4)
  have e14 : ∀ n, (f n).cell? ⟨gh, 0 + 4, none⟩ = some (.string r0.rd) := fun n => ((hf n).cell (p := ⟨gh, 4, none⟩) hgx).trans (HRx.out 4 _ rfl)
  have e05 : ∀ n, (f n).cell? ⟨w9.heap.size, 0 + 5, none⟩ = some (.string r0.ch) := fun n => ((hf n).cell (p := ⟨w9.heap.size, 5, none⟩) hbx).trans (cell_of HQx.out 5)
  have e15 : ∀ n, (f n).cell? ⟨gh, 0 + 5, none⟩ = some (.string r0.ch) := fun n => ((hf n).cell (p := ⟨gh, 5, none⟩) hgx).trans (HRx.out 5 _ rfl)
  have e06 : ∀ n, (f n).cell? ⟨w9.heap.size, 0 + 6, none⟩ = some (.string r0.cd) := fun n => ((hf n).cell (p := ⟨w9.heap.size, 6, none⟩) hbx).trans (cell_of HQx.out 6)
  have e16 : ∀ n, (f n).cell? ⟨gh, 0 + 6, none⟩ = some (.string r0.cd) := fun n => ((hf n).cell (p := ⟨gh, 6, none⟩) hgx).trans (HRx.out 6 _ rfl)
  have e07 : ∀ n, (f n).cell? ⟨w9.heap.size, 0 + 7, none⟩ = some (.slice oa r0.ss.length ca) := fun n => ((hf n).cell (p := ⟨w9.heap.size, 7, none⟩) hbx).trans (cell_of HQx.out 7)
  have e17 : ∀ n, (f n).cell? ⟨gh, 0 + 7, none⟩ = some (.slice oh r0.ss.length ck) := fun n => ((hf n).cell (p := ⟨gh, 7, none⟩) hgx).trans (HRx.out 7 _ rfl)
  have e08 : ∀ n, (f n).cell? ⟨w9.heap.size, 0 + 8, none⟩ = some (.int .i64 r0.at_) := fun n => ((hf n).cell (p := ⟨w9.heap.size, 8, none⟩) hbx).trans (cell_of HQx.out 8)
  have e18 : ∀ n, (f n).cell? ⟨gh, 0 + 8, none⟩ = some (.int .i64 r0.at_) := fun n => ((hf n).cell (p := ⟨gh, 8, none⟩) hgx).trans (HRx.out 8 _ rfl)
  have HD : Hid (w20.drew = f w20.drew) := (hg9 _ (Below.refl _ _).drew).symm
  have HFB := hide hf
  haveI : Nonempty World := ⟨w⟩
  clear hf hg9 hbx hgx
  go_wp2_with fail
  refine wp_region_cls f (by kernel_rfl) (by kernel_rfl) _ HD.out ?_
  repeat (go_big_quiet_step (with_reducible exact HSA.out _))
  refine wpQuiet_nil ?_
  rintro _ ⟨nq, rfl⟩
  obtain ⟨w21, hw21⟩ : ∃ X, f nq = X := ⟨_, rfl⟩
  have b21 : Below w20.heap.size w20 w21 := by rw [← hw21]; exact HFB.out nq
  rw [hw21]
  clear e00 e01 e02 e03 e04 e05 e06 e07 e08 e10 e11 e12 e13 e14 e15 e16 e17 e18 hw21 HFB HD HSA f HQx HRx HL1 HL0
  have HI21h := hide (HI20h.out.below b21)
  have HI21p := hide (HI20p.out.below b21)
  have HI21n := hide (HI20n.out.below b21)
  have HI21a := hide (HI20a.out.below b21)
  have HI21b := hide (HI20b.out.below b21)
  have HB21 := hide (keepW HB20.out b21)
  have HZ21 : Hid (w20.heap.size ≤ w21.heap.size) := b21.size
  clear b21
  have HUPp := hide (HUNP.out w21 (.slice (some ⟨gp, 0, none⟩) PP.length cp) HB21.out (lo_own (own_iv HOP.out (Nat.le_refl _) HI21p.out) (by have := HPL.out; omega)))
  go_wp2_with fail
  refine HUPp.out.mono ?_
  rintro x w22 ⟨vz, sz, rfl, hwz, hiz, b22⟩
  obtain ⟨gz, cz, hvz, _, _, _, _⟩ := hwz.slot HQ0.out
  subst hvz
  have HI22h := hide (HI21h.out.below b22)
  have HI22p := hide (HI21p.out.below b22)
  have HI22n := hide (HI21n.out.below b22)
  have HI22a := hide (HI21a.out.below b22)
  have HI22b := hide (HI21b.out.below b22)
  have HB22 := hide (keepW HB21.out b22)
  have HZ22 : Hid (w21.heap.size ≤ w22.heap.size) := b22.size
  have HSRz := hide (sameRecs_any q _ _ w22 hwz.liesAll (HOH.out.iv HI22h.out).liesAll (fun r hr => by have := HQS.out r hr; omega) (by have := HQ4.out; omega))
  clear hwz hiz b22 HUPp
  go_wp2_with fail
  refine HSRz.out.mono ?_
  rintro x w23 ⟨rfl, b23⟩
  have HI23h := hide (HI22h.out.below b23)
  have HI23p := hide (HI22p.out.below b23)
  have HI23n := hide (HI22n.out.below b23)
  have HI23a := hide (HI22a.out.below b23)
  have HI23b := hide (HI22b.out.below b23)
  have HB23 := hide (keepW HB22.out b23)
  have HZ23 : Hid (w22.heap.size ≤ w23.heap.size) := b23.size
  clear b23 HSRz
  have HQx : Hid (w23.heap[w9.heap.size]? = some (.cells (rcs r0 (.slice oa r0.ss.length ca)) 26 (0, 0))) := (HI23a.out.2 _ HGGa.out.1 HGGa.out.2).trans HQa.out
  have HRx : Hid (w23.rangeAt w9.heap.size 0 (rcs r0 (.slice oa r0.ss.length ca)).toList) := range_of (t := 26) HQx.out
  have HON := hide (own_iv HOa.out (Nat.le_refl _) HI23a.out)
  obtain ⟨w24, hw24⟩ : ∃ X, X = w23.alloc (.cells (rcs r0 (.slice oa r0.ss.length ca)) 26) := ⟨_, rfl⟩
  have b24 : Below w23.heap.size w23 w24 := by rw [hw24]; exact (Below.refl _ _).alloc (Nat.le_refl _) _
  have HOR : Hid (OwnR w8.heap.size w24 (.slice (some ⟨w23.heap.size, 0, none⟩) 1 1) [r0] [.slice oa r0.ss.length ca]) := by show OwnR _ _ _ _ _; rw [hw24]; exact ownR_one w23 r0 _ (by have := HZ2.out; have := HZ3.out; have := HZ4.out; have := HZ5.out; have := HZ6.out; have := HZ7.out; have := HZ8.out; have := HZ9x.out; have := HZ10x.out; have := HZ11.out; have := HZ12.out; have := HZ13.out; have := HZ14.out; have := HZ15.out; have := HZ16.out; have := HZ17.out; have := HZ18.out; have := HZ19.out; have := HZ20.out; have := HZ21.out; have := HZ22.out; have := HZ23.out; omega) HON.out
  have HGX : Hid (w23.heap.size < w24.heap.size) := by show _ < _; rw [hw24]; simp
  have HI24h := hide (HI23h.out.below b24)
  have HI24p := hide (HI23p.out.below b24)
  have HI24n := hide (HI23n.out.below b24)
  have HI24a := hide (HI23a.out.below b24)
  have HI24b := hide (HI23b.out.below b24)
  have HB24 := hide (keepW HB23.out b24)
  have HZ24 : Hid (w23.heap.size ≤ w24.heap.size) := b24.size
  have HX24 := hide hw24
  clear b24 hw24 HQx
  go_wp2_with (refine wpList_load_mid rfl 26 (.tmp 17) rfl w9.heap.size 0 rfl _ _ HRx.out Tryz.underlying26 rfl sizeRec ?_)
  rw [← HX24.out]
  have HBA' : Hid (∀ k ∈ [Value.slice oa r0.ss.length ca].filterMap Value.ownBlock, w8.heap.size ≤ k ∧ k < w9x.heap.size) := fun k hk => by
    have h1 := List.mem_filterMap.1 hk
    obtain ⟨u, hu, hk⟩ := h1
    rw [List.mem_singleton.1 hu] at hk
    exact ⟨own_ge HOa.out k hk, (HOa.out.lt k hk).2⟩
  have HMS25 := hide HOR.out.ms
  have HRI : Hid (Rise [Value.slice oa r0.ss.length ca]) := List.pairwise_singleton _ _
  have HMK25 := hide (markScopes_any w23.heap.size 1 [Value.slice oa r0.ss.length ca] (scs [r0]) w24 HRI.out HMS25.out.2 (by simp) (scs_le (fun r hr => by rw [List.mem_singleton.1 hr]; exact HR16.out)) HMS25.out.1)
  refine HMK25.out.mono ?_
  rintro x w25 ⟨rfl, hm25⟩
  have f25 := hm25.fr
  have HMD25 := hide (hm25.marked (l := [r0]) rfl)
  have HI25h := hide (HI24h.out.fr f25 (fun k hk => by have hk := (HBA'.out k hk); have := HZ2.out; have := HZ3.out; have := HZ4.out; have := HZ5.out; have := HZ6.out; have := HZ7.out; have := HZ8.out; have := HZ9x.out; have := HZ10x.out; have := HZ11.out; have := HZ12.out; have := HZ13.out; have := HZ14.out; have := HZ15.out; have := HZ16.out; have := HZ17.out; have := HZ18.out; have := HZ19.out; have := HZ20.out; have := HZ21.out; have := HZ22.out; have := HZ23.out; have := HZ24.out; omega))
  have HI25p := hide (HI24p.out.fr f25 (fun k hk => by have hk := (HBA'.out k hk); have := HZ2.out; have := HZ3.out; have := HZ4.out; have := HZ5.out; have := HZ6.out; have := HZ7.out; have := HZ8.out; have := HZ9x.out; have := HZ10x.out; have := HZ11.out; have := HZ12.out; have := HZ13.out; have := HZ14.out; have := HZ15.out; have := HZ16.out; have := HZ17.out; have := HZ18.out; have := HZ19.out; have := HZ20.out; have := HZ21.out; have := HZ22.out; have := HZ23.out; have := HZ24.out; omega))
  have HI25n := hide (HI24n.out.fr f25 (fun k hk => by have hk := (HBA'.out k hk); have := HZ2.out; have := HZ3.out; have := HZ4.out; have := HZ5.out; have := HZ6.out; have := HZ7.out; have := HZ8.out; have := HZ9x.out; have := HZ10x.out; have := HZ11.out; have := HZ12.out; have := HZ13.out; have := HZ14.out; have := HZ15.out; have := HZ16.out; have := HZ17.out; have := HZ18.out; have := HZ19.out; have := HZ20.out; have := HZ21.out; have := HZ22.out; have := HZ23.out; have := HZ24.out; omega))
  have HI25b := hide (HI24b.out.fr f25 (fun k hk => by have hk := (HBA'.out k hk); have := HZ2.out; have := HZ3.out; have := HZ4.out; have := HZ5.out; have := HZ6.out; have := HZ7.out; have := HZ8.out; have := HZ9x.out; have := HZ10x.out; have := HZ11.out; have := HZ12.out; have := HZ13.out; have := HZ14.out; have := HZ15.out; have := HZ16.out; have := HZ17.out; have := HZ18.out; have := HZ19.out; have := HZ20.out; have := HZ21.out; have := HZ22.out; have := HZ23.out; have := HZ24.out; omega))
  have HB25 : Hid (Below w.heap.size w w25) := HB24.out.trans (f25.below (fun k hk => by have hk := (HBA'.out k hk); have := HB2.out.size; have := HZ2.out; have := HZ3.out; have := HZ4.out; have := HZ5.out; have := HZ6.out; have := HZ7.out; have := HZ8.out; have := HZ9x.out; have := HZ10x.out; have := HZ11.out; have := HZ12.out; have := HZ13.out; have := HZ14.out; have := HZ15.out; have := HZ16.out; have := HZ17.out; have := HZ18.out; have := HZ19.out; have := HZ20.out; have := HZ21.out; have := HZ22.out; have := HZ23.out; have := HZ24.out; omega) HB24.out.size)
  have HZ25 : Hid (w24.heap.size ≤ w25.heap.size) := f25.size
  clear f25 hm25 HMK25
  have HBS26 := hide (beside_any w23.heap.size 1 [Value.slice oa r0.ss.length ca] (fun j => (scs [r0] j).length) w25 HRI.out HMS25.out.2 (by show _ < _; have := HGX.out; have := HZ2.out; have := HZ3.out; have := HZ4.out; have := HZ5.out; have := HZ6.out; have := HZ7.out; have := HZ8.out; have := HZ9x.out; have := HZ10x.out; have := HZ11.out; have := HZ12.out; have := HZ13.out; have := HZ14.out; have := HZ15.out; have := HZ16.out; have := HZ17.out; have := HZ18.out; have := HZ19.out; have := HZ20.out; have := HZ21.out; have := HZ22.out; have := HZ23.out; have := HZ24.out; have := HZ25.out; omega) (by simp) (scs_le (fun r hr => by rw [List.mem_singleton.1 hr]; exact HR16.out)) HMD25.out)
  go_wp2_with fail
  refine HBS26.out.mono ?_
  rintro x w26 ⟨rfl, f26⟩
  have HI26h := hide (HI25h.out.fr f26 (fun k hk => by have hk := (HBA'.out k hk); have := HZ2.out; have := HZ3.out; have := HZ4.out; have := HZ5.out; have := HZ6.out; have := HZ7.out; have := HZ8.out; have := HZ9x.out; have := HZ10x.out; have := HZ11.out; have := HZ12.out; have := HZ13.out; have := HZ14.out; have := HZ15.out; have := HZ16.out; have := HZ17.out; have := HZ18.out; have := HZ19.out; have := HZ20.out; have := HZ21.out; have := HZ22.out; have := HZ23.out; have := HZ24.out; have := HZ25.out; omega))
  have HI26p := hide (HI25p.out.fr f26 (fun k hk => by have hk := (HBA'.out k hk); have := HZ2.out; have := HZ3.out; have := HZ4.out; have := HZ5.out; have := HZ6.out; have := HZ7.out; have := HZ8.out; have := HZ9x.out; have := HZ10x.out; have := HZ11.out; have := HZ12.out; have := HZ13.out; have := HZ14.out; have := HZ15.out; have := HZ16.out; have := HZ17.out; have := HZ18.out; have := HZ19.out; have := HZ20.out; have := HZ21.out; have := HZ22.out; have := HZ23.out; have := HZ24.out; have := HZ25.out; omega))
  have HI26n := hide (HI25n.out.fr f26 (fun k hk => by have hk := (HBA'.out k hk); have := HZ2.out; have := HZ3.out; have := HZ4.out; have := HZ5.out; have := HZ6.out; have := HZ7.out; have := HZ8.out; have := HZ9x.out; have := HZ10x.out; have := HZ11.out; have := HZ12.out; have := HZ13.out; have := HZ14.out; have := HZ15.out; have := HZ16.out; have := HZ17.out; have := HZ18.out; have := HZ19.out; have := HZ20.out; have := HZ21.out; have := HZ22.out; have := HZ23.out; have := HZ24.out; have := HZ25.out; omega))
  have HI26b := hide (HI25b.out.fr f26 (fun k hk => by have hk := (HBA'.out k hk); have := HZ2.out; have := HZ3.out; have := HZ4.out; have := HZ5.out; have := HZ6.out; have := HZ7.out; have := HZ8.out; have := HZ9x.out; have := HZ10x.out; have := HZ11.out; have := HZ12.out; have := HZ13.out; have := HZ14.out; have := HZ15.out; have := HZ16.out; have := HZ17.out; have := HZ18.out; have := HZ19.out; have := HZ20.out; have := HZ21.out; have := HZ22.out; have := HZ23.out; have := HZ24.out; have := HZ25.out; omega))
  have HB26 : Hid (Below w.heap.size w w26) := HB25.out.trans (f26.below (fun k hk => by have hk := (HBA'.out k hk); have := HB2.out.size; have := HZ2.out; have := HZ3.out; have := HZ4.out; have := HZ5.out; have := HZ6.out; have := HZ7.out; have := HZ8.out; have := HZ9x.out; have := HZ10x.out; have := HZ11.out; have := HZ12.out; have := HZ13.out; have := HZ14.out; have := HZ15.out; have := HZ16.out; have := HZ17.out; have := HZ18.out; have := HZ19.out; have := HZ20.out; have := HZ21.out; have := HZ22.out; have := HZ23.out; have := HZ24.out; have := HZ25.out; omega) HB25.out.size)
  have HZ26 : Hid (w25.heap.size ≤ w26.heap.size) := f26.size
  clear f26 HBS26 HMD25 HMS25
  have HQx : Hid (w26.heap[w10.heap.size]? = some (.cells (rcs r0 (.slice ob r0.ss.length cb)) 26 (0, 0))) := (HI26b.out.2 _ HGGb.out.1 HGGb.out.2).trans HQb.out
  have HRx : Hid (w26.rangeAt gh 0 (rcl9 r0 (.slice oh r0.ss.length ck))) := range_block HRH.out (HI26h.out.2 gh HGH.out.1 HGH.out.2)
  have HL1 : Hid (Go.Proofs.YtocpikgcbibcoaaGreatDoor.ss.Lies w26 (.slice ob r0.ss.length cb) r0.ss) := ss.lies_of_own (own_iv HOb.out (Nat.le_refl _) HI26b.out)
  have HL0 : Hid (Go.Proofs.YtocpikgcbibcoaaGreatDoor.ss.Lies w26 (.slice oh r0.ss.length ck) r0.ss) := ss.lies_of_own (own_iv HUH.out (Nat.le_refl _) HI26h.out)
  obtain ⟨f, hf, hg9⟩ := class_of w26
  have HSA : Hid (∀ n, Calls Tryz.prog 16 #[.agg (rcs r0 (.slice ob r0.ss.length cb)), .agg (rcs r0 (.slice oh r0.ss.length ck))] (f n) fun e w' => e = .returned (.bool true) ∧ ∃ m, w' = f m) := fun n => (sameRec_any r0 _ _ (f n) (HL1.out.below (hf n)) (HL0.out.below (hf n)) (by have := HR16.out; omega)).mono (fun e w1 h => ⟨h.1, w1, (hg9 _ (keepW (hf n) h.2)).symm⟩)
  have hbx : w10.heap.size < w26.heap.size := (Array.getElem?_eq_some_iff.1 HQx.out).1
  have hgx : gh < w26.heap.size := by have := HGH.out; have := HZ2.out; have := HZ3.out; have := HZ4.out; have := HZ5.out; have := HZ6.out; have := HZ7.out; have := HZ8.out; have := HZ9x.out; have := HZ10x.out; have := HZ11.out; have := HZ12.out; have := HZ13.out; have := HZ14.out; have := HZ15.out; have := HZ16.out; have := HZ17.out; have := HZ18.out; have := HZ19.out; have := HZ20.out; have := HZ21.out; have := HZ22.out; have := HZ23.out; have := HZ24.out; have := HZ25.out; have := HZ26.out; omega
  have e00 : ∀ n, (f n).cell? ⟨w10.heap.size, 0, none⟩ = some (.int .i64 r0.k) := fun n => ((hf n).cell (p := ⟨w10.heap.size, 0, none⟩) hbx).trans (cell_of HQx.out 0)
  have e10 : ∀ n, (f n).cell? ⟨gh, 0, none⟩ = some (.int .i64 r0.k) := fun n => ((hf n).cell (p := ⟨gh, 0, none⟩) hgx).trans (HRx.out 0 _ rfl)
  have e01 : ∀ n, (f n).cell? ⟨w10.heap.size, 0 + 1, none⟩ = some (.string r0.id) := fun n => ((hf n).cell (p := ⟨w10.heap.size, 1, none⟩) hbx).trans (cell_of HQx.out 1)
  have e11 : ∀ n, (f n).cell? ⟨gh, 0 + 1, none⟩ = some (.string r0.id) := fun n => ((hf n).cell (p := ⟨gh, 1, none⟩) hgx).trans (HRx.out 1 _ rfl)
  have e02 : ∀ n, (f n).cell? ⟨w10.heap.size, 0 + 2, none⟩ = some (.string r0.us) := fun n => ((hf n).cell (p := ⟨w10.heap.size, 2, none⟩) hbx).trans (cell_of HQx.out 2)
  have e12 : ∀ n, (f n).cell? ⟨gh, 0 + 2, none⟩ = some (.string r0.us) := fun n => ((hf n).cell (p := ⟨gh, 2, none⟩) hgx).trans (HRx.out 2 _ rfl)
  have e03 : ∀ n, (f n).cell? ⟨w10.heap.size, 0 + 3, none⟩ = some (.string r0.cl) := fun n => ((hf n).cell (p := ⟨w10.heap.size, 3, none⟩) hbx).trans (cell_of HQx.out 3)
  have e13 : ∀ n, (f n).cell? ⟨gh, 0 + 3, none⟩ = some (.string r0.cl) := fun n => ((hf n).cell (p := ⟨gh, 3, none⟩) hgx).trans (HRx.out 3 _ rfl)
  have e04 : ∀ n, (f n).cell? ⟨w10.heap.size, 0 + 4, none⟩ = some (.string r0.rd) := fun n => ((hf n).cell (p := ⟨w10.heap.size, 4, none⟩) hbx).trans (cell_of HQx.out 4)
  have e14 : ∀ n, (f n).cell? ⟨gh, 0 + 4, none⟩ = some (.string r0.rd) := fun n => ((hf n).cell (p := ⟨gh, 4, none⟩) hgx).trans (HRx.out 4 _ rfl)
  have e05 : ∀ n, (f n).cell? ⟨w10.heap.size, 0 + 5, none⟩ = some (.string r0.ch) := fun n => ((hf n).cell (p := ⟨w10.heap.size, 5, none⟩) hbx).trans (cell_of HQx.out 5)
  have e15 : ∀ n, (f n).cell? ⟨gh, 0 + 5, none⟩ = some (.string r0.ch) := fun n => ((hf n).cell (p := ⟨gh, 5, none⟩) hgx).trans (HRx.out 5 _ rfl)
  have e06 : ∀ n, (f n).cell? ⟨w10.heap.size, 0 + 6, none⟩ = some (.string r0.cd) := fun n => ((hf n).cell (p := ⟨w10.heap.size, 6, none⟩) hbx).trans (cell_of HQx.out 6)
  have e16 : ∀ n, (f n).cell? ⟨gh, 0 + 6, none⟩ = some (.string r0.cd) := fun n => ((hf n).cell (p := ⟨gh, 6, none⟩) hgx).trans (HRx.out 6 _ rfl)
  have e07 : ∀ n, (f n).cell? ⟨w10.heap.size, 0 + 7, none⟩ = some (.slice ob r0.ss.length cb) := fun n => ((hf n).cell (p := ⟨w10.heap.size, 7, none⟩) hbx).trans (cell_of HQx.out 7)
  have e17 : ∀ n, (f n).cell? ⟨gh, 0 + 7, none⟩ = some (.slice oh r0.ss.length ck) := fun n => ((hf n).cell (p := ⟨gh, 7, none⟩) hgx).trans (HRx.out 7 _ rfl)
  have e08 : ∀ n, (f n).cell? ⟨w10.heap.size, 0 + 8, none⟩ = some (.int .i64 r0.at_) := fun n => ((hf n).cell (p := ⟨w10.heap.size, 8, none⟩) hbx).trans (cell_of HQx.out 8)
  have e18 : ∀ n, (f n).cell? ⟨gh, 0 + 8, none⟩ = some (.int .i64 r0.at_) := fun n => ((hf n).cell (p := ⟨gh, 8, none⟩) hgx).trans (HRx.out 8 _ rfl)
  have HD : Hid (w26.drew = f w26.drew) := (hg9 _ (Below.refl _ _).drew).symm
  have HFB := hide hf
  haveI : Nonempty World := ⟨w⟩
  clear hf hg9 hbx hgx
  go_wp2_with fail
  refine wp_region_cls f (by kernel_rfl) (by kernel_rfl) _ HD.out ?_
  repeat (go_big_quiet_step (with_reducible exact HSA.out _))
  refine wpQuiet_nil ?_
  rintro _ ⟨nq, rfl⟩
  obtain ⟨w27, hw27⟩ : ∃ X, f nq = X := ⟨_, rfl⟩
  have b27 : Below w26.heap.size w26 w27 := by rw [← hw27]; exact HFB.out nq
  rw [hw27]
  clear e00 e01 e02 e03 e04 e05 e06 e07 e08 e10 e11 e12 e13 e14 e15 e16 e17 e18 hw27 HFB HD HSA f HQx HRx HL1 HL0
  have HI27h := hide (HI26h.out.below b27)
  have HI27p := hide (HI26p.out.below b27)
  have HI27n := hide (HI26n.out.below b27)
  have HI27b := hide (HI26b.out.below b27)
  have HB27 := hide (keepW HB26.out b27)
  have HZ27 : Hid (w26.heap.size ≤ w27.heap.size) := b27.size
  clear b27
  go_wp2_with fail
  go_ret
  exact ⟨rfl, HB27.out⟩
end Go.Proofs.YtocpikgcbibcoaaGreatDoor.rc
