import Derived.Test.YtlefalplljgkeaaGreatDoorMAgDrop
import Derived.Test.YtlefalplljgkeaaGreatDoorMAgSort
import Derived.Test.YtlefalplljgkeaaGreatDoorMListKit0
import Derived.Test.YtlefalplljgkeaaGreatDoorMLookWalks2
import Derived.Laws.AppendOwnNone
namespace Go.Proofs.YtlefalplljgkeaaGreatDoor.ag
open Go.ChangeShapes Go.WideShapes Go.ChangeAt Go.RowKit Go.Proofs.YtlefalplljgkeaaGreatDoor.common Go.Maps Go.WideElems
open Go.Proofs.YtlefalplljgkeaaGreatDoor.lst (PB Lies cl cl_app cl_len infoP lies_of_own)
attribute [local go_sem ↓] Go.wp_at_zero Go.wp_at_succ

def pc (c : Ck) : PB := (c.name, c.value)
/-- those that are gone through and last -/
structure Got (R : List Ck) (left : Lit → Bool) (now : Int) (L : List Ck) : Prop where
  inn : ∀ c ∈ L, c ∈ R ∧ c.lasts now = true ∧ lf left c = false
  all : ∀ c ∈ R, c.lasts now = true → lf left c = false → c ∈ L
  nod : Nod L
theorem got_start {R : List Ck} {left : Lit → Bool} {now : Int} (h : ∀ y ∈ R, lf left y = true) : Got R left now [] :=
  ⟨fun c hc => absurd hc (by simp), fun c hc _ hl => (by rw [h c hc] at hl; cases hl), List.Pairwise.nil⟩
theorem got_skip {R : List Ck} (hn : Nod R) {left : Lit → Bool} {now : Int} {L : List Ck} (h : Got R left now L) {x : Ck} (hx : x ∈ R) (hf : x.lasts now = false) : Got R (strike left x) now L := by
  refine ⟨fun c hc => ?_, fun c hc hl hs => ?_, h.nod⟩
  · obtain ⟨a, b, d⟩ := h.inn c hc
    exact ⟨a, b, by rw [lf_strike, d]; rfl⟩
  · rw [lf_strike] at hs
    by_cases e : c.name = x.name
    · have : c = x := nod_uniq hn hc hx e
      subst this; rw [hf] at hl; cases hl
    · exact h.all c hc hl (by simpa [e] using hs)
theorem got_take {R : List Ck} (hn : Nod R) {left : Lit → Bool} {now : Int} {L : List Ck} (h : Got R left now L) {x : Ck} (hx : x ∈ R) (hl : lf left x = true) (hf : x.lasts now = true) : Got R (strike left x) now (L ++ [x]) := by
  refine ⟨fun c hc => ?_, fun c hc hl2 hs => ?_, ?_⟩
  · rcases List.mem_append.1 hc with hc | hc
    · obtain ⟨a, b, d⟩ := h.inn c hc
      exact ⟨a, b, by rw [lf_strike, d]; rfl⟩
    · obtain rfl : c = x := by simpa using hc
      exact ⟨hx, hf, by rw [lf_strike]; simp⟩
  · rw [lf_strike] at hs
    by_cases e : c.name = x.name
    · have : c = x := nod_uniq hn hc hx e
      rw [this]; simp
    · exact List.mem_append_left _ (h.all c hc hl2 (by simpa [e] using hs))
  · rw [Nod, List.pairwise_append]
    refine ⟨h.nod, by simp, fun a ha b hb => ?_⟩
    obtain rfl : b = x := by simpa using hb
    intro e
    obtain ⟨h1, _, h3⟩ := h.inn a ha
    have : a = b := nod_uniq hn h1 hx e
    rw [this, hl] at h3; cases h3
/-- at the end, where at most one lasts -/
theorem got_end {R : List Ck} {left : Lit → Bool} {now : Int} {L : List Ck} (h : Got R left now L) (hl : ∀ kl, left kl = false) (h1 : (still R now).length ≤ 1) : L = still R now := by
  have m1 : ∀ c ∈ L, c ∈ still R now := fun c hc => by
    obtain ⟨a, b, _⟩ := h.inn c hc
    exact List.mem_filter.2 ⟨a, b⟩
  have m2 : ∀ c ∈ still R now, c ∈ L := fun c hc => by
    obtain ⟨a, b⟩ := List.mem_filter.1 hc
    exact h.all c a b (hl _)
  have hn := h.nod
  generalize still R now = T at *
  match T, h1 with
  | [], _ =>
    cases L with
    | nil => rfl
    | cons a r => exact absurd (m1 a (by simp)) (by simp)
  | [c], _ =>
    match L with
    | [] => exact absurd (m2 c (by simp)) (by simp)
    | [a] =>
      have := m1 a (by simp)
      simp at this
      rw [this]
    | a :: b :: r =>
      have e1 := m1 a (by simp)
      have e2 := m1 b (by simp)
      simp at e1 e2
      have := (List.pairwise_cons.1 hn).1 b (by simp)
      rw [e1, e2] at this
      exact absurd rfl this

theorem got_len {R : List Ck} {left : Lit → Bool} {now : Int} {L : List Ck} (h : Got R left now L) (h1 : (still R now).length ≤ 1) : L.length ≤ 1 := by
  have m1 : ∀ c ∈ L, c ∈ still R now := fun c hc => by
    obtain ⟨a, b, _⟩ := h.inn c hc
    exact List.mem_filter.2 ⟨a, b⟩
  have hn := h.nod
  generalize still R now = T at *
  match L with
  | [] => simp
  | [a] => simp
  | a :: b :: r =>
    have e1 := m1 a (by simp)
    have e2 := m1 b (by simp)
    match T, h1 with
    | [], _ => simp at e1
    | [c], _ =>
      simp at e1 e2
      have := (List.pairwise_cons.1 hn).1 b (by simp)
      rw [e1, e2] at this
      exact absurd rfl this

theorem own_heap {w w' : World} {base : Nat} {e : TypeId} {z : Nat} {v : Value} {n : Nat} {xs : List Value} (h : w.ownsRow base e z v n xs) (hh : ∀ g, v.ownBlock = some g → w'.heap[g]? = w.heap[g]?) : w'.ownsRow base e z v n xs := by
  refine ⟨h.1, ?_⟩
  rcases h.2 with h1 | ⟨g, cap, cur, rfl, h1, h2, h3⟩
  · exact Or.inl h1
  · exact Or.inr ⟨g, cap, cur, rfl, h1, (hh g rfl).trans h2, h3⟩
theorem own_cells {w : World} {base : Nat} {e : TypeId} {z : Nat} {v : Value} {n : Nat} {xs : List Value} (h : w.ownsRow base e z v n xs) {g : Nat} (hg : v.ownBlock = some g) : g < w.heap.size ∧ ∃ a, w.heap[g]? = some (.cells a e) := by
  rcases h.2 with ⟨rfl, _⟩ | ⟨k, cap, cur, rfl, h1, h2, h3⟩
  · cases hg
  · cases hg
    exact ⟨(Array.getElem?_eq_some_iff.1 h2).1, _, h2⟩
theorem rng_iter {w : World} {b r n : Nat} {D : DataW Value} {left : Lit → Bool} {cnt : Nat} (h : Rng w b r n D left cnt) {a : Array Value} {e : TypeId} (hc : w.heap[r]? = some (.cells a e)) : False := by
  obtain ⟨es, clock, since, seen, c0, _, _, _, _, hr, _⟩ := h
  rw [hr] at hc; cases hc

theorem rng_map {w : World} {b r n : Nat} {D : DataW Value} {left : Lit → Bool} {cnt : Nat} (h : Rng w b r n D left cnt) {a : Array Value} {e : TypeId} (hc : w.heap[b]? = some (.cells a e)) : False := by
  obtain ⟨es, clock, since, seen, c0, hb, _⟩ := h
  rw [hb] at hc; cases hc

set_option maxRecDepth 100000 in
set_option maxHeartbeats 3200000 in
theorem list_any (mb : Nat) (R : List Ck) (now : Int) (w : World) (hJ : Jar w mb R) (hc : ∀ c ∈ R, Cfit c) (hn : Rng64 now) (h1 : (still R now).length ≤ 1) :
    Calls Tryz.prog 29 #[.map (some mb), .int .i64 now] w fun e w' => ∃ v, e = .returned v ∧ w'.ownsRow w.heap.size 37 2 v ((still R now).map pc).length (cl ((still R now).map pc)) ∧ Below w.heap.size w w' := by
  obtain ⟨D, n, hO, hH⟩ := hJ
  have HN := hide hH.nod
  have HL := hide (fun c (h : c ∈ R) W => lasts_any c now W hn (hc c h))
  have HOLD := hide (fun y (h : y ∈ R) => hH.has h)
  have hO1 := hO
  have HH := hide hH
  have HONE := hide h1
  have HSO := hide (fun oa cap k (hk : k ≤ 1) W => sort1_any oa cap (.func (.func 48) #[] #[]) k hk W)
  clear hH hc hn h1
  go_enter Tryz.func29, Tryz.ntmps29
  go_wp2_with (first | (at_range; refine wpList_range_own _ rfl _ 53 rfl 9 94 keyed Tryz.underlying53 rdV mb n D rfl hO ?_; intro w0 hrg0 hg0 hs0) | go_in)
  go_frame
  have HT0 : Hid (Below w.heap.size w w0) := (Below.refl _ _).grown hg0 (Nat.le_refl _) fun k e => by cases e
  clear hg0 hs0 hO hO1
  go_loopw [5] (fun v' wr => ∃ left cnt L v, v = v' ∧ Rng wr mb w.heap.size n D left cnt ∧ Hid (Got R left now L) ∧ wr.ownsRow w.heap.size 37 2 v (L.map pc).length (cl (L.map pc)) ∧ Hid (Below w.heap.size w wr)) (fun _ wr => wr.rangeLeft mb w.heap.size)
  case atStart =>
    refine ⟨Maps.has D, _, [], _, rfl, hrg0, got_start (fun y hy => HOLD.out y hy), World.ownsRow_nil _ _ _ _, HT0⟩
  case round =>
    obtain ⟨left, cnt, L, v, hv, hrg, HG, hown, HT⟩ := hrel
    subst hv
    have HOW := hide hown
    clear HT0
    go_wp2_with (at_next; refine wpList_step _ rfl _ rfl mb w.heap.size n D R HH.out left cnt rfl hrg ?_ ?_)
    · intro hl0
      have HE := hide (got_end HG.out hl0 HONE.out)
      have hO9 := HOW.out
      rw [HE.out] at hO9
      have HO9 := hide hO9
      obtain ⟨oa, cap, rfl⟩ : ∃ oa cap, v = .slice oa (still R now).length cap := by
        have := lies_of_own hO9
        obtain ⟨oa, cap, hv, _⟩ := this
        rw [List.length_map] at hv
        exact ⟨oa, cap, hv⟩
      clear hl0 hrg hown hO9 HOW
      go_wp2_with fail
      refine (HSO.out oa cap _ HONE.out _).mono ?_
      rintro e w2 ⟨rfl, rfl⟩
      go_wp2_with fail
      go_ret
      exact ⟨_, rfl, HO9.out, HT.out⟩
    · intro x w1 cnt1 hx hlx hsx hrg1 hlt hg1 hs1 hen
      have B1 : Below w.heap.size w w1 := HT.out.grown hg1 HT.out.size (fun k e => by cases e; exact Nat.le_refl _)
      have HT1 := hide (kW B1 (al w1 (cbx x)) B1.size)
      have hrg2 := hrg1.alloc (cbx x)
      have hne : ∀ g, v.ownBlock = some g → g ≠ w.heap.size := fun g hg e => by
        obtain ⟨_, a, h2⟩ := own_cells hown hg
        rw [e] at h2
        exact rng_iter hrg h2
      have HOW1 : Hid (w1.ownsRow w.heap.size 37 2 v (L.map pc).length (cl (L.map pc))) := own_heap hown fun g hg => hg1.block g (own_cells hown hg).1 (fun e => hne g hg (Option.some.inj e))
      have HLA := hide (HL.out x hx (w1.alloc (cbx x)))
      have HC := hide (cbx_cells (heap_at w1 (cbx x)))
      have HLE := hide (show cnt1 < wr.rangeLeft mb w.heap.size by rw [hrg.left_eq]; exact hlt)
      cases hls : x.lasts now with
      | false =>
        rw [hls] at HLA
        have HG1 := hide (got_skip HN.out HG.out hx hls)
        clear hrg hlt hg1 hs1 hrg1 hls hx hlx hown B1
        go_wp2_with fail
        refine HLA.out.mono ?_
        rintro e w2 ⟨rfl, b2⟩
        have HT2 := hide (kW HT1.out b2 HT1.out.size)
        have HOW2 := hide (bk.own_below (bk.own_below HOW1.out (al w1 (cbx x))) b2)
        have hrg3 : Rng w2 mb w.heap.size n D (strike left x) cnt1 := hrg2.kept (gb_of b2) (by simp) (by simp)
        have hle3 := hrg3.left_eq
        clear hrg2 b2 hen HOW1
        go_wp2_with fail
        go_roundw
        case rel => exact ⟨_, _, L, _, rfl, hrg3, HG1, HOW2.out, HT2⟩
        case measure => have := HLE.out; omega
      | true =>
        rw [hls] at HLA
        have HG1 := hide (got_take HN.out HG.out hx hlx hls)
        have HLN := hide (got_len HG.out HONE.out)
        clear hrg hlt hg1 hs1 hrg1 hls hx hlx hown B1
        obtain ⟨i0, hi, hz0, hz1, hz2⟩ := info_parts infoP
        go_wp2_with fail
        refine HLA.out.mono ?_
        rintro e w2 ⟨rfl, b2⟩
        have HT2 := hide (kW HT1.out b2 HT1.out.size)
        have HOW2 := hide (bk.own_below (bk.own_below HOW1.out (al w1 (cbx x))) b2)
        have hrg3 : Rng w2 mb w.heap.size n D (strike left x) cnt1 := hrg2.kept (gb_of b2) (by simp) (by simp)
        obtain ⟨q0, q1, q2⟩ := cbx_cells (blk (heap_at w1 (cbx x)) b2)
        have hL1 : (L.map pc).length ≤ 1 := by rw [List.length_map]; exact HLN.out
        have hbs : w.heap.size ≤ w2.heap.size := HT2.out.size
        clear hrg2 b2 hen HOW1 HLN
        go_wp2_with (at_builtin; refine wpList_append_own _ rfl _ _ 38 rfl w.heap.size 37 i0 (.agg #[.string ⟨#[]⟩, .string ⟨#[]⟩]) 2 32 Tryz.underlying38 hi hz0 hz1 hz2 rfl (by decide) _ _ _ rfl (HOW2.out.alloc _) ⟨w2.heap.size, 0, none⟩ 1 1 [.string x.name, .string x.value] rfl rfl (bk.cells_new _ _ _) ?c2 ?c3 ?c4 ?c5 ?_)
        case c2 => first | rfl | (intro u hu; simp at hu; rcases hu with rfl | rfl <;> rfl)
        case c3 => unfold maxLen; omega
        case c4 => omega
        case c5 => first | omega | (simp; omega)
        intro v' w3 hown' hgrow _
        have R1 : w3.ownsRow w.heap.size 37 2 v' ((L ++ [x]).map pc).length (cl ((L ++ [x]).map pc)) := by
          rw [List.map_append, List.length_append, cl_app]
          show w3.ownsRow w.heap.size 37 2 v' ((L.map pc).length + 1) _
          rw [List.length_map]; exact hown'
        have R2 : Below w.heap.size w w3 := (HT2.out.alloc hbs _).grown hgrow (by simp; omega) (bk.own_ge HOW2.out)
        have hrg4 : Rng w3 mb w.heap.size n D (strike left x) cnt1 := (hrg3.alloc _).kept hgrow (fun e => by
            obtain ⟨_, a, h2⟩ := own_cells HOW2.out e.symm
            exact rng_map hrg3 h2) (fun e => by
            obtain ⟨_, a, h2⟩ := own_cells HOW2.out e.symm
            exact rng_iter hrg3 h2)
        have hle4 := hrg4.left_eq
        have H1 := hide R1
        have H2 := hide R2
        clear hown' hgrow R1 R2 HOW2 hrg3 q0 q1 q2
        go_wp2
        go_roundw
        case rel => exact ⟨_, _, L ++ [x], _, rfl, hrg4, HG1, H1.out, H2⟩
        case measure => have := HLE.out; omega
end Go.Proofs.YtlefalplljgkeaaGreatDoor.ag
