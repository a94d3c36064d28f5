import Derived.Test.YtkmhhodapnlkiaaDoorRefPlan
import Derived.Test.YtkmhhodapnlkiaaDoorSumWalks2
import Derived.WalkSpells
import Derived.WalkLawsBesides
import Derived.Outline
import Derived.Maps.AppendAt
import Derived.Deep.DeepCutAuto
namespace Go.Proofs.YtkmhhodapnlkiaaDoor.refw
open Go.ChangeShapes Go.WideShapes Go.ChangeAt Go.RowKit Go.Proofs.YtkmhhodapnlkiaaDoor.common Go.Proofs.YtkmhhodapnlkiaaDoor.shaw
attribute [local go_sem ↓] Go.wp_at_zero Go.wp_at_succ

/-- the document's round words lie in their table -/
def RR (w : World) : Prop := ∀ i : Nat, i < 64 → w.cell? ⟨2, i, none⟩ = some (V (Sha.K.getD i 0#32))
theorem RR.lt {w : World} (h : RR w) : 2 < w.heap.size := World.block_lt_of_cell? w _ (h 0 (by decide))
theorem RR.below {w w' : World} {B : Nat} (h : RR w) (hb : Below B w w') (hB : 2 < B) : RR w' := fun i hi => by
  rw [← h i hi]; exact hb.cell (p := ⟨2, i, none⟩) hB
/-- and its first words -/
def FR (w : World) : Prop := ∀ i : Nat, i < 8 → w.cell? ⟨1, i, none⟩ = some (V ((Sha.words Sha.first).getD i 0#32))
theorem FR.lt {w : World} (h : FR w) : 1 < w.heap.size := World.block_lt_of_cell? w _ (h 0 (by decide))
theorem FR.below {w w' : World} {B : Nat} (h : FR w) (hb : Below B w w') (hB : 1 < B) : FR w' := fun i hi => by
  rw [← h i hi]; exact hb.cell (p := ⟨1, i, none⟩) hB

theorem whole_eq (n : Nat) : n + Sha.padSize n = ((n + 8) / 64 + 1) * 64 := by unfold Sha.padSize; omega

/-- the eight words v lie in the first new block -/
structure At (w W : World) (v : Sha.St) : Prop where
  st : W.rangeAt w.heap.size 0 ((Sha.words v).map V)
  out : W.there w.heap.size 0 8
  below : Below w.heap.size w W

theorem At.lt {w W : World} {v : Sha.St} (h : At w W v) : w.heap.size < W.heap.size := there_lt h.out (by decide)
theorem At.over {w W W' : World} {v : Sha.St} {B : Nat} (h : At w W v) (hb : Below B W W') (hB : w.heap.size < B) : At w W' v :=
  ⟨range_below h.st hb hB, there_below h.out hb hB, h.below.trans (hb.mono (Nat.le_of_lt hB))⟩

theorem words8 {W : World} {g : Nat} {v : Sha.St} (h : W.rangeAt g 0 ((Sha.words v).map V)) :
    W.cell? ⟨g, 0, none⟩ = some (V v.a) ∧ W.cell? ⟨g, 1, none⟩ = some (V v.b) ∧ W.cell? ⟨g, 2, none⟩ = some (V v.c) ∧ W.cell? ⟨g, 3, none⟩ = some (V v.d) ∧ W.cell? ⟨g, 4, none⟩ = some (V v.e) ∧ W.cell? ⟨g, 5, none⟩ = some (V v.f) ∧ W.cell? ⟨g, 6, none⟩ = some (V v.g) ∧ W.cell? ⟨g, 7, none⟩ = some (V v.h) :=
  ⟨h 0 _ rfl, h 1 _ rfl, h 2 _ rfl, h 3 _ rfl, h 4 _ rfl, h 5 _ rfl, h 6 _ rfl, h 7 _ rfl⟩

theorem hot8 {W : World} {g : Nat} (h : W.there g 0 8) :
    W.frozen? ⟨g, 0, none⟩ = false ∧ W.frozen? ⟨g, 1, none⟩ = false ∧ W.frozen? ⟨g, 2, none⟩ = false ∧ W.frozen? ⟨g, 3, none⟩ = false ∧ W.frozen? ⟨g, 4, none⟩ = false ∧ W.frozen? ⟨g, 5, none⟩ = false ∧ W.frozen? ⟨g, 6, none⟩ = false ∧ W.frozen? ⟨g, 7, none⟩ = false :=
  ⟨(h 0 (by decide)).2, (h 1 (by decide)).2, (h 2 (by decide)).2, (h 3 (by decide)).2, (h 4 (by decide)).2, (h 5 (by decide)).2, (h 6 (by decide)).2, (h 7 (by decide)).2⟩

/-- behind the plan of a piece -/
structure Planned (w W : World) (g : Nat) (v : Sha.St) (L : List (BitVec 32)) : Prop where
  at_ : At w W v
  gt : w.heap.size < g
  lt : g < W.heap.size
  plan : W.rangeAt g 0 (L.map V)

theorem Planned.over {w W W' : World} {g B : Nat} {v : Sha.St} {L : List (BitVec 32)} (h : Planned w W g v L) (hb : Below B W W') (hB : g < B) : Planned w W' g v L :=
  ⟨h.at_.over hb (Nat.lt_trans h.gt hB), h.gt, Nat.lt_of_lt_of_le h.lt hb.size, range_below h.plan hb hB⟩

theorem planned_at {w W W1 : World} {v : Sha.St} {L : List (BitVec 32)} (C : Array Value) (t : TypeId) (hC : C.size = L.length) (h : At w W v) (hb : Below W.heap.size W W1) :
    Planned w ((W1.alloc (.cells C t)).setCells W1.heap.size 0 (L.map V)) W1.heap.size v L := by
  have b1 : Below W1.heap.size W1 ((W1.alloc (.cells C t)).setCells W1.heap.size 0 (L.map V)) := common.below_setCells ((Below.refl W1.heap.size W1).alloc (Nat.le_refl _) _) (Nat.le_refl _) _ _
  have h1 := h.over hb h.lt
  have tt : (W1.alloc (.cells C t)).there W1.heap.size 0 (L.map V).length := there_new_at W1 C _ _ _ rfl (by rw [List.length_map]; exact hC.symm)
  refine ⟨h1.over b1 h1.lt, h1.lt, ?_, World.rangeAt_setCells_same _ _ _ _ tt⟩
  refine Nat.lt_of_lt_of_le ?_ (common.below_setCells (B := 0) (Below.refl 0 (W1.alloc (.cells C t))) (Nat.zero_le _) 0 (L.map V)).size
  simp

theorem step_to (v : Sha.St) (k x : BitVec 32) (X : Sha.St) (h : Sha.round v k x = X) (w : World) :
    Calls Tryd.prog 32 #[.agg #[V v.a, V v.b, V v.c, V v.d, V v.e, V v.f, V v.g, V v.h], V k, V x] w fun e w' => e = .returned (.agg #[V X.a, V X.b, V X.c, V X.d, V X.e, V X.f, V X.g, V X.h]) ∧ Below w.heap.size w w' := by
  subst h; exact step_any v k x w

theorem stepped {w W W2 : World} {g G : Nat} {v : Sha.St} {L : List (BitVec 32)} (h : Planned w W g v L) (ht : W.there G 0 8) (hg : g < G) (hG : G < W.heap.size) (hb : Below W.heap.size W W2) (X : Sha.St) :
    Planned w (W2.setCells G 0 ((Sha.words X).map V)) g v L ∧ (W2.setCells G 0 ((Sha.words X).map V)).rangeAt G 0 ((Sha.words X).map V) ∧ (W2.setCells G 0 ((Sha.words X).map V)).there G 0 8 :=
  have t2 := there_below ht hb hG
  ⟨(h.over hb h.lt).over (common.below_setCells (Below.refl G W2) (Nat.le_refl _) 0 _) hg, World.rangeAt_setCells_same _ _ _ _ t2, World.there_setCells t2 _ _ _⟩

/-- the first k words added, the rest not yet -/
def mixw (v st : Sha.St) (k : Nat) : List (BitVec 32) := (Sha.words (Sha.add v st)).take k ++ (Sha.words v).drop k
theorem mixw_length (v st : Sha.St) (k : Nat) (hk : k ≤ 8) : (mixw v st k).length = 8 :=
  match k, hk with
  | 0, _ | 1, _ | 2, _ | 3, _ | 4, _ | 5, _ | 6, _ | 7, _ | 8, _ => rfl
theorem mixw_get (v st : Sha.St) (k : Nat) (hk : k < 8) : (mixw v st k).getD k 0#32 = (Sha.words v).getD k 0#32 :=
  match k, hk with
  | 0, _ | 1, _ | 2, _ | 3, _ | 4, _ | 5, _ | 6, _ | 7, _ => rfl
theorem mixw_set (v st : Sha.St) (k : Nat) (hk : k < 8) : mixw v st (k + 1) = (mixw v st k).set k ((Sha.words v).getD k 0#32 + (Sha.words st).getD k 0#32) :=
  match k, hk with
  | 0, _ | 1, _ | 2, _ | 3, _ | 4, _ | 5, _ | 6, _ | 7, _ => rfl

theorem info8 : (Tryd.prog.info? 5).map (fun i => (i.zero, i.size, i.bytes)) = some (some (.int .u8 0), 1, 1) := by kernel_rfl

theorem own_ge {w : World} {base : Nat} {e : TypeId} {size : Nat} {v : Value} {n : Nat} {xs : List Value} (h : w.ownsRow base e size v n xs) : ∀ b, v.ownBlock = some b → base ≤ b := by
  intro b hb
  rcases h.2 with ⟨rfl, _⟩ | ⟨g, cap, cur, rfl, hg, _⟩
  · cases hb
  · cases hb; exact hg

theorem add_at (g j : Nat) : (⟨g, 0, none⟩ : Addr).add j = ⟨g, j, none⟩ := by unfold Addr.add; split <;> simp_all

theorem conv_own {w : World} {base : Nat} {e : TypeId} {v : Value} {l : List UInt8} {n : Nat} (h : w.ownsRow base e 1 v n (l.map B)) (hn : l.length = n) :
    (convert 34 9 v).run Tryd.prog w = .ok (.string ⟨l.toArray⟩) w := by
  subst hn
  rcases h.2 with ⟨rfl, h0⟩ | ⟨g, cap, cur, rfl, hg, hh, hn, _, hsz, htk⟩
  · rw [run_convert_bytes_nil (P := Tryd.prog) w 34 5 Tryd.underlying34 Tryd.underlying5 0 0 9 Tryd.underlying9]
    obtain rfl : l = [] := List.eq_nil_of_length_eq_zero h0
    rfl
  · refine run_convert_bytes_back (P := Tryd.prog) w 34 9 5 ⟨g, 0, none⟩ cap l Tryd.underlying34 Tryd.underlying5 Tryd.underlying9 ?_
    intro j hj
    rw [add_at]
    have : (cur.toList.take (l.length * 1))[j]? = (l.map B)[j]? := by rw [htk]
    rw [List.getElem?_take_of_lt (by omega)] at this
    simp only [World.cell?, hh]
    simp [hj] at this
    simpa using this

theorem byte_and1 (x : Nat) (h : x < 2 ^ 32) : bits .and .u32 (x : Int) 255 = (x : Int) % 256 := by
  have h1 := u32_and_nat x 255 (by omega) (by decide)
  rw [show ((255 : Nat) : Int) = 255 from rfl] at h1
  rw [h1, show x &&& 255 = x % 256 from Nat.and_two_pow_sub_one_eq_mod x 8]
  omega
theorem byte_and (x d : Nat) (h : x < 2 ^ 32) : bits .and .u32 ((x : Int) / (d : Int)) 255 = (x : Int) / (d : Int) % 256 := by
  have := byte_and1 (x / d) (Nat.lt_of_le_of_lt (Nat.div_le_self _ _) h)
  rw [show ((x / d : Nat) : Int) = (x : Int) / (d : Int) from rfl] at this
  exact this

set_option maxRecDepth 100000 in
set_option maxHeartbeats 1600000 in
theorem refSha_any (s : ByteArray) (w : World) (hs : s.size ≤ 562949953421312) (hk : RR w) (hf : FR w) :
    Calls Tryd.prog 20 #[.string s] w fun e w' => e = .returned (.string ⟨(Sha.digest s.data.toList).toArray⟩) ∧ Below w.heap.size w w' := by
  have HK := hide hk
  have HF := hide hf
  clear hk hf
  obtain ⟨D, hD⟩ : ∃ D, (Sha.digest s.data.toList).toArray = D := ⟨_, rfl⟩
  rw [hD]
  have HD := hide hD
  clear hD
  obtain ⟨Q, hQ⟩ : ∃ Q, (s.size + 8) / 64 + 1 = Q := ⟨_, rfl⟩
  have hQM : s.size + Sha.padSize s.size = 64 * Q := by rw [whole_eq, hQ, Nat.mul_comm]
  have HP : Hid (∀ q, 64 * q + 64 ≤ 64 * Q → ∀ W, Calls Tryd.prog 31 #[.string s, .int .i64 (64 * (Q : Int)), .int .i64 (64 * (q : Int))] W fun e w' => e = .returned (.agg ((Sha.sched (piece s.data.toList q) 64).map V).toArray) ∧ Below W.heap.size W w') := fun q hq W => by
    have h := plan_any s q (64 * Q) hQM hs hq W
    rw [show ((64 * Q : Nat) : Int) = 64 * (Q : Int) by omega] at h
    exact h
  have HQM := hide hQM
  have uM : (((s.size : Int) + 8) / 64 + 1) * 64 = 64 * (Q : Int) := by omega
  have hQ2 : Q < 17592186044416 := by omega
  clear hQM hQ
  go_enter Tryd.func20, Tryd.ntmps20
  go_wp2_with fail
  go_loopw [5] (fun i wr => ∃ k : Nat, k ≤ 8 ∧ i = .int .i64 k ∧ wr.there w.heap.size 0 8 ∧ wr.rangeAt w.heap.size 0 (((Sha.words Sha.first).take k).map V) ∧ Below w.heap.size w wr) (fun i _ => 8 - (intOf i).toNat)
  case atStart => exact ⟨0, Nat.zero_le _, rfl, there_new_at w _ _ _ _ rfl rfl, fun j v hv => by simp at hv, (Below.refl _ _).alloc (Nat.le_refl _) _⟩
  case round =>
    obtain ⟨k, hk, rfl, ht, hr, hb⟩ := hrel
    by_cases hlt : k < 8
    · have q0 := HF.out.below hb HF.out.lt k hlt
      have f0 : wr.frozen? ⟨w.heap.size, k, none⟩ = false := by simpa using (ht k hlt).2
      have f1 : (wr.cell? ⟨w.heap.size, k, none⟩).isSome = true := by simpa using (ht k hlt).1
      obtain ⟨v0, hv0⟩ := Option.isSome_iff_exists.1 f1
      clear f1
      have k0 : (0 : Int) ≤ (k : Int) := Int.natCast_nonneg _
      have k1 : (k : Int) < 8 := by omega
      have H0 := hide ht
      have H1 := hide hr
      have H2 := hide hb
      have hsn : Hid (((Sha.words Sha.first).take (k + 1)).map V = ((Sha.words Sha.first).take k).map V ++ [V ((Sha.words Sha.first).getD k 0#32)]) := by
        show _ = _
        rw [List.take_succ_eq_append_getElem (by simpa [Sha.words] using hlt), List.map_append]
        simp [show k < (Sha.words Sha.first).length from hlt]
      clear ht hr hb
      generalize (Sha.words Sha.first).getD k 0#32 = x at *
      go_wp2_with fail
      refine ⟨⟨k + 1, by omega, by go_num, there_set H0.out _ _, ?_, H2.out.setCell (Nat.le_refl _) _⟩, by simp [intOf]; omega⟩
      have hl : (((Sha.words Sha.first).take k).map V).length = k := by rw [List.length_map, List.length_take]; exact Nat.min_eq_left hk
      have := range_snoc H1.out (V x) (by rw [hl]; simpa using (H0.out k hlt).1)
      rw [hl, Nat.zero_add] at this
      rw [hsn.out]
      exact this
    · obtain rfl : k = 8 := by omega
      obtain ⟨wo, rfl⟩ : ∃ wo : World, wo = wr := ⟨_, rfl⟩
      have HA : Hid (At w wo Sha.first) := ⟨hr, ht, hb⟩
      clear ht hr hb hlt hk
      go_wp2_with fail
      go_loopw [6] (fun a wr => ∃ q : Nat, q ≤ Q ∧ a = .int .i64 (64 * (q : Int)) ∧ At w wr (Sha.after (full s.data.toList) q)) (fun a _ => 64 * Q - (intOf a).toNat)
      case atStart => exact ⟨0, Nat.zero_le _, rfl, HA.out⟩
      case round =>
        obtain ⟨q, hq, rfl, hA⟩ := hrel
        by_cases hlt : q < Q
        · have HC := hide (HP.out q (by omega))
          have HX : Hid (Sha.after (full s.data.toList) (q + 1) = Sha.add (Sha.after (full s.data.toList) q) (Sha.rounds (Sha.after (full s.data.toList) q) (Sha.sched (piece s.data.toList q) 64) 64)) := rfl
          have HL : Hid ((Sha.sched (piece s.data.toList q) 64).length = 64) := Sha.sched_length _ _
          have HA1 := hide hA
          have l0 : 64 * (q : Int) < 64 * (Q : Int) := by omega
          clear hA
          obtain ⟨v1, hv1⟩ : ∃ v1, Sha.after (full s.data.toList) (q + 1) = v1 := ⟨_, rfl⟩
          rw [hv1] at HX
          have HV1 := hide hv1
          clear hv1
          generalize Sha.after (full s.data.toList) q = v at *
          generalize Sha.sched (piece s.data.toList q) 64 = L at *
          go_upto_region 10 with fail
          go_cut [7] (fun p wx => ∃ g, p = .pointer (some ⟨g, 0, none⟩) ∧ Planned w wx g v L)
          case first =>
            go_wp2_with fail
            refine (HC.out _).mono ?_
            rintro e w1 ⟨rfl, hb1⟩
            have HI : Hid ((Tryd.prog.info? 61).map (·.size) = some (L.map V).toArray.size) := by
              show _ = _
              rw [List.size_toArray, List.length_map, HL.out]; exact sizePlan
            have HO : Hid ((L.map V).toArray.all (·.oneCell') = true) := all_oneCell_toArray (by intro v hv; obtain ⟨x, _, rfl⟩ := List.mem_map.1 hv; rfl)
            have HSZ : Hid ((L.map V).toArray.size = 64) := by show _ = _; rw [List.size_toArray, List.length_map, HL.out]
            have HPL : Hid (Planned w ((w1.alloc (.cells #[.int .u32 0, .int .u32 0, .int .u32 0, .int .u32 0, .int .u32 0, .int .u32 0, .int .u32 0, .int .u32 0, .int .u32 0, .int .u32 0, .int .u32 0, .int .u32 0, .int .u32 0, .int .u32 0, .int .u32 0, .int .u32 0, .int .u32 0, .int .u32 0, .int .u32 0, .int .u32 0, .int .u32 0, .int .u32 0, .int .u32 0, .int .u32 0, .int .u32 0, .int .u32 0, .int .u32 0, .int .u32 0, .int .u32 0, .int .u32 0, .int .u32 0, .int .u32 0, .int .u32 0, .int .u32 0, .int .u32 0, .int .u32 0, .int .u32 0, .int .u32 0, .int .u32 0, .int .u32 0, .int .u32 0, .int .u32 0, .int .u32 0, .int .u32 0, .int .u32 0, .int .u32 0, .int .u32 0, .int .u32 0, .int .u32 0, .int .u32 0, .int .u32 0, .int .u32 0, .int .u32 0, .int .u32 0, .int .u32 0, .int .u32 0, .int .u32 0, .int .u32 0, .int .u32 0, .int .u32 0, .int .u32 0, .int .u32 0, .int .u32 0, .int .u32 0] 61)).setCells w1.heap.size 0 (L.map V)) w1.heap.size v L) := planned_at _ _ (by rw [HL.out]; rfl) HA1.out hb1
            clear hb1
            generalize L.map V = LL at *
            go_wp2_with (refine wpList_store_mid (by rfl) 61 (.tmp 7) (.tmp _) (by rfl) w1.heap.size 0 LL.toArray (by rfl) (by rfl) ?st HI.out HO.out ?_)
            case st => exact there_new_at w1 _ _ _ _ rfl HSZ.out
            go_meet
            case rel => exact ⟨w1.heap.size, rfl, HPL.out⟩
          case rest =>
            obtain ⟨g, rfl, hPl⟩ := hcut
            have HPl := hide hPl
            obtain ⟨c0, c1, c2, c3, c4, c5, c6, c7⟩ := words8 hPl.at_.st
            clear hPl
            go_wp2_with fail
            have HG : Hid (g < wc.heap.size) := HPl.out.lt
            have HS : Hid ((wc.alloc (.cells #[V v.a, V v.b, V v.c, V v.d, V v.e, V v.f, V v.g, V v.h] 59)).rangeAt wc.heap.size 0 ((Sha.words v).map V)) := range_new_at wc _ _ _ _ rfl rfl
            have HT : Hid ((wc.alloc (.cells #[V v.a, V v.b, V v.c, V v.d, V v.e, V v.f, V v.g, V v.h] 59)).there wc.heap.size 0 8) := there_new_at wc _ _ _ _ rfl rfl
            have HP0 : Hid (Planned w (wc.alloc (.cells #[V v.a, V v.b, V v.c, V v.d, V v.e, V v.f, V v.g, V v.h] 59)) g v L) := HPl.out.over ((Below.refl wc.heap.size wc).alloc (Nat.le_refl _) _) HG.out
            clear c0 c1 c2 c3 c4 c5 c6 c7 HPl
            generalize wc.heap.size = G at *
            go_loopw [9] (fun t wr => ∃ k : Nat, k ≤ 64 ∧ t = .int .i64 k ∧ Planned w wr g v L ∧ wr.rangeAt G 0 ((Sha.words (Sha.rounds v L k)).map V) ∧ wr.there G 0 8) (fun t _ => 64 - (intOf t).toNat)
            case atStart => exact ⟨0, Nat.zero_le _, rfl, HP0.out, HS.out, HT.out⟩
            case round =>
              obtain ⟨k, hk, rfl, hPl, hR, hT⟩ := hrel
              by_cases hlt2 : k < 64
              · have q0 := HK.out.below hPl.at_.below HK.out.lt k hlt2
                have q1 : wr.cell? ⟨g, k, none⟩ = some (V (L.getD k 0#32)) := word_cell hPl.plan k (by rw [HL.out]; exact hlt2)
                have hrd : Hid (Sha.round (Sha.rounds v L k) (Sha.K.getD k 0#32) (L.getD k 0#32) = Sha.rounds v L (k + 1)) := rfl
                have k0 : (0 : Int) ≤ (k : Int) := Int.natCast_nonneg _
                have k1 : (k : Int) < 64 := by omega
                have HP1 := hide hPl
                have HR1 := hide hR
                have HT1 := hide hT
                have HG1 : Hid (G < wr.heap.size) := there_lt hT (by decide)
                obtain ⟨s0, s1, s2, s3, s4, s5, s6, s7⟩ := words8 hR
                obtain ⟨z0, z1, z2, z3, z4, z5, z6, z7⟩ := hot8 hT
                clear hPl hR hT
                obtain ⟨X, hX⟩ : ∃ X, Sha.rounds v L (k + 1) = X := ⟨_, rfl⟩
                rw [hX] at hrd
                have HXX := hide hX
                clear hX
                generalize Sha.rounds v L k = st at *
                generalize Sha.K.getD k 0#32 = kk at *
                generalize L.getD k 0#32 = ww at *
                have HC2 := hide (step_to st kk ww X hrd.out)
                clear hrd
                go_upto_region 15 with fail
                go_region_with (go_at_call 32; refine (HC2.out _).mono ?_; rintro e w2 ⟨rfl, hb2⟩; have B2 := ((Below.refl _ _).drew).trans hb2; have R2 := range_below HR1.out B2 HG1.out; have T2 := there_below HT1.out B2 HG1.out; obtain ⟨p0, p1, p2, p3, p4, p5, p6, p7⟩ := words8 R2; obtain ⟨y0, y1, y2, y3, y4, y5, y6, y7⟩ := hot8 T2)
                all_goals
                  have HST := hide (stepped HP1.out HT1.out HG.out HG1.out B2 X)
                  have hW : Hid (((((((((w2.setCell ⟨G, 0, none⟩ (V X.a)).setCell ⟨G, 1, none⟩ (V X.b)).setCell ⟨G, 2, none⟩ (V X.c)).setCell ⟨G, 3, none⟩ (V X.d)).setCell ⟨G, 4, none⟩ (V X.e)).setCell ⟨G, 5, none⟩ (V X.f)).setCell ⟨G, 6, none⟩ (V X.g)).setCell ⟨G, 7, none⟩ (V X.h)) = w2.setCells G 0 ((Sha.words X).map V)) := rfl
                  rw [hW.out]
                  generalize w2.setCells G 0 ((Sha.words X).map V) = W3 at *
                  clear hW B2 R2 T2 hb2 s0 s1 s2 s3 s4 s5 s6 s7 z0 z1 z2 z3 z4 z5 z6 z7 p0 p1 p2 p3 p4 p5 p6 p7 y0 y1 y2 y3 y4 y5 y6 y7
                  go_wp2_with fail
                  go_roundw
                  case rel =>
                    first
                      | exact ⟨k + 1, by omega, by go_num, HST.out.1, by rw [HXX.out]; exact HST.out.2.1, HST.out.2.2⟩
                      | ((repeat apply Exists.intro); exact ⟨⟨k + 1, by omega, by go_num, HST.out.1, by rw [HXX.out]; exact HST.out.2.1, HST.out.2.2⟩, rfl⟩)
                  case measure => simp [intOf]; omega
              · obtain rfl : k = 64 := by omega
                obtain ⟨wt, rfl⟩ : ∃ wt : World, wt = wr := ⟨_, rfl⟩
                have HAt := hide hPl.at_
                have HGw : Hid (w.heap.size < G) := Nat.lt_trans hPl.gt HG.out
                have HR := hide hR
                clear hPl hR hT hlt2 hk
                generalize Sha.rounds v L 64 = st at *
                go_wp2_with fail
                go_loopw [10] (fun i wr => ∃ k : Nat, k ≤ 8 ∧ i = .int .i64 k ∧ wr.there w.heap.size 0 8 ∧ wr.rangeAt w.heap.size 0 ((mixw v st k).map V) ∧ wr.rangeAt G 0 ((Sha.words st).map V) ∧ Below w.heap.size w wr) (fun i _ => 8 - (intOf i).toNat)
                case atStart => exact ⟨0, Nat.zero_le _, rfl, HAt.out.out, HAt.out.st, HR.out, HAt.out.below⟩
                case round =>
                  obtain ⟨k, hk, rfl, ht, hh, hr, hb⟩ := hrel
                  by_cases hlt3 : k < 8
                  · have q0 : wr.cell? ⟨w.heap.size, k, none⟩ = some (V ((Sha.words v).getD k 0#32)) := by
                      rw [← mixw_get v st k hlt3]; exact word_cell hh k (by rw [mixw_length v st k hk]; exact hlt3)
                    have q1 : wr.cell? ⟨G, k, none⟩ = some (V ((Sha.words st).getD k 0#32)) := word_cell hr k hlt3
                    have f0 : wr.frozen? ⟨w.heap.size, k, none⟩ = false := by simpa using (ht k hlt3).2
                    have hne : (⟨w.heap.size, k, none⟩ : Addr) ≠ ⟨G, k, none⟩ := fun he => by have := (Addr.mk.inj he).1; have := HGw.out; omega
                    have k0 : (0 : Int) ≤ (k : Int) := Int.natCast_nonneg _
                    have k1 : (k : Int) < 8 := by omega
                    have H0 := hide ht
                    have H1 := hide hh
                    have H2 := hide hr
                    have H3 := hide hb
                    have hset : Hid ((mixw v st (k + 1)).map V = ((mixw v st k).map V).set k (V ((Sha.words v).getD k 0#32 + (Sha.words st).getD k 0#32))) := by
                      show _ = _
                      rw [mixw_set v st k hlt3, List.map_set]
                    clear ht hh hr hb
                    generalize (Sha.words v).getD k 0#32 = x at *
                    generalize (Sha.words st).getD k 0#32 = y at *
                    have ha := b_add x y
                    have hw := w_add x y
                    generalize x + y = z at *
                    go_wp2_with fail
                    go_region_with (fail)
                    all_goals
                      have R1 : ((wr.setCell ⟨w.heap.size, k, none⟩ (V z)).drew).rangeAt w.heap.size 0 ((mixw v st (k + 1)).map V) := by
                        rw [hset.out]
                        have := range_set H1.out k (by rw [List.length_map, mixw_length v st k hk]; exact hlt3) (V z)
                        rw [Nat.zero_add] at this
                        exact this
                      have R2 : ((wr.setCell ⟨w.heap.size, k, none⟩ (V z)).drew).rangeAt G 0 ((Sha.words st).map V) := range_other H2.out _ (Or.inl (by have := HGw.out; show w.heap.size ≠ G; omega)) _
                      have R0 : ((wr.setCell ⟨w.heap.size, k, none⟩ (V z)).drew).there w.heap.size 0 8 := there_set H0.out _ _
                      have R3 : Below w.heap.size w ((wr.setCell ⟨w.heap.size, k, none⟩ (V z)).drew) := (H3.out.setCell (Nat.le_refl _) _).drew
                      have HR0 := hide R0
                      have HR1 := hide R1
                      have HR2 := hide R2
                      have HR3 := hide R3
                      clear R0 R1 R2 R3 q0 q1 f0 hne
                      go_wp2_with fail
                      go_roundw
                      case rel =>
                        first
                          | exact ⟨k + 1, by omega, by go_num, HR0.out, HR1.out, HR2.out, HR3.out⟩
                          | ((repeat apply Exists.intro); exact ⟨⟨k + 1, by omega, by go_num, HR0.out, HR1.out, HR2.out, HR3.out⟩, rfl⟩)
                      case measure => simp [intOf]; omega
                  · obtain rfl : k = 8 := by omega
                    have HA2 : Hid (At w wr v1) := by
                      refine ⟨?_, ht, hb⟩
                      rw [HX.out]; exact hh
                    clear ht hh hr hb
                    go_wp2_with fail
                    go_roundw
                    case rel =>
                      have e64 : (64 : Int) * (q : Int) + 64 = 64 * ((q + 1 : Nat) : Int) := by omega
                      first
                        | exact ⟨q + 1, hlt, common.int_eq e64, by rw [HV1.out]; exact HA2.out⟩
                        | ((repeat apply Exists.intro); exact ⟨⟨q + 1, hlt, common.int_eq e64, by rw [HV1.out]; exact HA2.out⟩, rfl⟩)
                    case measure => simp [intOf]; omega
        · obtain rfl : q = Q := by omega
          obtain ⟨wq, rfl⟩ : ∃ wq : World, wq = wr := ⟨_, rfl⟩
          have hdig : Hid ((Sha.bytes (Sha.after (full s.data.toList) q)).toArray = D) := by
            show _ = _
            rw [← HD.out]
            unfold Sha.digest
            rw [show s.data.toList.length + Sha.padSize s.data.toList.length = 64 * q from HQM.out, Nat.mul_div_cancel_left q (by decide)]
            rfl
          have HA3 := hide hA
          clear hA
          generalize Sha.after (full s.data.toList) q = X at *
          obtain ⟨i0, hi, hz0, hz1, hz2⟩ := info_parts info8
          go_wp2_with fail
          go_loopw [11, 12] (fun v i wr => ∃ k : Nat, k ≤ 8 ∧ i = .int .i64 k ∧ wr.ownsRow (w.heap.size + 1) 5 1 v (4 * k) ((bytesTo X k).map B) ∧ Below (w.heap.size + 1) wq wr) (fun _ i _ => 8 - (intOf i).toNat)
          case atStart => exact ⟨0, Nat.zero_le _, rfl, World.ownsRow_nil _ _ _ _, Below.refl _ _⟩
          case round =>
            obtain ⟨k, hk, rfl, hown, hnx⟩ := hrel
            by_cases hlt4 : k < 8
            · have q0 : wr.cell? ⟨w.heap.size, k, none⟩ = some (V ((Sha.words X).getD k 0#32)) := word_cell (range_below HA3.out.st hnx (Nat.lt_succ_self _)) k hlt4
              have hsz : w.heap.size + 1 ≤ wr.heap.size := Nat.le_trans HA3.out.lt hnx.size
              have hsn : Hid ((bytesTo X (k + 1)).map B = (bytesTo X k).map B ++ (Sha.wbytes ((Sha.words X).getD k 0#32)).map B) := by show _ = _; rw [bytesTo_succ X k hlt4, List.map_append]
              have k0 : (0 : Int) ≤ (k : Int) := Int.natCast_nonneg _
              have k1 : (k : Int) < 8 := by omega
              generalize (Sha.words X).getD k 0#32 = x at *
              have b1 : bits .and .u32 ((x.toNat : Int) / 65536) 255 = (x.toNat : Int) / 65536 % 256 := byte_and x.toNat 65536 x.isLt
              have b2 : bits .and .u32 ((x.toNat : Int) / 256) 255 = (x.toNat : Int) / 256 % 256 := byte_and x.toNat 256 x.isLt
              have b3 := byte_and1 x.toNat x.isLt
              go_wp2_with (at_builtin; refine wpList_append_own _ rfl _ _ 34 rfl (w.heap.size + 1) 5 i0 (.int .u8 0) 1 1 Tryd.underlying34 hi hz0 hz1 hz2 rfl (by decide) _ _ _ rfl (hown.alloc _) ⟨wr.heap.size, 0, none⟩ 4 4 [.int .u8 ((x.toNat : Int) / 16777216), .int .u8 ((x.toNat : Int) / 65536 % 256), .int .u8 ((x.toNat : Int) / 256 % 256), .int .u8 ((x.toNat : Int) % 256)] rfl rfl ?c1 ?c2 ?c3 ?c4 ?c5 ?_)
              case c1 => intro j u hu; rw [Addr.add_mid]; exact range_new_at wr _ _ _ _ rfl rfl j u hu
              case c2 => intro u hu; simp at hu; rcases hu with rfl | rfl | rfl | rfl <;> rfl
              case c3 => unfold maxLen; omega
              case c4 => omega
              case c5 => simp; omega
              intro v' w1 hown' hgrow _
              have R1 : w1.ownsRow (w.heap.size + 1) 5 1 v' (4 * (k + 1)) ((bytesTo X (k + 1)).map B) := by
                rw [hsn.out, wbytes_map]; exact hown'
              have R2 : Below (w.heap.size + 1) wq w1 := by
                refine (hnx.alloc hsz _).grown hgrow (by simp; omega) ?_
                exact own_ge hown
              clear hown' hgrow hown
              have H1 := hide R1
              have H2 := hide R2
              clear R1 R2
              go_wp2
              go_roundw
              case rel =>
                first
                  | exact ⟨k + 1, by omega, by go_num, H1.out, H2.out⟩
                  | ((repeat apply Exists.intro); exact ⟨⟨k + 1, by omega, by go_num, H1.out, H2.out⟩, rfl⟩)
              case measure => simp [intOf]; omega
            · obtain rfl : k = 8 := by omega
              have hconv := conv_own hown (by rw [bytesTo_length X 8 hk])
              rw [show (bytesTo X 8).toArray = D from hdig.out] at hconv
              have HB2 : Hid (Below w.heap.size w wr) := HA3.out.below.trans (hnx.mono (Nat.le_succ _))
              clear hown hnx
              go_wp2_with fail
              go_ret
              exact ⟨rfl, HB2.out⟩
end Go.Proofs.YtkmhhodapnlkiaaDoor.refw
