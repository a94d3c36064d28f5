import Derived.Test.YtpfamgahnphceaaDoorPkCells
namespace Go.Proofs.YtpfamgahnphceaaDoor.pk
open Go.ChangeShapes Go.WideShapes Go.ChangeAt Go.RowKit Go.Proofs.YtpfamgahnphceaaDoor.common
open Go.Proofs.YtpfamgahnphceaaDoor.errw (Errs E)
open Go.Proofs.YtpfamgahnphceaaDoor.radw (B Lay)
attribute [local go_sem ↓] Go.wp_at_zero Go.wp_at_succ

/-- a slice of flags -/
def LiesB (w : World) (v : Value) (l : List Bool) : Prop :=
  ∃ oa cap, v = .slice oa l.length cap ∧ ∀ i (h : i < l.length), ∃ b o, oa = some ⟨b, o, none⟩ ∧ b < w.heap.size ∧ w.cell? ⟨b, o + i, none⟩ = some (.bool l[i])
theorem LiesB.below {w w' : World} {v : Value} {l : List Bool} (h : LiesB w v l) (hb : Below w.heap.size w w') : LiesB w' v l := by
  obtain ⟨oa, cap, hv, hc⟩ := h
  refine ⟨oa, cap, hv, fun i hi => ?_⟩
  obtain ⟨b, o, ho, hlt, c0⟩ := hc i hi
  exact ⟨b, o, ho, Nat.lt_of_lt_of_le hlt hb.size, (hb.cell hlt).trans c0⟩

abbrev rawL (l : List ByteArray) : List (List UInt8) := l.map (·.data.toList)
abbrev idL (l : List ByteArray) : List ByteArray := l.map fun d => idn d.data.toList
theorem raw_snoc (l : List ByteArray) (d : ByteArray) : rawL (l ++ [d]) = rawL l ++ [d.data.toList] := by simp [rawL]
theorem id_snoc (l : List ByteArray) (d : ByteArray) : idL (l ++ [d]) = idL l ++ [idn d.data.toList] := by simp [idL]

theorem cells2 {w : World} {n : Nat} {x y : Value} {t : TypeId} (h : w.heap[n]? = some (.cells #[x, y] t (0, 0))) : w.cell? ⟨n, 0, none⟩ = some x ∧ w.cell? ⟨n, 1, none⟩ = some y := by
  constructor <;> simp [World.cell?, h]

theorem own_shape {w : World} {base : Nat} {e : TypeId} {size : Nat} {v : Value} {n : Nat} {xs : List Value} (h : w.ownsRow base e size v n xs) : ∃ ao cap, v = .slice ao n cap := by
  rcases h.2 with ⟨rfl, rfl⟩ | ⟨g, cap, cur, rfl, _⟩
  · exact ⟨none, 0, rfl⟩
  · exact ⟨_, cap, rfl⟩
theorem kp_yes {l : List ByteArray} {d : ByteArray} (h : d.size = 32 ∧ l.length < 1024) : kp l d = l ++ [d] := if_pos h
theorem kp_no {l : List ByteArray} {d : ByteArray} (h : ¬ (d.size = 32 ∧ l.length < 1024)) : kp l d = l := if_neg h

/-- the head of the law -/
theorem o1_start (w : World) (vd vy : Value) : O1 w (((w.alloc (.cells #[vd, vy] 25)).alloc (.cells #[.slice none 0 0] 53)).alloc (.cells #[ptr (w.heap.size + 1)] 26)) w.heap.size vd vy (.slice none 0 0) none [] [] := by
  have z1 : (w.alloc (.cells #[vd, vy] 25)).heap.size = w.heap.size + 1 := by simp
  have z2 : ((w.alloc (.cells #[vd, vy] 25)).alloc (.cells #[.slice none 0 0] 53)).heap.size = w.heap.size + 2 := by simp
  refine ⟨⟨⟨.slice none 0 0, ?_, ln_nil _ _ _⟩, fun _ h => (by cases h)⟩, fun _ h => (by cases h), World.ownsRow_nil _ _ _ _, ?_, ?_, ?_, ?_⟩
  · rw [heap_alloc_old _ _ (by omega)]
    have := heap_alloc_new (w.alloc (.cells #[vd, vy] 25)) (.cells #[.slice none 0 0] 53)
    rwa [z1] at this
  · rw [heap_alloc_old _ _ (by omega), heap_alloc_old _ _ (by omega), heap_alloc_new]
  · have := heap_alloc_new ((w.alloc (.cells #[vd, vy] 25)).alloc (.cells #[.slice none 0 0] 53)) (.cells #[ptr (w.heap.size + 1)] 26)
    rwa [z2] at this
  · exact (((Below.refl _ _).alloc (Nat.le_refl _) _).alloc (by simp) _).alloc (by simp; omega) _
  · simp

set_option maxRecDepth 100000 in
set_option maxHeartbeats 6400000 in
theorem lawOnce (vd vy : Value) (ds : List ByteArray) (ys : List Bool) (w : World) (hd : ss.Lies w vd ds) (hy : LiesB w vy ys) (hn : ds.length ≤ 140737488355328) (hm : ys.length ≤ 140737488355328) (hu : radw.UrlTab w) (e : Nat → Addr) (he : Errs w e) :
    Calls Tryd.prog 3 #[.agg #[vd, vy]] w fun x w' => x = .returned (.bool true) ∧ Below w.heap.size w w' := by
  have HD := hide hd
  have HY := hide hy
  have HU := hide hu
  have HE := hide he
  have hug : 13 < w.heap.size := hu.lt (by decide)
  have HO0 := hide (o1_start w vd vy)
  have c2 : (((w.alloc (.cells #[vd, vy] 25)).alloc (.cells #[.slice none 0 0] 53)).alloc (.cells #[ptr (w.heap.size + 1)] 26)).cell? ⟨w.heap.size + 2, 0, none⟩ = some (ptr (w.heap.size + 1)) := cell0 HO0.out.var
  have HUG := hide hug
  clear hd hy hu he hug
  go_enter Tryd.func3, Tryd.ntmps3
  go_wp2_with fail
  refine (newSource_any _).mono ?_
  rintro x w1 ⟨rfl, rfl⟩
  have z1 : (w.alloc (.cells #[vd, vy] 25)).heap.size = w.heap.size + 1 := by simp
  rw [z1]
  go_wp2_with fail
  generalize ((w.alloc (.cells #[vd, vy] 25)).alloc (.cells #[.slice none 0 0] 53)).alloc (.cells #[ptr (w.heap.size + 1)] 26) = W0 at *
  clear c2 z1
  go_loopw [5, 4] (fun i v wr => ∃ (k : Nat) (gb : Option Nat), k ≤ ds.length ∧ i = .int .i64 k ∧ O1 w wr w.heap.size vd vy v gb (rawL (kept ds k)) (idL (kept ds k))) (fun i _ _ => ds.length - (intOf i).toNat)
  case atStart => exact ⟨0, none, Nat.zero_le _, rfl, HO0.out⟩
  case round =>
    obtain ⟨k, gb, hk, rfl, ho⟩ := hrel
    have HO := hide ho
    have hb := cells2 ho.box
    have hbx := hb.1
    obtain ⟨oa, cap, rfl, hcells⟩ := HD.out.below ho.low
    clear hb
    by_cases hlt : k < ds.length
    · have hki : (k : Int) < (ds.length : Int) := by omega
      obtain ⟨b, o, rfl, hbl, hcd⟩ := hcells k hlt
      have x0 : ∀ X, (∃ gb L, O1 w X w.heap.size (.slice (some ⟨b, o, none⟩) ds.length cap) vy u4 gb L (idL (kept ds k))) → X.cell? ⟨w.heap.size + 2, 0, none⟩ = some (ptr (w.heap.size + 1)) := fun X ⟨_, _, h⟩ => cell0 h.var
      have x1 : ∀ X, (∃ gb L, O1 w X w.heap.size (.slice (some ⟨b, o, none⟩) ds.length cap) vy u4 gb L (idL (kept ds k))) → X.cell? ⟨w.heap.size, 0, none⟩ = some (.slice (some ⟨b, o, none⟩) ds.length cap) := fun X ⟨_, _, h⟩ => (cells2 h.box).1
      have x2 : ∀ X, (∃ gb L, O1 w X w.heap.size (.slice (some ⟨b, o, none⟩) ds.length cap) vy u4 gb L (idL (kept ds k))) → X.cell? ⟨b, o + k, none⟩ = some (.string ds[k]) := fun X ⟨_, _, h⟩ => by
        obtain ⟨oa', cap', hv', hc'⟩ := HD.out.below h.low
        cases hv'
        obtain ⟨b', o', ho', _, hc2⟩ := hc' k hlt
        cases ho'
        exact hc2
      have HKS := hide (kept_succ ds k hlt)
      have HKL := hide (kept_len ds k)
      clear ho hcells hcd
      generalize ds[k] = d at *
      generalize hK : kept ds k = K at *
      generalize hK' : kept ds (k + 1) = K' at *
      have HK' := hide hK'
      clear hK hK'
      obtain ⟨ev, L', hev, HP⟩ : ∃ (ev : Value) (L' : List (List UInt8)), ((d.size = 32 ∧ K.length < 1024) ∧ ev = .nilIface ∧ L' = rawL K ++ [d.data.toList] ∨ ¬ (d.size = 32 ∧ K.length < 1024) ∧ L' = rawL K) ∧ Hid (∀ X, O1 w X w.heap.size (.slice (some ⟨b, o, none⟩) ds.length cap) vy u4 gb (rawL K) (idL K) → Calls Tryd.prog 6 #[ptr (w.heap.size + 1), .string d] X fun x w' => x = .returned ev ∧ ∃ gb', O1 w w' w.heap.size (.slice (some ⟨b, o, none⟩) ds.length cap) vy u4 gb' L' (idL K)) := by
        have hlK : (rawL K).length = K.length := by simp [rawL]
        by_cases h32 : d.size = 32
        · by_cases h24 : K.length < 1024
          · refine ⟨.nilIface, _, Or.inl ⟨⟨h32, h24⟩, rfl, rfl⟩, fun X hX => (push_good X _ gb _ d h32 (by rw [hlK]; exact h24) hX.src).mono ?_⟩
            rintro x w' ⟨rfl, hp⟩
            exact ⟨rfl, hX.push hp⟩
          · refine ⟨E e 2, _, Or.inr ⟨fun h => h24 h.2, rfl⟩, fun X hX => (push_many X _ gb _ d (e 2) h32 (by rw [hlK]; omega) hX.src ((HE.out.below hX.low).cell 2 (by decide))).mono ?_⟩
            rintro x w' ⟨rfl, rfl⟩
            exact ⟨rfl, gb, hX⟩
        · refine ⟨E e 0, _, Or.inr ⟨fun h => h32 h.1, rfl⟩, fun X hX => (push_size X _ d (e 0) h32 ((HE.out.below hX.low).cell 0 (by decide))).mono ?_⟩
          rintro x w' ⟨rfl, rfl⟩
          exact ⟨rfl, gb, hX⟩
      have k0 : (0 : Int) ≤ (k : Int) := Int.natCast_nonneg _
      go_wp2_with fail
      go_region_held3 (fun X => ∃ gb L, O1 w X w.heap.size (.slice (some ⟨b, o, none⟩) ds.length cap) vy u4 gb L (idL K))
        (first
          | assumption
          | exact ⟨_, _, HO.out⟩
          | exact ⟨_, _, HO.out.drew⟩
          | exact ⟨_, _, ho1⟩
          | exact ⟨_, _, ho1.drew⟩)
        ((go_at_call 6; refine (HP.out _ (by first | exact HO.out | exact HO.out.drew)).mono ?_; rintro x w1 ⟨rfl, gb1, ho1⟩))
      have HO1 := hide ho1
      have y1 := x1 w1 ⟨_, _, ho1⟩
      have y2 := x2 w1 ⟨_, _, ho1⟩
      clear x0 x1 x2 ho1 HP
      rcases hev with ⟨⟨h32, h24⟩, rfl, rfl⟩ | ⟨hno, rfl⟩
      · have HU1 : Hid (∀ W, Calls Tryd.prog 7 #[.string d] W fun x w' => x = .returned (.string (idn d.data.toList)) ∧ Below W.heap.size W w') := fun W => radw.refUrl_any d W (by omega)
        have q1 : ((d.size : Int) == 32) = true := by rw [h32]; rfl
        have q2 : (K.length : Int) < 1024 := by omega
        have HK2 : Hid (K' = K ++ [d]) := HKS.out.trans (kp_yes ⟨h32, h24⟩)
        have H24 := hide h24
        clear h32 h24 HKS HKL HO
        obtain ⟨av, cv, rfl⟩ := own_shape HO1.out.row
        have hql : (idL K).length = K.length := by simp [idL]
        rw [hql] at HO1
        rw [hql]
        clear hql
        go_wp2_with fail
        refine (HU1.out w1).mono ?_
        rintro x w2 ⟨rfl, hb2⟩
        have HO2 := hide (HO1.out.below hb2)
        clear hb2 y1 y2 HO1
        have hb3 : Below w2.heap.size w2 (w2.alloc (.cells #[.string (idn d.data.toList)] 9)) := (Below.refl _ _).alloc (Nat.le_refl _) _
        have HO3 := hide (HO2.out.below hb3)
        have HLi : Hid (ss.Lies (w2.alloc (.cells #[.string (idn d.data.toList)] 9)) (.slice (some ⟨w2.heap.size, 0, none⟩) 1 1) [idn d.data.toList]) := ⟨_, 1, rfl, fun i hi => ⟨w2.heap.size, 0, rfl, by simp, by
          have : i = 0 := by simp at hi; omega
          subst this
          simp⟩⟩
        clear hb3 HO2
        generalize hI : idn d.data.toList = I at *
        have HIe := hide hI
        clear hI
        go_wp2_with (at_builtin; refine ss.append_strs _ rfl _ _ rfl (w.heap.size + 3) _ (idL K) rfl HO3.out.row (.slice (some ⟨w2.heap.size, 0, none⟩) 1 1) [I] rfl HLi.out (by unfold maxLen; simp [idL]; have := H24.out; omega) (by simp [idL]; have := H24.out; omega) HO3.out.big ?_)
        intro v' w4 hown hgrow
        have HO4 : Hid (O1 w w4 w.heap.size (.slice (some ⟨b, o, none⟩) ds.length cap) vy v' gb1 (rawL K') (idL K')) := by
          have h1 : w4.ownsRow (w.heap.size + 3) 9 1 v' (idL (K ++ [d])).length (ss.sc (idL (K ++ [d]))) := by
            have e1 : ss.sc (idL (K ++ [d])) = List.map (Value.string ∘ fun d => idn d.data.toList) K ++ [Value.string I] := by rw [id_snoc, HIe.out]; simp [ss.sc, idL]
            have e2 : (idL (K ++ [d])).length = K.length + 1 := by simp [idL]
            rw [e1, e2]; exact hown
          have h2 := HO3.out.grown h1 hgrow
          rw [← raw_snoc, ← HK2.out] at h2
          exact h2
        clear hown hgrow HO3 HLi
        go_wp2
        go_roundw
        case rel => exact ⟨k + 1, gb1, by omega, by go_num, by rw [HK'.out]; exact HO4.out⟩
        case measure => simp [intOf]; omega
      · have HK2 : Hid (K' = K) := HKS.out.trans (kp_no hno)
        have HO4 : Hid (O1 w w1 w.heap.size (.slice (some ⟨b, o, none⟩) ds.length cap) vy u4 gb1 (rawL K') (idL K')) := by rw [HK2.out]; exact HO1.out
        obtain ⟨av, cv, rfl⟩ := own_shape HO1.out.row
        have hql : (idL K).length = K.length := by simp [idL]
        rw [hql] at HO1 HO4
        rw [hql]
        by_cases h32 : d.size = 32
        · have h24 : ¬ K.length < 1024 := fun h => hno ⟨h32, h⟩
          have q1 : ((d.size : Int) == 32) = true := by rw [h32]; rfl
          have q2 : ¬ (K.length : Int) < 1024 := by omega
          clear h32 h24 hno HKS HKL HO hql
          go_wp2_with fail
          go_roundw
          case rel => exact ⟨k + 1, gb1, by omega, by go_num, by rw [HK'.out]; exact HO4.out⟩
          case measure => simp [intOf]; omega
        · have q0 : ¬ (d.size : Int) = 32 := by omega
          have q1 : ((d.size : Int) == 32) = false := beq_false_of_ne q0
          clear h32 hno HKS HKL HO hql
          go_wp2_with fail
          go_roundw
          case rel => exact ⟨k + 1, gb1, by omega, by go_num, by rw [HK'.out]; exact HO4.out⟩
          case measure => simp [intOf]; omega
    · obtain rfl : k = ds.length := by omega
      have HK1 := hide (kept_len ds ds.length)
      obtain ⟨hC4, hB4⟩ := c4_start wr
      have HO2 : Hid (O2 w ((((wr.alloc (.cells #[.int .i64 0] 3)).alloc (.cells #[.string ⟨#[]⟩] 9)).alloc (.cells #[.int .i64 0] 3)).alloc (.cells #[.bool false] 4)) w.heap.size wr.heap.size (.slice oa ds.length cap) vy u4 gb ((rawL (kept ds ds.length)).drop 0) (idL (kept ds ds.length)) ((0 : Nat) : Int) ⟨#[]⟩ 0 false) := ⟨ho.below hB4, hC4, ho.src.blt, fun g hg => (own_type ho.row g hg).2.1, ho.big⟩
      obtain ⟨av, cv, rfl⟩ := own_shape ho.row
      have hql : (idL (kept ds ds.length)).length = (kept ds ds.length).length := by simp [idL]
      rw [hql] at HO2
      rw [hql]
      have hmf : ∀ (fn : Fn) (first cap : Array Value) (w : World), (Instr.makeFunc fn first cap).run Tryd.prog w = .ok (.func fn first cap) w := by intros; rfl
      generalize kept ds ds.length = K at *
      clear ho hcells hC4 hB4 HO hql
      go_wp2_with fail
      generalize (((wr.alloc (.cells #[.int .i64 0] 3)).alloc (.cells #[.string ⟨#[]⟩] 9)).alloc (.cells #[.int .i64 0] 3)).alloc (.cells #[.bool false] 4) = W4 at *
      generalize wr.heap.size = N at *
      rw [show N + 1 + 1 + 1 = N + 3 from rfl, show N + 1 + 1 = N + 2 from rfl, show w.heap.size + 1 + 1 = w.heap.size + 2 from rfl]
      go_loopw [12] (fun i wr => ∃ (k : Nat) (gb : Option Nat) (last : ByteArray) (left : Int) (y : Bool), k ≤ K.length ∧ i = .int .i64 k ∧ O2 w wr w.heap.size N (.slice oa ds.length cap) vy (.slice av K.length cv) gb ((rawL K).drop k) (idL K) (k : Int) last left y) (fun i _ => K.length - (intOf i).toNat)
      case atStart => exact ⟨0, gb, _, _, _, Nat.zero_le _, rfl, HO2.out⟩
      case round =>
        clear HO2
        obtain ⟨k, gb2, last, left, y0, hk, rfl, ho⟩ := hrel
        by_cases hlt : k < K.length
        · have hki : (k : Int) < (K.length : Int) := by omega
          have hdr : (rawL K).drop k = K[k].data.toList :: (rawL K).drop (k + 1) := by
            rw [List.drop_eq_getElem_cons (by simpa [rawL] using hlt)]
            simp [rawL]
          have hlen : ((rawL K).drop (k + 1)).length = K.length - (k + 1) := by simp [rawL]
          rw [hdr] at ho
          have HO := hide ho
          have hvy := (cells2 ho.o.box).2
          have hvr := cell0 ho.o.var
          have cy := cell0 ho.c.a4
          have fy := free0 ho.c.a4
          obtain ⟨oy, cyp, rfl, hyc⟩ := HY.out.below ho.o.low
          have HLEN := hide hlen
          have k0 : (0 : Int) ≤ (k : Int) := Int.natCast_nonneg _
          clear hdr ho hlen
          obtain ⟨y, hy⟩ : ∃ y : Bool, (∃ h : k < ys.length, ys[k] = y) ∨ (¬ k < ys.length ∧ y = false) := by
            by_cases h : k < ys.length
            · exact ⟨ys[k], Or.inl ⟨h, rfl⟩⟩
            · exact ⟨false, Or.inr ⟨h, rfl⟩⟩
          obtain ⟨oq, cq, hvq, hqc⟩ := ss.lies_of_own HO.out.o.row
          have hql2 : (idL K).length = K.length := by simp [idL]
          obtain ⟨bq, pq, hav, hx1, hx2⟩ := hqc k (by rw [hql2]; exact hlt)
          clear hx1 hx2
          obtain rfl : av = some ⟨bq, pq, none⟩ := by
            rw [hql2] at hvq
            cases hvq
            exact hav
          clear hvq hqc hav
          have HQ : Hid (∀ X, ss.Lies X (.slice (some ⟨bq, pq, none⟩) K.length cv) (idL K) → X.cell? ⟨bq, pq + k, none⟩ = some (.string (idn K[k].data.toList))) := fun X hX => by
            obtain ⟨oa', cap', hv', hc'⟩ := hX
            obtain ⟨b', o', ho', _, hc2⟩ := hc' k (by rw [hql2]; exact hlt)
            rw [hql2] at hv'
            cases hv'
            cases ho'
            rw [hc2]
            simp [idL]
          have HF : Hid (∀ X y, O2 w X w.heap.size N (.slice oa ds.length cap) (.slice oy ys.length cyp) (.slice (some ⟨bq, pq, none⟩) K.length cv) gb2 (K[k].data.toList :: (rawL K).drop (k + 1)) (idL K) (k : Int) last left y → Calls Tryd.prog 10 #[ptr (w.heap.size + 1), .func (.func 8) #[] #[ptr N, ptr (N + 1), ptr (w.heap.size + 2), ptr (N + 2), ptr (N + 3)]] X fun x w' => FnOut y (idn K[k].data.toList) (e 7) (Asked w w.heap.size N (.slice oa ds.length cap) (.slice oy ys.length cyp) (.slice (some ⟨bq, pq, none⟩) K.length cv) gb2 ((rawL K).drop (k + 1)) (idL K) ((k : Int) + 1) (idn K[k].data.toList) y) x w') := fun X y hX =>
            fresh_fn X _ gb2 _ _ hX.o.src (HU.out.below hX.o.low HUG.out) (by have := HUG.out; omega) _ _ y (e 7) _ once1_enters (fun W ⟨_, _, h⟩ => (HE.out.below h.o.low).cell 7 (by decide)) (asked_any hX ⟨k0, by have := HK1.out; omega⟩ _)
          have HEW : Hid (∀ W, Below w.heap.size w W → Errs W e) := fun W hW => HE.out.below hW
          have hleft : (((rawL K).drop (k + 1)).length : Int) = (K.length : Int) - (k : Int) - 1 := by rw [HLEN.out]; omega
          have HLF := hide hleft
          have hkb : (k : Int) < 9223372036854775806 := by have := HK1.out; omega
          have hKb : (K.length : Int) ≤ 1024 := by have := HK1.out; omega
          clear hleft hql2 HLEN
          generalize idn K[k].data.toList = I at *
          generalize K[k].data.toList = dk at *
          generalize hL1 : (rawL K).drop (k + 1) = L1 at *
          have HL1 := hide hL1
          clear hL1
          have HO1 := hide (HO.out.yes y)
          have hvr2 := cell0 HO1.out.o.var
          clear hvr hbx hmf
          cases y with
          | true =>
            obtain ⟨hyl, hyv⟩ : ∃ h : k < ys.length, ys[k] = true := by
              rcases hy with h | ⟨_, h⟩
              · exact h
              · cases h
            have hyi : (k : Int) < (ys.length : Int) := by omega
            obtain ⟨by1, oy1, rfl, _, hyc1⟩ := hyc k hyl
            rw [hyv] at hyc1
            clear hyc hy hyv hyl
            go_wp2_with fail
            refine (HF.out _ _ HO1.out).mono ?_
            rintro x w5 hout
            rcases hout with ⟨_, rfl, W, ⟨gb3, hgb3, ho3⟩, rfl⟩ | ⟨h, _⟩
            case inr => cases h
            have HO3 := hide ho3.drew
            clear ho3 hgb3 hvr2 hyc1 hvy cy fy HO1 HO HF
            generalize W.drew = X5 at *
            have c1 := cell0 HO3.out.c.a1
            have c2 := cell0 HO3.out.c.a2
            have c3 := cell0 HO3.out.c.a3
            have c4 := cell0 HO3.out.c.a4
            have c5 := HQ.out X5 (ss.lies_of_own HO3.out.o.row)
            rw [HLF.out] at c3
            have HNM := hide (fun X (hX : Below w.heap.size w X) => errw.num_7 X e (HEW.out X hX))
            go_wp2_with fail
            first | go_region | go_quiet (fail)
            have HO4 := hide HO3.out.drew
            clear c1 c2 c3 c4 c5 HO3
            generalize X5.drew = X6 at *
            have c4 := cell0 HO4.out.c.a4
            go_wp2_with fail
            refine (HNM.out _ HO4.out.o.low).mono ?_
            rintro x w6 ⟨rfl, h6⟩
            obtain rfl := h6.symm
            clear h6
            go_wp2_with fail
            go_roundw
            case rel => exact ⟨k + 1, gb3, I, _, true, by omega, by go_num, (by have := HO4.out; rw [HL1.out]; exact this)⟩
            case measure => simp [intOf]; omega
          | false =>
            have hyw : (∃ (h : k < ys.length) (b1 o1 : Nat), oy = some ⟨b1, o1, none⟩ ∧ wr.cell? ⟨b1, o1 + k, none⟩ = some (.bool false)) ∨ ¬ k < ys.length := by
              rcases hy with ⟨h, hv⟩ | ⟨h, _⟩
              · obtain ⟨b1, o1, ho1, _, hc1⟩ := hyc k h
                rw [hv] at hc1
                exact Or.inl ⟨h, b1, o1, ho1, hc1⟩
              · exact Or.inr h
            clear hyc hy
            rcases hyw with ⟨hyl, by1, oy1, rfl, hyc1⟩ | hyl
            · have hyi : (k : Int) < (ys.length : Int) := by omega
              clear hyl
              go_wp2_with fail
              refine (HF.out _ _ HO1.out).mono ?_
              rintro x w5 hout
              rcases hout with ⟨h, _⟩ | ⟨_, rfl, gb3, hgb3, ho3⟩
              case inl => cases h
              have HO3 := hide ho3
              clear ho3 hgb3 hvr2 hyc1 hvy cy fy HO1 HO HF
              have c1 := cell0 HO3.out.c.a1
              have c2 := cell0 HO3.out.c.a2
              have c3 := cell0 HO3.out.c.a3
              have c4 := cell0 HO3.out.c.a4
              have c5 := HQ.out w5 (ss.lies_of_own HO3.out.o.row)
              rw [HLF.out] at c3
              go_wp2_with fail
              first | go_region | go_quiet (fail)
              have HO4 := hide HO3.out.drew
              clear c1 c2 c3 c4 c5 HO3
              generalize w5.drew = X6 at *
              have c4 := cell0 HO4.out.c.a4
              have c5 := HQ.out X6 (ss.lies_of_own HO4.out.o.row)
              go_wp2_with fail
              go_roundw
              case rel => exact ⟨k + 1, gb3, I, _, false, by omega, by go_num, (by have := HO4.out; rw [HL1.out]; exact this)⟩
              case measure => simp [intOf]; omega
            · have hyi : ¬ (k : Int) < (ys.length : Int) := by omega
              clear hyl
              go_wp2_with fail
              refine (HF.out _ _ HO1.out).mono ?_
              rintro x w5 hout
              rcases hout with ⟨h, _⟩ | ⟨_, rfl, gb3, hgb3, ho3⟩
              case inl => cases h
              have HO3 := hide ho3
              clear ho3 hgb3 hvr2 hvy cy fy HO1 HO HF
              have c1 := cell0 HO3.out.c.a1
              have c2 := cell0 HO3.out.c.a2
              have c3 := cell0 HO3.out.c.a3
              have c4 := cell0 HO3.out.c.a4
              have c5 := HQ.out w5 (ss.lies_of_own HO3.out.o.row)
              rw [HLF.out] at c3
              go_wp2_with fail
              first | go_region | go_quiet (fail)
              have HO4 := hide HO3.out.drew
              clear c1 c2 c3 c4 c5 HO3
              generalize w5.drew = X6 at *
              have c4 := cell0 HO4.out.c.a4
              have c5 := HQ.out X6 (ss.lies_of_own HO4.out.o.row)
              go_wp2_with fail
              go_roundw
              case rel => exact ⟨k + 1, gb3, I, _, false, by omega, by go_num, (by have := HO4.out; rw [HL1.out]; exact this)⟩
              case measure => simp [intOf]; omega
        · obtain rfl : k = K.length := by omega
          have hnil : (rawL K).drop K.length = [] := List.drop_eq_nil_of_le (by simp [rawL])
          rw [hnil] at ho
          have HO := hide ho
          have HF := hide (fresh_dry wr _ gb2 (.func (.func 8) #[] #[ptr N, ptr (N + 1), ptr (w.heap.size + 2), ptr (N + 2), ptr (N + 3)]) (e 6) ho.o.src ((HE.out.below ho.o.low).cell 6 (by decide)))
          have HOd := hide ho.drew
          have HNM := hide (errw.num_6 wr.drew e (HE.out.below ho.drew.o.low))
          have HLT := hide (left_any wr.drew _ gb2 [] ho.drew.o.src)
          have hvr := cell0 ho.o.var
          clear hnil ho hbx hmf
          go_wp2_with fail
          refine HF.out.mono ?_
          rintro x w5 ⟨rfl, h5⟩
          subst h5
          clear hvr
          generalize wr.drew = X5 at *
          have hvr := cell0 HOd.out.o.var
          have c1 := cell0 HOd.out.c.a1
          go_wp2_with fail
          refine HNM.out.mono ?_
          rintro x w6 ⟨rfl, h6⟩
          obtain rfl := h6.symm
          clear h6
          go_wp2_with fail
          refine HLT.out.mono ?_
          rintro x w7 ⟨rfl, h7⟩
          obtain rfl := h7.symm
          clear h7
          go_wp2
          go_ret
          exact ⟨by simp, HOd.out.o.low⟩

end Go.Proofs.YtpfamgahnphceaaDoor.pk
