import Derived.Test.YtkkgngmhdlmgnaaDoorReadWalk10
import Derived.Defers
import Derived.Recover
namespace Go.Proofs.YtkkgngmhdlmgnaaDoor.jw
open Go.ChangeShapes Go.WideShapes Go.ChangeAt Go.RowKit Go.Proofs.YtkkgngmhdlmgnaaDoor.common
attribute [local go_sem ↓] Go.wp_at_zero Go.wp_at_succ

set_option maxRecDepth 100000 in
set_option maxHeartbeats 1600000 in
theorem catch_panicking (M E : Nat) (hME : ¬ M = E) (ea : Addr) (u : TypeId) (pv : Value) (older : List PanicEntry) (w : World) (x y : Value) (hx : w.cell? ⟨M, 0, none⟩ = some x) (hxf : w.frozen? ⟨M, 0, none⟩ = false) (hy : w.cell? ⟨E, 0, none⟩ = some y) (hyf : w.frozen? ⟨E, 0, none⟩ = false) (he : Txt w ea) :
    CallsD Tryd.prog 17 #[.pointer (some ⟨M, 0, none⟩), .pointer (some ⟨E, 0, none⟩)] (.panicking ({ v := .iface u pv, recovered := false } :: older)) w fun e u' w' =>
      e = .returned (.tuple #[]) ∧ u' = .panicking ({ v := .iface u pv, recovered := true } :: older) ∧ w' = ((w.setCell ⟨M, 0, none⟩ (.slice none 0 0)).setCell ⟨E, 0, none⟩ (X ea)) := by
  refine callsD_of_wpS Tryd.func17 rfl fun c₀ cs hu => ?_
  apply wpS_seq
  apply wpS_region
  simp [wpOpsS, go_sem, recoverD, hu, Tryd.ntmps17, Exit.thenS]
  refine wpS_cond (t := true) (by simp [Act.eval, Array.replicate]) ?_
  simp only [if_true]
  unfold Txt at he
  have hy2 : (w.setCell ⟨M, 0, none⟩ (.slice none 0 0)).cell? ⟨E, 0, none⟩ = some y := by
    rw [World.cell?_setCell_other _ _ _ _ (fun h => hME (congrArg Addr.block h))]; exact hy
  clear hy
  apply wpS_region
  simp [wpOpsS, go_sem, he, hx, hxf, hy2, hyf, bodyPostS, results, Tryd.results17]

set_option maxRecDepth 100000 in
theorem catch_idle (p q : Value) (w : World) :
    CallsD Tryd.prog 17 #[p, q] .returning w fun e u' w' => e = .returned (.tuple #[]) ∧ u' = .returning ∧ w' = w := by
  refine callsD_of_wpS Tryd.func17 rfl fun c₀ cs hu => ?_
  apply wpS_seq
  apply wpS_region
  simp [wpOpsS, go_sem, recoverD, hu, Tryd.ntmps17, Exit.thenS]
  refine wpS_cond (t := false) (by simp [Act.eval, Array.replicate]) ?_
  simp only [Bool.false_eq_true, if_false]
  refine wpS_of_wp (wp_skip ?_)
  cases c₀
  simp_all [bodyPostS, results, Tryd.results17]

theorem two_set (U : World) (M E : Nat) (x y a b : Value) (hne : M ≠ E) (hx : U.cell? ⟨M, 0, none⟩ = some a) (hy : U.cell? ⟨E, 0, none⟩ = some b) :
    ((U.setCell ⟨M, 0, none⟩ x).setCell ⟨E, 0, none⟩ y).cell? ⟨M, 0, none⟩ = some x ∧ ((U.setCell ⟨M, 0, none⟩ x).setCell ⟨E, 0, none⟩ y).cell? ⟨E, 0, none⟩ = some y := by
  have h1 : (U.setCell ⟨M, 0, none⟩ x).cell? ⟨E, 0, none⟩ = some b := by rw [World.cell?_setCell_other _ _ _ _ (fun h => hne (congrArg Addr.block h))]; exact hy
  refine ⟨?_, World.cell?_setCell_same _ _ _ h1⟩
  rw [World.cell?_setCell_other _ _ _ _ (fun h => hne (congrArg Addr.block h).symm)]
  exact World.cell?_setCell_same _ _ _ hx
theorem two_below {w U : World} (h : Below w.heap.size w U) (x y : Value) : Below w.heap.size w ((U.setCell ⟨w.heap.size, 0, none⟩ x).setCell ⟨w.heap.size + 1, 0, none⟩ y) :=
  (h.setCell (p := ⟨w.heap.size, 0, none⟩) (Nat.le_refl _) _).setCell (p := ⟨w.heap.size + 1, 0, none⟩) (Nat.le_succ _) _
theorem own_two {U : World} {M b b' : Nat} {t : TypeId} {v : Value} {n : Nat} {xs : List Value} (h : U.ownsRow b t 5 v n xs) (h1 : M + 1 < b) (h2 : b' ≤ b) (x y : Value) : ((U.setCell ⟨M, 0, none⟩ x).setCell ⟨M + 1, 0, none⟩ y).ownsRow b' t 5 v n xs := by
  refine ⟨h.1, ?_⟩
  rcases h.2 with hn | ⟨g, cap, cur, hv, hg, hh, rest⟩
  · exact .inl hn
  · refine .inr ⟨g, cap, cur, hv, by omega, ?_, rest⟩
    rw [Below.heap_setCell _ ⟨M + 1, 0, none⟩ _ g (by show g ≠ M + 1; omega), Below.heap_setCell _ ⟨M, 0, none⟩ _ g (by show g ≠ M; omega)]
    exact hh
theorem own_below' {w w' : World} {b : Nat} {t : TypeId} {z : Nat} {v : Value} {n : Nat} {xs : List Value} (h : w.ownsRow b t z v n xs) (hb : Below w.heap.size w w') : w'.ownsRow b t z v n xs := by
  refine ⟨h.1, ?_⟩
  rcases h.2 with hn | ⟨g, cap, cur, hv, hg, hh, rest⟩
  · exact .inl hn
  · refine .inr ⟨g, cap, cur, hv, hg, ?_, rest⟩
    rw [hb.block g (Array.getElem?_eq_some_iff.1 hh).1]; exact hh
theorem Env.raise {w : World} {r r' : Nat} {ea : Addr} (h : Env w r ea) (hr : r ≤ r') : Env w r' ea := by
  obtain ⟨l1, l2, l3, l4, l5, l6⟩ := h.lt
  exact ⟨h.txt, h.short, h.tabs, h.syn, h.rng, ⟨by omega, by omega, by omega, by omega, by omega, by omega⟩⟩
/-- what Read answers -/
def RAns (e : Nat → Addr) (b : Nat) (l : List UInt8) (x : Ending) (w' : World) : Prop :=
  ∃ mv, x = .returned (.tuple #[mv, errV e (Json.read l).1]) ∧ w'.ownsRow b 37 5 mv (Json.read l).2.length (cms (Json.read l).2)

set_option maxRecDepth 100000 in
set_option maxHeartbeats 3200000 in
theorem read_any (s : ByteArray) (w : World) (hs : s.size ≤ reachBytes) (e : Nat → Addr) (he : Four w e) (hS : Short w) (hT : Tabs w) (hsy : ∃ te pe, w.cell? ⟨20, 0, none⟩ = some (.iface te pe)) (hrg : ∃ te pe, w.cell? ⟨21, 0, none⟩ = some (.iface te pe)) :
    Calls Tryd.prog 6 #[.string s] w fun x w' => RAns e w.heap.size s.data.toList x w' ∧ Below w.heap.size w w' := by
  have hmf : ∀ (fn : Fn) (first cap : Array Value) (w : World), (Instr.makeFunc fn first cap).run Tryd.prog w = .ok (.func fn first cap) w := fun _ _ _ _ => rfl
  have hlt1 : Hid (1 < w.heap.size ∧ 17 < w.heap.size ∧ 14 < w.heap.size ∧ 15 < w.heap.size ∧ 20 < w.heap.size ∧ 21 < w.heap.size) := by
    obtain ⟨te, pe, h1⟩ := hsy
    obtain ⟨tr, pr, h2⟩ := hrg
    exact ⟨World.block_lt_of_cell? w _ he.text, hS.lt, (tabs_lt hT).1, (tabs_lt hT).2, World.block_lt_of_cell? w _ h1, World.block_lt_of_cell? w _ h2⟩
  have henv : Env w w.heap.size (e 1) := ⟨he.text, hS, hT, hsy, hrg, hlt1.out⟩
  have HF := hide he
  -- the three blocks
  have hB0 : Below w.heap.size w (((w.alloc (.cells #[.slice none 0 0] 22)).alloc (.cells #[.nilIface] 24)).alloc (.cells #[.string s, .int .i64 0, .slice none 0 0, .int .i64 0] 52)) :=
    (((Below.refl w.heap.size w).alloc (Nat.le_refl _) _).alloc (by simp) _).alloc (by simp; omega) _
  have hR0 : Rd (((w.alloc (.cells #[.slice none 0 0] 22)).alloc (.cells #[.nilIface] 24)).alloc (.cells #[.string s, .int .i64 0, .slice none 0 0, .int .i64 0] 52)) (w.heap.size + 1 + 1) s 0 (.slice none 0 0) 0 := by
    have := heap_alloc_new ((w.alloc (.cells #[.slice none 0 0] 22)).alloc (.cells #[.nilIface] 24)) (.cells #[.string s, .int .i64 0, .slice none 0 0, .int .i64 0] 52)
    simp only [World.size_alloc] at this
    exact this
  have hM0 : (((w.alloc (.cells #[.slice none 0 0] 22)).alloc (.cells #[.nilIface] 24)).alloc (.cells #[.string s, .int .i64 0, .slice none 0 0, .int .i64 0] 52)).heap[w.heap.size]? = some (.cells #[.slice none 0 0] 22) := by
    rw [Below.heap_alloc _ _ _ (by simp; omega), Below.heap_alloc _ _ _ (by simp)]; exact heap_alloc_new w _
  have hE0 : (((w.alloc (.cells #[.slice none 0 0] 22)).alloc (.cells #[.nilIface] 24)).alloc (.cells #[.string s, .int .i64 0, .slice none 0 0, .int .i64 0] 52)).heap[w.heap.size + 1]? = some (.cells #[.nilIface] 24) := by
    rw [Below.heap_alloc _ _ _ (by simp)]
    have := heap_alloc_new (w.alloc (.cells #[.slice none 0 0] 22)) (.cells #[.nilIface] 24)
    simp only [World.size_alloc] at this
    exact this
  have hsz0 : w.heap.size + 1 + 1 + 1 ≤ (((w.alloc (.cells #[.slice none 0 0] 22)).alloc (.cells #[.nilIface] 24)).alloc (.cells #[.string s, .int .i64 0, .slice none 0 0, .int .i64 0] 52)).heap.size := by simp
  have henv0 := (henv.next hB0).raise (r' := w.heap.size + 1 + 1) (by omega)
  have HLT := hlt1
  clear he hS hT hsy hrg hlt1 henv
  obtain ⟨o, ho⟩ : ∃ o, Json.object s.data.toList = o := ⟨_, rfl⟩
  obtain ⟨A, hA⟩ : ∃ A, Json.read s.data.toList = A := ⟨_, rfl⟩
  unfold RAns
  rw [hA]
  unfold Json.read at hA
  rw [ho] at hA
  have HAns := hide hA
  clear hA
  have HB0 := hide hB0
  have HR0 := hide hR0
  have HM0 := hide hM0
  have HE0 := hide hE0
  have HEnv := hide henv0
  have HSZ := hide hsz0
  clear hB0 hR0 hM0 hE0 henv0 hsz0
  go_enter_defers Tryd.func6, Tryd.ntmps6
  go_wp2_with fail
  generalize ((w.alloc (.cells #[.slice none 0 0] 22)).alloc (.cells #[.nilIface] 24)).alloc (.cells #[.string s, .int .i64 0, .slice none 0 0, .int .i64 0] 52) = W0 at *
  refine (objectR_any (w.heap.size + 1 + 1) (w.heap.size + 1 + 1 + 1) s (e 1) W0 hs (by omega) HSZ.out HR0.out HEnv.out).mono ?_
  rw [ho]
  rintro x w1 ⟨hb1, (⟨ms, a', mv, ho1, rfl, hr1, hm1⟩ | ⟨ho1, rfl⟩)⟩
  · obtain ⟨oa, ln, cap, rfl⟩ : ∃ oa ln cap, mv = .slice oa ln cap := by
      rcases hm1.2 with ⟨hv, _⟩ | ⟨g, cap, cur, hv, _⟩
      · exact ⟨none, 0, 0, hv⟩
      · exact ⟨_, _, cap, hv⟩
    have HB1 := hide hb1
    have HR1 := hide hr1
    have HM1 := hide hm1
    have hAA := HAns.out
    rw [ho1] at hAA
    simp only at hAA
    have hM1 : w1.heap[w.heap.size]? = some (.cells #[.slice none 0 0] 22) := (hb1.block _ (by omega)).trans HM0.out
    have hE1 : w1.heap[w.heap.size + 1]? = some (.cells #[.nilIface] 24) := (hb1.block _ (by omega)).trans HE0.out
    have m0 : w1.cell? ⟨w.heap.size, 0, none⟩ = some (.slice none 0 0) := by simp [World.cell?, hM1]
    have mf : w1.frozen? ⟨w.heap.size, 0, none⟩ = false := by simp [World.frozen?, hM1]
    have e0 : w1.cell? ⟨w.heap.size + 1, 0, none⟩ = some .nilIface := by simp [World.cell?, hE1]
    have ef : w1.frozen? ⟨w.heap.size + 1, 0, none⟩ = false := by simp [World.frozen?, hE1]
    have c2 := hr1.c2
    have c3 := hr1.c3
    have HM2 := hide hM1
    have HE2 := hide hE1
    have HBW : Hid (Below w.heap.size w w1) := HB0.out.trans (hb1.mono (by omega))
    have hF1 := HF.out.below HBW.out
    have cm := hF1.many
    have ct := hF1.twice
    clear ho1 hb1 hr1 hm1 hM1 hE1 hF1
    obtain ⟨N, hN⟩ : ∃ N : Int, (ms.length : Int) = N := ⟨_, rfl⟩
    rw [hN] at c3
    have HN := hide hN
    have HMS := hide m0
    have hset : ∀ (v : Value) (p : Addr), p.block ≠ w.heap.size → (w1.setCell ⟨w.heap.size, 0, none⟩ v).cell? p = w1.cell? p := fun v p h => World.cell?_setCell_other _ _ _ _ (fun e => h (by rw [← e]))
    have hGm : 2 ≠ w.heap.size := Nat.ne_of_lt (World.block_lt_of_cell? w _ HF.out.many)
    have hGt : 3 ≠ w.heap.size := Nat.ne_of_lt (World.block_lt_of_cell? w _ HF.out.twice)
    have HSET := hide hset
    have HGM := hide hGm
    have HGT := hide hGt
    clear hset hGm hGt
    by_cases h32 : 32 < ms.length
    · have k32 : (32 : Int) < N := by omega
      rw [if_pos h32] at hAA
      have HA2 := hide hAA
      clear hAA h32 hN ct
      have cm2 : (w1.setCell ⟨w.heap.size, 0, none⟩ (.slice none 0 0)).cell? ⟨2, 0, none⟩ = some (X (e 2)) := (HSET.out _ _ HGM.out).trans cm
      go_wp2
      go_region
      go_wp2
      obtain ⟨p0, p1⟩ := two_set w1 w.heap.size (w.heap.size + 1) (.slice none 0 0) (X (e 2)) _ _ (by omega) m0 e0
      have HBF := hide (two_below HBW.out (.slice none 0 0) (X (e 2)))
      skip
      generalize (w1.setCell ⟨w.heap.size, 0, none⟩ (.slice none 0 0)).setCell ⟨w.heap.size + 1, 0, none⟩ (X (e 2)) = WF at *
      refine leaves_cons (f := 17) (args := #[.pointer (some ⟨w.heap.size, 0, none⟩), .pointer (some ⟨w.heap.size + 1, 0, none⟩)]) (by simp) (by simp [go_sem]) ?_
      refine (catch_idle _ _ _).mono ?_
      rintro x u' w9 ⟨rfl, rfl, rfl⟩
      simp only [Leaves, settle]
      refine ⟨.tuple #[(.slice none 0 0), (X (e 2))], ?_, ⟨(.slice none 0 0), ?_, ?_⟩, ?_⟩
      · simp [results, Tryd.results6, go_sem, p0, p1]
      · rw [← HA2.out]; rfl
      · rw [← HA2.out]; exact World.ownsRow_nil _ _ _ _
      · exact HBF.out.drew
    · have k32 : ¬ (32 : Int) < N := by omega
      rw [if_neg h32] at hAA
      have htk : ms.take 32 = ms := List.take_of_length_le (by omega)
      have hm2 := HM1.out
      unfold Mems at hm2
      rw [htk] at hm2
      have HM3 := hide hm2
      have HL := hide (lies_of_own hm2)
      have H32 := hide h32
      clear htk hm2 hN h32
      go_wp2_with fail
      refine (someNameTwice_any _ ms w1 HL.out (by have := H32.out; omega)).mono ?_
      rintro x w2 ⟨rfl, hb2⟩
      have HBW2 := hide (HBW.out.trans (hb2.mono HBW.out.size))
      have m2 : w2.cell? ⟨w.heap.size, 0, none⟩ = some (.slice none 0 0) := by
        rw [← HMS.out]; exact hb2.cell (World.block_lt_of_cell? w1 _ HMS.out)
      have m2f : w2.frozen? ⟨w.heap.size, 0, none⟩ = false := by
        have h := (hb2.block w.heap.size (World.block_lt_of_cell? w1 _ HMS.out)).trans HM2.out
        simp [World.frozen?, h]
      have e2 : w2.cell? ⟨w.heap.size + 1, 0, none⟩ = some .nilIface := by
        rw [← e0]; exact hb2.cell (World.block_lt_of_cell? w1 _ e0)
      have e2f : w2.frozen? ⟨w.heap.size + 1, 0, none⟩ = false := by
        have h := (hb2.block (w.heap.size + 1) (World.block_lt_of_cell? w1 _ e0)).trans HE2.out
        simp [World.frozen?, h]
      have ct2 : w2.cell? ⟨3, 0, none⟩ = some (X (e 3)) := (HF.out.below HBW2.out).twice
      have ct3 : (w2.setCell ⟨w.heap.size, 0, none⟩ (.slice none 0 0)).cell? ⟨3, 0, none⟩ = some (X (e 3)) := by
        rw [World.cell?_setCell_other _ _ _ _ (fun h => HGT.out (congrArg Addr.block h).symm)]; exact ct2
      have cr2 : w2.cell? ⟨w.heap.size + 1 + 1, 2, none⟩ = some (.slice oa ln cap) := (HR1.out.below hb2).c2
      have cr3 : (w2.setCell ⟨w.heap.size + 1, 0, none⟩ .nilIface).cell? ⟨w.heap.size + 1 + 1, 2, none⟩ = some (.slice oa ln cap) := by
        rw [World.cell?_setCell_other _ _ _ _ (fun h => by have := congrArg Addr.block h; simp at this)]; exact cr2
      have HO2 := hide (own_below' HM3.out hb2)
      clear hb2 c2 c3 m0 mf e0 ef cm ct
      by_cases ht : Json.twice ms = true
      · rw [if_pos ht] at hAA
        have HA2 := hide hAA
        rw [ht]
        clear hAA ht cr2 cr3
        go_wp2
        go_region
        go_wp2
        obtain ⟨p0, p1⟩ := two_set w2 w.heap.size (w.heap.size + 1) (.slice none 0 0) (X (e 3)) _ _ (by omega) m2 e2
        have HBF := hide (two_below HBW2.out (.slice none 0 0) (X (e 3)))
        skip
        generalize (w2.setCell ⟨w.heap.size, 0, none⟩ (.slice none 0 0)).setCell ⟨w.heap.size + 1, 0, none⟩ (X (e 3)) = WF at *
        refine leaves_cons (f := 17) (args := #[.pointer (some ⟨w.heap.size, 0, none⟩), .pointer (some ⟨w.heap.size + 1, 0, none⟩)]) (by simp) (by simp [go_sem]) ?_
        refine (catch_idle _ _ _).mono ?_
        rintro x u' w9 ⟨rfl, rfl, rfl⟩
        simp only [Leaves, settle]
        refine ⟨.tuple #[(.slice none 0 0), (X (e 3))], ?_, ⟨(.slice none 0 0), ?_, ?_⟩, ?_⟩
        · simp [results, Tryd.results6, go_sem, p0, p1]
        · rw [← HA2.out]; rfl
        · rw [← HA2.out]; exact World.ownsRow_nil _ _ _ _
        · exact HBF.out.drew
      · rw [if_neg ht] at hAA
        have HA2 := hide hAA
        have ht : Json.twice ms = false := by simpa using ht
        rw [ht]
        clear hAA ht ct2 ct3
        go_wp2
        obtain ⟨p0, p1⟩ := two_set w2 w.heap.size (w.heap.size + 1) (.slice oa ln cap) .nilIface _ _ (by omega) m2 e2
        have HBF := hide (two_below HBW2.out (.slice oa ln cap) .nilIface)
        have HOF := hide (own_two (M := w.heap.size) HO2.out (by omega) (b' := w.heap.size) (by omega) (.slice oa ln cap) .nilIface)
        generalize (w2.setCell ⟨w.heap.size, 0, none⟩ (.slice oa ln cap)).setCell ⟨w.heap.size + 1, 0, none⟩ .nilIface = WF at *
        refine leaves_cons (f := 17) (args := #[.pointer (some ⟨w.heap.size, 0, none⟩), .pointer (some ⟨w.heap.size + 1, 0, none⟩)]) (by simp) (by simp [go_sem]) ?_
        refine (catch_idle _ _ _).mono ?_
        rintro x u' w9 ⟨rfl, rfl, rfl⟩
        simp only [Leaves, settle]
        refine ⟨.tuple #[(.slice oa ln cap), .nilIface], ?_, ⟨(.slice oa ln cap), ?_, ?_⟩, ?_⟩
        · simp [results, Tryd.results6, go_sem, p0, p1]
        · rw [← HA2.out]; rfl
        · rw [← HA2.out]; exact HOF.out
        · exact HBF.out
  · have HB1 := hide hb1
    have hAA := HAns.out
    rw [ho1] at hAA
    have HA2 := hide hAA
    have hM1 : w1.heap[w.heap.size]? = some (.cells #[.slice none 0 0] 22) := (hb1.block _ (by omega)).trans HM0.out
    have hE1 : w1.heap[w.heap.size + 1]? = some (.cells #[.nilIface] 24) := (hb1.block _ (by omega)).trans HE0.out
    have m0 : w1.cell? ⟨w.heap.size, 0, none⟩ = some (.slice none 0 0) := by simp [World.cell?, hM1]
    have mf : w1.frozen? ⟨w.heap.size, 0, none⟩ = false := by simp [World.frozen?, hM1]
    have e0 : w1.cell? ⟨w.heap.size + 1, 0, none⟩ = some .nilIface := by simp [World.cell?, hE1]
    have ef : w1.frozen? ⟨w.heap.size + 1, 0, none⟩ = false := by simp [World.frozen?, hE1]
    have HBW : Hid (Below w.heap.size w w1) := HB0.out.trans (hb1.mono (by omega))
    have HTX : Hid (Txt w1 (e 1)) := (HF.out.below HBW.out).text
    clear ho1 hb1 hM1 hE1 hAA
    go_wp2
    refine leaves_cons (f := 17) (args := #[.pointer (some ⟨w.heap.size, 0, none⟩), .pointer (some ⟨w.heap.size + 1, 0, none⟩)]) (by simp) (by simp [go_sem]) ?_
    refine (catch_panicking w.heap.size (w.heap.size + 1) (by omega) (e 1) _ _ [] _ _ _ m0 mf e0 ef HTX.out).mono ?_
    rintro x u' w9 ⟨rfl, rfl, rfl⟩
    obtain ⟨p0, p1⟩ := two_set w1 w.heap.size (w.heap.size + 1) (.slice none 0 0) (X (e 1)) _ _ (by omega) m0 e0
    have HBF := hide (two_below HBW.out (.slice none 0 0) (X (e 1)))
    generalize (w1.setCell ⟨w.heap.size, 0, none⟩ (.slice none 0 0)).setCell ⟨w.heap.size + 1, 0, none⟩ (X (e 1)) = WF at *
    show Leaves _ _ _ _ [] .returning WF
    simp only [Leaves]
    refine ⟨.tuple #[.slice none 0 0, X (e 1)], ?_, ⟨.slice none 0 0, ?_, ?_⟩, ?_⟩
    · simp [results, Tryd.results6, go_sem, p0, p1]
    · rw [← HA2.out]; rfl
    · rw [← HA2.out]; exact World.ownsRow_nil _ _ _ _
    · exact HBF.out
end Go.Proofs.YtkkgngmhdlmgnaaDoor.jw
