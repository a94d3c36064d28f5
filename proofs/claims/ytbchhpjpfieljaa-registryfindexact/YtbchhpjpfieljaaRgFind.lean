import Derived.Test.YtbchhpjpfieljaaRgSame
import Derived.Test.YtbchhpjpfieljaaStrHas
import Derived.Lib.LazyBuf
namespace Go.Proofs.Ytbchhpjpfieljaa.rg
open Go.ChangeShapes Go.WideShapes Go.ChangeAt Go.RowKit Go.Proofs.Ytbchhpjpfieljaa.common Go.Proofs.Ytbchhpjpfieljaa.bk Go.Maps
attribute [local go_sem ↓] Go.wp_at_zero Go.wp_at_succ

theorem nil_eq (w : World) (a : Option Addr) (l c : Nat) : (binOp .eql 31 (.slice a l c) (.slice none 0 0)).run Try.prog w = .ok (.bool a.isNone) w := Go.run_eql_slice_nil w _ _ a l c Try.underlying31

/-- the first client of a name -/
def cliBy (cs : List Cli) (id : ByteArray) : Option Cli := cs.find? fun x => decide (x.id = id)
def usrBy (us : List Usr) (n : ByteArray) : Option Usr := us.find? fun x => decide (x.name = n)
/-- no client, no user -/
def zc : Cli := ⟨⟨#[]⟩, false, ⟨#[]⟩, ⟨#[]⟩, [], []⟩
def zu : Usr := ⟨⟨#[]⟩, ⟨#[]⟩, ⟨#[]⟩⟩
theorem find_at {α : Type} (p : α → Bool) (l : List α) (k : Nat) (h : k < l.length) (h0 : ∀ y ∈ l.take k, p y = false) (h1 : p l[k] = true) : l.find? p = some l[k] := by
  have e : l = l.take k ++ l[k] :: l.drop (k + 1) := by rw [List.getElem_cons_drop, List.take_append_drop]
  have e2 : (l.take k ++ l[k] :: l.drop (k + 1)).find? p = some l[k] := by
    rw [List.find?_append, List.find?_eq_none.2 (by intro y hy; rw [h0 y hy]; decide), List.find?_cons_of_pos h1]
    rfl
  rw [← e] at e2
  exact e2
theorem find_no {α : Type} (p : α → Bool) (l : List α) (h0 : ∀ y ∈ l, p y = false) : l.find? p = none := List.find?_eq_none.2 (by intro y hy; rw [h0 y hy]; decide)
theorem take_step {α : Type} (p : α → Bool) (l : List α) (k : Nat) (h : k < l.length) (h0 : ∀ y ∈ l.take k, p y = false) (h1 : p l[k] = false) : ∀ y ∈ l.take (k + 1), p y = false := by
  rw [List.take_succ_eq_append_getElem h]
  intro y hy
  rcases List.mem_append.1 hy with hy | hy
  · exact h0 y hy
  · simp at hy; subst hy; exact h1

set_option maxRecDepth 100000 in
set_option maxHeartbeats 1600000 in
attribute [local go_sem] nil_eq in
theorem clone_any (w : World) (v : Value) (l : List ByteArray) (hl : ss.Lies w v l) (hs : l.length * 16 ≤ 140737488355328) :
    Calls Try.prog 13 #[v] w fun e w' => ∃ v', e = .returned v' ∧ w'.ownsRow w.heap.size 9 1 v' l.length (ss.sc l) ∧ Below w.heap.size w w' := by
  have HL := hide hl
  obtain ⟨oa, cap, rfl, hc⟩ := hl
  cases oa with
  | none =>
    have h0 : l = [] := by
      cases l with
      | nil => rfl
      | cons x r => obtain ⟨b, o, ho, _⟩ := hc 0 (by simp); cases ho
    subst h0
    clear hc HL
    go_enter Try.func13, Try.ntmps13
    go_wp2_with fail
    go_ret
    exact ⟨_, rfl, World.ownsRow_nil _ _ _ _, Below.refl _ _⟩
  | some ad =>
    clear hc
    have BA : Below w.heap.size w (w.alloc (.cells #[] 9)) := (Below.refl _ _).alloc (Nat.le_refl _) _
    have HBA := hide BA
    have HLA := hide (HL.out.below BA)
    have HE : Hid ((w.alloc (.cells #[] 9)).ownsRow w.heap.size 9 1 (.slice (some ⟨w.heap.size, 0, none⟩) 0 0) ([] : List ByteArray).length (ss.sc [])) := World.ownsRow_lit (base := w.heap.size) (e := 9) (size := 1) w #[] 0 (Nat.le_refl _) (by decide) rfl
    clear BA
    go_enter Try.func13, Try.ntmps13
    go_wp2_with (at_builtin; refine ss.append_strs _ rfl _ _ rfl w.heap.size _ [] rfl HE.out _ l rfl HLA.out ?c3 ?c4 ?c5 ?_)
    case c3 => unfold maxLen; simp; omega
    case c4 => simp; omega
    case c5 => simp
    intro v1 w1 own1 hg1
    have HO := hide own1
    have HB1 := hide (HBA.out.grown hg1 (by simp) (fun k hk => by cases hk; exact Nat.le_refl _))
    clear own1 hg1
    go_wp2_with fail
    go_ret
    exact ⟨_, rfl, HO.out, HB1.out⟩
/- LOOKUPS -/
theorem set_six {w : World} {F : Nat} {t : TypeId} {x0 x1 x2 x3 x4 x5 : Value} (h : w.heap[F]? = some (.cells #[x0, x1, x2, x3, x4, x5] t)) (a0 a1 a2 a3 a4 a5 : Value) : ((((((w.setCell ⟨F, 0, none⟩ a0).setCell ⟨F, 1, none⟩ a1).setCell ⟨F, 2, none⟩ a2).setCell ⟨F, 3, none⟩ a3).setCell ⟨F, 4, none⟩ a4).setCell ⟨F, 5, none⟩ a5).heap[F]? = some (.cells #[a0, a1, a2, a3, a4, a5] t) := by
  have h0 : (w.setCell ⟨F, 0, none⟩ a0).heap[F]? = some (.cells #[a0, x1, x2, x3, x4, x5] t) := set_of h 0 a0
  generalize w.setCell ⟨F, 0, none⟩ a0 = w0 at h0 ⊢
  have h1 : (w0.setCell ⟨F, 1, none⟩ a1).heap[F]? = some (.cells #[a0, a1, x2, x3, x4, x5] t) := set_of h0 1 a1
  generalize w0.setCell ⟨F, 1, none⟩ a1 = w1 at h1 ⊢
  have h2 : (w1.setCell ⟨F, 2, none⟩ a2).heap[F]? = some (.cells #[a0, a1, a2, x3, x4, x5] t) := set_of h1 2 a2
  generalize w1.setCell ⟨F, 2, none⟩ a2 = w2 at h2 ⊢
  have h3 : (w2.setCell ⟨F, 3, none⟩ a3).heap[F]? = some (.cells #[a0, a1, a2, a3, x4, x5] t) := set_of h2 3 a3
  generalize w2.setCell ⟨F, 3, none⟩ a3 = w3 at h3 ⊢
  have h4 : (w3.setCell ⟨F, 4, none⟩ a4).heap[F]? = some (.cells #[a0, a1, a2, a3, a4, x5] t) := set_of h3 4 a4
  generalize w3.setCell ⟨F, 4, none⟩ a4 = w4 at h4 ⊢
  have h5 : (w4.setCell ⟨F, 5, none⟩ a5).heap[F]? = some (.cells #[a0, a1, a2, a3, a4, a5] t) := set_of h4 5 a5
  exact h5
theorem set_trio {w : World} {F : Nat} {t : TypeId} {x0 x1 x2 : Value} (h : w.heap[F]? = some (.cells #[x0, x1, x2] t)) (a0 a1 a2 : Value) : (((w.setCell ⟨F, 0, none⟩ a0).setCell ⟨F, 1, none⟩ a1).setCell ⟨F, 2, none⟩ a2).heap[F]? = some (.cells #[a0, a1, a2] t) := by
  have h0 : (w.setCell ⟨F, 0, none⟩ a0).heap[F]? = some (.cells #[a0, x1, x2] t) := set_of h 0 a0
  generalize w.setCell ⟨F, 0, none⟩ a0 = w0 at h0 ⊢
  have h1 : (w0.setCell ⟨F, 1, none⟩ a1).heap[F]? = some (.cells #[a0, a1, x2] t) := set_of h0 1 a1
  generalize w0.setCell ⟨F, 1, none⟩ a1 = w1 at h1 ⊢
  have h2 : (w1.setCell ⟨F, 2, none⟩ a2).heap[F]? = some (.cells #[a0, a1, a2] t) := set_of h1 2 a2
  exact h2
theorem results_ct {fn : Func} {p t : Tmp} {ty : TypeId} {P : Program} {w : World} {b o : Nat} {cs : List Value} {d : TypeDesc} {u : Value} (h : fn.results = #[.cell p ty, .tmp t]) (tmps : Array Value) (hx : tmps.getD p undef = .pointer (some ⟨b, o, none⟩))
    (hc : w.rangeAt b o cs) (hu : P.underlying ty = some d) (hd : d.isRow = true) (hi : (P.info? ty).map (·.size) = some cs.length) (ht : tmps.getD t undef = u) : (results fn tmps).run P w = .ok (.tuple #[.agg cs.toArray, u]) w := by
  have hx' : tmps[p]?.getD undef = .pointer (some ⟨b, o, none⟩) := by simpa using hx
  have ht' : tmps[t]?.getD undef = u := by simpa using ht
  simp only [results, h]
  simp [hx', ht', asAddr, run_loadVar_mid w b o ty cs d hc hu hd hi]

set_option maxRecDepth 100000 in
set_option maxHeartbeats 3200000 in
theorem findClient_any (w : World) (t : Ten) (vC vU : Value) (cs : List Cli) (id : ByteArray) (hC : LiesC w vC cs) (hcs : cs.length ≤ 4611686018427387904) (hci : ∀ x ∈ cs, x.to.length * 16 ≤ 140737488355328 ∧ x.sc.length * 16 ≤ 140737488355328) :
    Calls Try.prog 5 #[.agg #[.int .i64 t.a0, .int .i64 t.a1, .int .i64 t.a2, .int .i64 t.a3, .int .i64 t.a4, .int .i64 t.a5, .int .i64 t.a6, .int .i64 t.a7, .int .i64 t.a8, .int .i64 t.a9, vC, vU], .string id] w fun e w' => ∃ vR vS, e = .returned (.tuple #[.agg #[.string ((cliBy cs id).getD zc).id, .bool ((cliBy cs id).getD zc).pub, .string ((cliBy cs id).getD zc).salt, .string ((cliBy cs id).getD zc).dig, vR, vS], .bool (cliBy cs id).isSome]) ∧ ss.Lies w' vR ((cliBy cs id).getD zc).to ∧ ss.Lies w' vS ((cliBy cs id).getD zc).sc ∧ Below w.heap.size w w' := by
  obtain ⟨oc, ck, rfl, hCc⟩ := hC
  obtain ⟨_, hR⟩ := heap_two w (.cells #[.int .i64 t.a0, .int .i64 t.a1, .int .i64 t.a2, .int .i64 t.a3, .int .i64 t.a4, .int .i64 t.a5, .int .i64 t.a6, .int .i64 t.a7, .int .i64 t.a8, .int .i64 t.a9, .slice oc cs.length ck, vU] 25) (.cells #[.string ⟨#[]⟩, .bool false, .string ⟨#[]⟩, .string ⟨#[]⟩, .slice none 0 0, .slice none 0 0] 33)
  obtain ⟨hPb, _⟩ := heap_two w (.cells #[.int .i64 t.a0, .int .i64 t.a1, .int .i64 t.a2, .int .i64 t.a3, .int .i64 t.a4, .int .i64 t.a5, .int .i64 t.a6, .int .i64 t.a7, .int .i64 t.a8, .int .i64 t.a9, .slice oc cs.length ck, vU] 25) (.cells #[.string ⟨#[]⟩, .bool false, .string ⟨#[]⟩, .string ⟨#[]⟩, .slice none 0 0, .slice none 0 0] 33)
  have BA : Below w.heap.size w ((w.alloc (.cells #[.int .i64 t.a0, .int .i64 t.a1, .int .i64 t.a2, .int .i64 t.a3, .int .i64 t.a4, .int .i64 t.a5, .int .i64 t.a6, .int .i64 t.a7, .int .i64 t.a8, .int .i64 t.a9, .slice oc cs.length ck, vU] 25)).alloc (.cells #[.string ⟨#[]⟩, .bool false, .string ⟨#[]⟩, .string ⟨#[]⟩, .slice none 0 0, .slice none 0 0] 33)) := ((Below.refl _ _).alloc (Nat.le_refl _) _).alloc (by simp) _
  have HBA := hide BA
  have HR0 := hide hR
  have HP0 := hide hPb
  have HCC := hide hCc
  have HCI := hide hci
  clear BA hR hPb hCc hci
  go_enter Try.func5, Try.ntmps5
  go_wp2_with fail
  go_loopw [11] (fun i wr => ∃ k : Nat, k ≤ cs.length ∧ i = .int .i64 k ∧ Hid (∀ y ∈ cs.take k, decide (y.id = id) = false) ∧ Hid (Below w.heap.size w wr) ∧ Hid (wr.heap[w.heap.size]? = some (.cells #[.int .i64 t.a0, .int .i64 t.a1, .int .i64 t.a2, .int .i64 t.a3, .int .i64 t.a4, .int .i64 t.a5, .int .i64 t.a6, .int .i64 t.a7, .int .i64 t.a8, .int .i64 t.a9, .slice oc cs.length ck, vU] 25)) ∧ Hid (wr.heap[w.heap.size + 1]? = some (.cells #[.string ⟨#[]⟩, .bool false, .string ⟨#[]⟩, .string ⟨#[]⟩, .slice none 0 0, .slice none 0 0] 33))) (fun i _ => cs.length - (intOf i).toNat)
  case atStart => exact ⟨0, Nat.zero_le _, rfl, fun y hy => by simp at hy, HBA, HP0, HR0⟩
  case round =>
    obtain ⟨k, hk, rfl, HN, HB, HP, HR⟩ := hrel
    clear HR0 HP0 HBA
    have hRl := (Array.getElem?_eq_some_iff.1 HR.out).1
    have p0 : wr.cell? ⟨w.heap.size, 10, none⟩ = some (.slice oc cs.length ck) := cell_of HP.out 10
    have r0 : wr.cell? ⟨w.heap.size + 1, 0, none⟩ = some (.string ⟨#[]⟩) := cell_of HR.out 0
    have y0 : wr.frozen? ⟨w.heap.size + 1, 0, none⟩ = false := free_of HR.out 0
    have r1 : wr.cell? ⟨w.heap.size + 1, 0 + 1, none⟩ = some (.bool false) := cell_of HR.out 1
    have y1 : wr.frozen? ⟨w.heap.size + 1, 0 + 1, none⟩ = false := free_of HR.out 1
    have r2 : wr.cell? ⟨w.heap.size + 1, 0 + 2, none⟩ = some (.string ⟨#[]⟩) := cell_of HR.out 2
    have y2 : wr.frozen? ⟨w.heap.size + 1, 0 + 2, none⟩ = false := free_of HR.out 2
    have r3 : wr.cell? ⟨w.heap.size + 1, 0 + 3, none⟩ = some (.string ⟨#[]⟩) := cell_of HR.out 3
    have y3 : wr.frozen? ⟨w.heap.size + 1, 0 + 3, none⟩ = false := free_of HR.out 3
    have r4 : wr.cell? ⟨w.heap.size + 1, 0 + 4, none⟩ = some (.slice none 0 0) := cell_of HR.out 4
    have y4 : wr.frozen? ⟨w.heap.size + 1, 0 + 4, none⟩ = false := free_of HR.out 4
    have r5 : wr.cell? ⟨w.heap.size + 1, 0 + 5, none⟩ = some (.slice none 0 0) := cell_of HR.out 5
    have y5 : wr.frozen? ⟨w.heap.size + 1, 0 + 5, none⟩ = false := free_of HR.out 5
    by_cases hlt : k < cs.length
    · have hki : (k : Int) < (cs.length : Int) := by omega
      have k0 : (0 : Int) ≤ (k : Int) := Int.natCast_nonneg _
      have hil := HCI.out cs[k] (List.getElem_mem hlt)
      have hfc := HCC.out k hlt
      have HFA : Hid (decide (cs[k].id = id) = true → cliBy cs id = some cs[k]) := fun h => find_at _ cs k hlt HN.out h
      have HFN : Hid (decide (cs[k].id = id) = false → ∀ y ∈ cs.take (k + 1), decide (y.id = id) = false) := fun h => take_step _ cs k hlt HN.out h
      obtain ⟨X, hXe⟩ : ∃ X, cs[k] = X := ⟨_, rfl⟩
      rw [hXe] at hil hfc HFA HFN
      clear hXe
      obtain ⟨xi, xp, xs, xd, xt, xc⟩ := X
      simp only at hil
      obtain ⟨bl, o, vR, vS, ho, hbl, hcat⟩ := hfc
      cases ho
      obtain ⟨e0, e1, e2, e3, e4, e5, hT0, hS0⟩ := hcat
      simp only at e0 e1 e2 e3 e4 e5 hT0 hS0
      have d0 := (HB.out.cell (p := ⟨bl, o + k * 6, none⟩) hbl).trans e0
      have d1 := (HB.out.cell (p := ⟨bl, o + k * 6 + 1, none⟩) hbl).trans e1
      have d2 := (HB.out.cell (p := ⟨bl, o + k * 6 + 2, none⟩) hbl).trans e2
      have d3 := (HB.out.cell (p := ⟨bl, o + k * 6 + 3, none⟩) hbl).trans e3
      have d4 := (HB.out.cell (p := ⟨bl, o + k * 6 + 4, none⟩) hbl).trans e4
      have d5 := (HB.out.cell (p := ⟨bl, o + k * 6 + 5, none⟩) hbl).trans e5
      have HT0 := hide hT0
      have HS0 := hide hS0
      obtain ⟨oR, cR, rfl, _⟩ := hT0
      obtain ⟨oS, cS, rfl, _⟩ := hS0
      clear e0 e1 e2 e3 e4 e5
      have BV : Below wr.heap.size wr (wr.alloc (.cells #[.string xi, .bool xp, .string xs, .string xd, .slice oR xt.length cR, .slice oS xc.length cS] 33)) := (Below.refl _ _).alloc (Nat.le_refl _) _
      have HBV := hide BV
      have HXV := hide (heap_new wr (.cells #[.string xi, .bool xp, .string xs, .string xd, .slice oR xt.length cR, .slice oS xc.length cS] 33))
      have hVz : (wr.alloc (.cells #[.string xi, .bool xp, .string xs, .string xd, .slice oR xt.length cR, .slice oS xc.length cS] 33)).heap.size = wr.heap.size + 1 := by simp
      clear BV
      by_cases he : xi = id
      · subst he
        have HF := hide (HFA.out (decide_eq_true rfl))
        clear HFA HFN
        go_wp2_with fail
        generalize (wr.alloc (.cells #[.string xi, .bool xp, .string xs, .string xd, .slice oR xt.length cR, .slice oS xc.length cS] 33)) = U at *
        refine (clone_any U _ xt ((HT0.out.below HB.out).below HBV.out) hil.1).mono ?_
        rintro e w1 ⟨v1, rfl, own1, b1⟩
        obtain ⟨o1, c1k, rfl⟩ := form_w own1
        have X1 := (b1.block wr.heap.size (by omega)).trans HXV.out
        have x1 : w1.cell? ⟨wr.heap.size, 4, none⟩ = some (.slice oR xt.length cR) := cell_of X1 4
        have y1' : w1.frozen? ⟨wr.heap.size, 4, none⟩ = false := free_of X1 4
        have HX1 : Hid ((w1.setCell ⟨wr.heap.size, 4, none⟩ (.slice o1 xt.length c1k)).heap[wr.heap.size]? = some (.cells #[.string xi, .bool xp, .string xs, .string xd, .slice o1 xt.length c1k, .slice oS xc.length cS] 33)) := set_of X1 4 _
        have x1' : (w1.setCell ⟨wr.heap.size, 4, none⟩ (.slice o1 xt.length c1k)).cell? ⟨wr.heap.size, 5, none⟩ = some (.slice oS xc.length cS) := cell_of HX1.out 5
        have B1 : Below wr.heap.size wr (w1.setCell ⟨wr.heap.size, 4, none⟩ (.slice o1 xt.length c1k)) := (HBV.out.trans (b1.mono HBV.out.size)).setCell (p := ⟨wr.heap.size, 4, none⟩) (Nat.le_refl _) _
        have HO1 := hide (own_off own1 ⟨wr.heap.size, 4, none⟩ (.slice o1 xt.length c1k) (Or.inl (by show wr.heap.size < U.heap.size; omega)))
        have hz1 : wr.heap.size < (w1.setCell ⟨wr.heap.size, 4, none⟩ (.slice o1 xt.length c1k)).heap.size := by rw [size_set]; have := b1.size; omega
        have HB1 := hide B1
        clear own1 b1 X1 B1
        go_wp2_with fail
        generalize (w1.setCell ⟨wr.heap.size, 4, none⟩ (.slice o1 xt.length c1k)) = U1 at *
        refine (clone_any U1 _ xc ((HS0.out.below HB.out).below HB1.out) hil.2).mono ?_
        rintro e w2 ⟨v2, rfl, own2, b2⟩
        obtain ⟨o2, c2k, rfl⟩ := form_w own2
        have X2 := (b2.block wr.heap.size hz1).trans HX1.out
        have x2 : w2.cell? ⟨wr.heap.size, 5, none⟩ = some (.slice oS xc.length cS) := cell_of X2 5
        have y2' : w2.frozen? ⟨wr.heap.size, 5, none⟩ = false := free_of X2 5
        have HX2 : Hid ((w2.setCell ⟨wr.heap.size, 5, none⟩ (.slice o2 xc.length c2k)).heap[wr.heap.size]? = some (.cells #[.string xi, .bool xp, .string xs, .string xd, .slice o1 xt.length c1k, .slice o2 xc.length c2k] 33)) := set_of X2 5 _
        have HRG := hide (range_of (l := [.string xi, .bool xp, .string xs, .string xd, .slice o1 xt.length c1k, .slice o2 xc.length c2k]) HX2.out)
        have HO2 := hide (own_off own2 ⟨wr.heap.size, 5, none⟩ (.slice o2 xc.length c2k) (Or.inl hz1))
        have HO1' := hide (own_off (bk.own_below HO1.out b2) ⟨wr.heap.size, 5, none⟩ (.slice o2 xc.length c2k) (Or.inl (by show wr.heap.size < U.heap.size; omega)))
        have B2 : Below wr.heap.size wr (w2.setCell ⟨wr.heap.size, 5, none⟩ (.slice o2 xc.length c2k)) := (HB1.out.trans (b2.mono HB1.out.size)).setCell (p := ⟨wr.heap.size, 5, none⟩) (Nat.le_refl _) _
        have hR2 := (B2.block _ hRl).trans HR.out
        have HBw := hide (HB.out.trans (B2.mono HB.out.size))
        have HR2 := hide hR2
        clear own2 b2 X2 B2 HO1 r0 y0 r1 y1 r2 y2 r3 y3 r4 y4 r5 y5 d0 d1 d2 d3 d4 d5
        have r0 : (w2.setCell ⟨wr.heap.size, 5, none⟩ (.slice o2 xc.length c2k)).cell? ⟨w.heap.size + 1, 0, none⟩ = some (.string ⟨#[]⟩) := cell_of hR2 0
        have y0 : (w2.setCell ⟨wr.heap.size, 5, none⟩ (.slice o2 xc.length c2k)).frozen? ⟨w.heap.size + 1, 0, none⟩ = false := free_of hR2 0
        have r1 : (w2.setCell ⟨wr.heap.size, 5, none⟩ (.slice o2 xc.length c2k)).cell? ⟨w.heap.size + 1, 0 + 1, none⟩ = some (.bool false) := cell_of hR2 1
        have y1 : (w2.setCell ⟨wr.heap.size, 5, none⟩ (.slice o2 xc.length c2k)).frozen? ⟨w.heap.size + 1, 0 + 1, none⟩ = false := free_of hR2 1
        have r2 : (w2.setCell ⟨wr.heap.size, 5, none⟩ (.slice o2 xc.length c2k)).cell? ⟨w.heap.size + 1, 0 + 2, none⟩ = some (.string ⟨#[]⟩) := cell_of hR2 2
        have y2 : (w2.setCell ⟨wr.heap.size, 5, none⟩ (.slice o2 xc.length c2k)).frozen? ⟨w.heap.size + 1, 0 + 2, none⟩ = false := free_of hR2 2
        have r3 : (w2.setCell ⟨wr.heap.size, 5, none⟩ (.slice o2 xc.length c2k)).cell? ⟨w.heap.size + 1, 0 + 3, none⟩ = some (.string ⟨#[]⟩) := cell_of hR2 3
        have y3 : (w2.setCell ⟨wr.heap.size, 5, none⟩ (.slice o2 xc.length c2k)).frozen? ⟨w.heap.size + 1, 0 + 3, none⟩ = false := free_of hR2 3
        have r4 : (w2.setCell ⟨wr.heap.size, 5, none⟩ (.slice o2 xc.length c2k)).cell? ⟨w.heap.size + 1, 0 + 4, none⟩ = some (.slice none 0 0) := cell_of hR2 4
        have y4 : (w2.setCell ⟨wr.heap.size, 5, none⟩ (.slice o2 xc.length c2k)).frozen? ⟨w.heap.size + 1, 0 + 4, none⟩ = false := free_of hR2 4
        have r5 : (w2.setCell ⟨wr.heap.size, 5, none⟩ (.slice o2 xc.length c2k)).cell? ⟨w.heap.size + 1, 0 + 5, none⟩ = some (.slice none 0 0) := cell_of hR2 5
        have y5 : (w2.setCell ⟨wr.heap.size, 5, none⟩ (.slice o2 xc.length c2k)).frozen? ⟨w.heap.size + 1, 0 + 5, none⟩ = false := free_of hR2 5
        clear hR2
        go_wp2_with (refine wpList_load_mid rfl 33 (.tmp 7) rfl wr.heap.size 0 rfl _ _ HRG.out Try.underlying33 rfl sizeCl ?_)
        have HBz := hide (Below.setCell (Below.setCell (Below.setCell (Below.setCell (Below.setCell (Below.setCell HBw.out (p := ⟨w.heap.size + 1, 0, none⟩) (Nat.le_succ _) (.string xi)) (p := ⟨w.heap.size + 1, 1, none⟩) (Nat.le_succ _) (.bool xp)) (p := ⟨w.heap.size + 1, 2, none⟩) (Nat.le_succ _) (.string xs)) (p := ⟨w.heap.size + 1, 3, none⟩) (Nat.le_succ _) (.string xd)) (p := ⟨w.heap.size + 1, 4, none⟩) (Nat.le_succ _) (.slice o1 xt.length c1k)) (p := ⟨w.heap.size + 1, 5, none⟩) (Nat.le_succ _) (.slice o2 xc.length c2k))
        have HR3 := set_six HR2.out (.string xi) (.bool xp) (.string xs) (.string xd) (.slice o1 xt.length c1k) (.slice o2 xc.length c2k)
        refine bodyPost_ret (results_ct rfl _ rfl (range_of (l := [.string xi, .bool xp, .string xs, .string xd, .slice o1 xt.length c1k, .slice o2 xc.length c2k]) HR3) Try.underlying33 rfl sizeCl rfl) rfl ?_
        rw [HF.out]
        exact ⟨_, _, rfl, ss.lies_of_own (own_off (own_off (own_off (own_off (own_off (own_off HO1'.out ⟨w.heap.size + 1, 0, none⟩ (.string xi) (Or.inl (by show w.heap.size + 1 < _; omega))) ⟨w.heap.size + 1, 1, none⟩ (.bool xp) (Or.inl (by show w.heap.size + 1 < _; omega))) ⟨w.heap.size + 1, 2, none⟩ (.string xs) (Or.inl (by show w.heap.size + 1 < _; omega))) ⟨w.heap.size + 1, 3, none⟩ (.string xd) (Or.inl (by show w.heap.size + 1 < _; omega))) ⟨w.heap.size + 1, 4, none⟩ (.slice o1 xt.length c1k) (Or.inl (by show w.heap.size + 1 < _; omega))) ⟨w.heap.size + 1, 5, none⟩ (.slice o2 xc.length c2k) (Or.inl (by show w.heap.size + 1 < _; omega))), ss.lies_of_own (own_off (own_off (own_off (own_off (own_off (own_off HO2.out ⟨w.heap.size + 1, 0, none⟩ (.string xi) (Or.inl (by show w.heap.size + 1 < _; omega))) ⟨w.heap.size + 1, 1, none⟩ (.bool xp) (Or.inl (by show w.heap.size + 1 < _; omega))) ⟨w.heap.size + 1, 2, none⟩ (.string xs) (Or.inl (by show w.heap.size + 1 < _; omega))) ⟨w.heap.size + 1, 3, none⟩ (.string xd) (Or.inl (by show w.heap.size + 1 < _; omega))) ⟨w.heap.size + 1, 4, none⟩ (.slice o1 xt.length c1k) (Or.inl (by show w.heap.size + 1 < _; omega))) ⟨w.heap.size + 1, 5, none⟩ (.slice o2 xc.length c2k) (Or.inl (by show w.heap.size + 1 < _; omega))), HBz.out⟩
      · have e1 : (xi.toList == id.toList) = false := ne_list he
        have HN1 := hide (HFN.out (decide_eq_false he))
        clear HFA HFN
        go_wp2_with fail
        go_roundw
        case rel => exact ⟨k + 1, by omega, by go_num, HN1, HB.out.alloc HB.out.size _, heap_old _ _ HP.out, heap_old _ _ HR.out⟩
        case measure => simp [intOf]; omega
    · obtain rfl : k = cs.length := by omega
      have HF : Hid (cliBy cs id = none) := find_no _ cs (by have := HN.out; rwa [List.take_length] at this)
      go_wp2_with fail
      have HBz := hide (Below.setCell (Below.setCell (Below.setCell (Below.setCell (Below.setCell (Below.setCell HB.out (p := ⟨w.heap.size + 1, 0, none⟩) (Nat.le_succ _) (.string ⟨#[]⟩)) (p := ⟨w.heap.size + 1, 1, none⟩) (Nat.le_succ _) (.bool false)) (p := ⟨w.heap.size + 1, 2, none⟩) (Nat.le_succ _) (.string ⟨#[]⟩)) (p := ⟨w.heap.size + 1, 3, none⟩) (Nat.le_succ _) (.string ⟨#[]⟩)) (p := ⟨w.heap.size + 1, 4, none⟩) (Nat.le_succ _) (.slice none 0 0)) (p := ⟨w.heap.size + 1, 5, none⟩) (Nat.le_succ _) (.slice none 0 0))
      have HR3 := set_six HR.out (.string ⟨#[]⟩) (.bool false) (.string ⟨#[]⟩) (.string ⟨#[]⟩) (.slice none 0 0) (.slice none 0 0)
      refine bodyPost_ret (results_ct rfl _ rfl (range_of (l := [.string ⟨#[]⟩, .bool false, .string ⟨#[]⟩, .string ⟨#[]⟩, .slice none 0 0, .slice none 0 0]) HR3) Try.underlying33 rfl sizeCl rfl) rfl ?_
      rw [HF.out]
      exact ⟨_, _, rfl, ss.lies_nil _, ss.lies_nil _, HBz.out⟩

set_option maxRecDepth 100000 in
set_option maxHeartbeats 3200000 in
theorem refFindClient_any (w : World) (t : Ten) (vC vU : Value) (cs : List Cli) (id : ByteArray) (hC : LiesC w vC cs) (hcs : cs.length ≤ 4611686018427387904) (hci : ∀ x ∈ cs, x.to.length * 16 ≤ 140737488355328 ∧ x.sc.length * 16 ≤ 140737488355328) :
    Calls Try.prog 6 #[.agg #[.int .i64 t.a0, .int .i64 t.a1, .int .i64 t.a2, .int .i64 t.a3, .int .i64 t.a4, .int .i64 t.a5, .int .i64 t.a6, .int .i64 t.a7, .int .i64 t.a8, .int .i64 t.a9, vC, vU], .string id] w fun e w' => ∃ vR vS, e = .returned (.tuple #[.agg #[.string ((cliBy cs id).getD zc).id, .bool ((cliBy cs id).getD zc).pub, .string ((cliBy cs id).getD zc).salt, .string ((cliBy cs id).getD zc).dig, vR, vS], .bool (cliBy cs id).isSome]) ∧ ss.Lies w' vR ((cliBy cs id).getD zc).to ∧ ss.Lies w' vS ((cliBy cs id).getD zc).sc ∧ Below w.heap.size w w' := by
  obtain ⟨oc, ck, rfl, hCc⟩ := hC
  obtain ⟨_, hR⟩ := heap_two w (.cells #[.int .i64 t.a0, .int .i64 t.a1, .int .i64 t.a2, .int .i64 t.a3, .int .i64 t.a4, .int .i64 t.a5, .int .i64 t.a6, .int .i64 t.a7, .int .i64 t.a8, .int .i64 t.a9, .slice oc cs.length ck, vU] 25) (.cells #[.string ⟨#[]⟩, .bool false, .string ⟨#[]⟩, .string ⟨#[]⟩, .slice none 0 0, .slice none 0 0] 33)
  obtain ⟨hPb, _⟩ := heap_two w (.cells #[.int .i64 t.a0, .int .i64 t.a1, .int .i64 t.a2, .int .i64 t.a3, .int .i64 t.a4, .int .i64 t.a5, .int .i64 t.a6, .int .i64 t.a7, .int .i64 t.a8, .int .i64 t.a9, .slice oc cs.length ck, vU] 25) (.cells #[.string ⟨#[]⟩, .bool false, .string ⟨#[]⟩, .string ⟨#[]⟩, .slice none 0 0, .slice none 0 0] 33)
  have BA : Below w.heap.size w ((w.alloc (.cells #[.int .i64 t.a0, .int .i64 t.a1, .int .i64 t.a2, .int .i64 t.a3, .int .i64 t.a4, .int .i64 t.a5, .int .i64 t.a6, .int .i64 t.a7, .int .i64 t.a8, .int .i64 t.a9, .slice oc cs.length ck, vU] 25)).alloc (.cells #[.string ⟨#[]⟩, .bool false, .string ⟨#[]⟩, .string ⟨#[]⟩, .slice none 0 0, .slice none 0 0] 33)) := ((Below.refl _ _).alloc (Nat.le_refl _) _).alloc (by simp) _
  have HBA := hide BA
  have HR0 := hide hR
  have HP0 := hide hPb
  have HCC := hide hCc
  have HCI := hide hci
  clear BA hR hPb hCc hci
  go_enter Try.func6, Try.ntmps6
  go_wp2_with fail
  go_loopw [6] (fun i wr => ∃ k : Nat, k ≤ cs.length ∧ i = .int .i64 k ∧ Hid (∀ y ∈ cs.take k, decide (y.id = id) = false) ∧ Hid (Below w.heap.size w wr) ∧ Hid (wr.heap[w.heap.size]? = some (.cells #[.int .i64 t.a0, .int .i64 t.a1, .int .i64 t.a2, .int .i64 t.a3, .int .i64 t.a4, .int .i64 t.a5, .int .i64 t.a6, .int .i64 t.a7, .int .i64 t.a8, .int .i64 t.a9, .slice oc cs.length ck, vU] 25)) ∧ Hid (wr.heap[w.heap.size + 1]? = some (.cells #[.string ⟨#[]⟩, .bool false, .string ⟨#[]⟩, .string ⟨#[]⟩, .slice none 0 0, .slice none 0 0] 33))) (fun i _ => cs.length - (intOf i).toNat)
  case atStart => exact ⟨0, Nat.zero_le _, rfl, fun y hy => by simp at hy, HBA, HP0, HR0⟩
  case round =>
    obtain ⟨k, hk, rfl, HN, HB, HP, HR⟩ := hrel
    clear HR0 HP0 HBA
    have hRl := (Array.getElem?_eq_some_iff.1 HR.out).1
    have p0 : wr.cell? ⟨w.heap.size, 10, none⟩ = some (.slice oc cs.length ck) := cell_of HP.out 10
    have r0 : wr.cell? ⟨w.heap.size + 1, 0, none⟩ = some (.string ⟨#[]⟩) := cell_of HR.out 0
    have y0 : wr.frozen? ⟨w.heap.size + 1, 0, none⟩ = false := free_of HR.out 0
    have r1 : wr.cell? ⟨w.heap.size + 1, 0 + 1, none⟩ = some (.bool false) := cell_of HR.out 1
    have y1 : wr.frozen? ⟨w.heap.size + 1, 0 + 1, none⟩ = false := free_of HR.out 1
    have r2 : wr.cell? ⟨w.heap.size + 1, 0 + 2, none⟩ = some (.string ⟨#[]⟩) := cell_of HR.out 2
    have y2 : wr.frozen? ⟨w.heap.size + 1, 0 + 2, none⟩ = false := free_of HR.out 2
    have r3 : wr.cell? ⟨w.heap.size + 1, 0 + 3, none⟩ = some (.string ⟨#[]⟩) := cell_of HR.out 3
    have y3 : wr.frozen? ⟨w.heap.size + 1, 0 + 3, none⟩ = false := free_of HR.out 3
    have r4 : wr.cell? ⟨w.heap.size + 1, 0 + 4, none⟩ = some (.slice none 0 0) := cell_of HR.out 4
    have y4 : wr.frozen? ⟨w.heap.size + 1, 0 + 4, none⟩ = false := free_of HR.out 4
    have r5 : wr.cell? ⟨w.heap.size + 1, 0 + 5, none⟩ = some (.slice none 0 0) := cell_of HR.out 5
    have y5 : wr.frozen? ⟨w.heap.size + 1, 0 + 5, none⟩ = false := free_of HR.out 5
    by_cases hlt : k < cs.length
    · have hki : (k : Int) < (cs.length : Int) := by omega
      have k0 : (0 : Int) ≤ (k : Int) := Int.natCast_nonneg _
      have hil := HCI.out cs[k] (List.getElem_mem hlt)
      have hfc := HCC.out k hlt
      have HFA : Hid (decide (cs[k].id = id) = true → cliBy cs id = some cs[k]) := fun h => find_at _ cs k hlt HN.out h
      have HFN : Hid (decide (cs[k].id = id) = false → ∀ y ∈ cs.take (k + 1), decide (y.id = id) = false) := fun h => take_step _ cs k hlt HN.out h
      obtain ⟨X, hXe⟩ : ∃ X, cs[k] = X := ⟨_, rfl⟩
      rw [hXe] at hil hfc HFA HFN
      clear hXe
      obtain ⟨xi, xp, xs, xd, xt, xc⟩ := X
      simp only at hil
      obtain ⟨bl, o, vR, vS, ho, hbl, hcat⟩ := hfc
      cases ho
      obtain ⟨e0, e1, e2, e3, e4, e5, hT0, hS0⟩ := hcat
      simp only at e0 e1 e2 e3 e4 e5 hT0 hS0
      have d0 := (HB.out.cell (p := ⟨bl, o + k * 6, none⟩) hbl).trans e0
      have d1 := (HB.out.cell (p := ⟨bl, o + k * 6 + 1, none⟩) hbl).trans e1
      have d2 := (HB.out.cell (p := ⟨bl, o + k * 6 + 2, none⟩) hbl).trans e2
      have d3 := (HB.out.cell (p := ⟨bl, o + k * 6 + 3, none⟩) hbl).trans e3
      have d4 := (HB.out.cell (p := ⟨bl, o + k * 6 + 4, none⟩) hbl).trans e4
      have d5 := (HB.out.cell (p := ⟨bl, o + k * 6 + 5, none⟩) hbl).trans e5
      have HT0 := hide hT0
      have HS0 := hide hS0
      obtain ⟨oR, cR, rfl, _⟩ := hT0
      obtain ⟨oS, cS, rfl, _⟩ := hS0
      clear e0 e1 e2 e3 e4 e5
      by_cases he : xi = id
      · subst he
        have HF := hide (HFA.out (decide_eq_true rfl))
        clear HFA HFN
        go_wp2_with fail
        have HBz := hide (Below.setCell (Below.setCell (Below.setCell (Below.setCell (Below.setCell (Below.setCell HB.out (p := ⟨w.heap.size + 1, 0, none⟩) (Nat.le_succ _) (.string xi)) (p := ⟨w.heap.size + 1, 1, none⟩) (Nat.le_succ _) (.bool xp)) (p := ⟨w.heap.size + 1, 2, none⟩) (Nat.le_succ _) (.string xs)) (p := ⟨w.heap.size + 1, 3, none⟩) (Nat.le_succ _) (.string xd)) (p := ⟨w.heap.size + 1, 4, none⟩) (Nat.le_succ _) (.slice oR xt.length cR)) (p := ⟨w.heap.size + 1, 5, none⟩) (Nat.le_succ _) (.slice oS xc.length cS))
        have HR3 := set_six HR.out (.string xi) (.bool xp) (.string xs) (.string xd) (.slice oR xt.length cR) (.slice oS xc.length cS)
        refine bodyPost_ret (results_ct rfl _ rfl (range_of (l := [.string xi, .bool xp, .string xs, .string xd, .slice oR xt.length cR, .slice oS xc.length cS]) HR3) Try.underlying33 rfl sizeCl rfl) rfl ?_
        rw [HF.out]
        exact ⟨_, _, rfl, HT0.out.below HBz.out, HS0.out.below HBz.out, HBz.out⟩
      · have e1 : (xi.toList == id.toList) = false := ne_list he
        have HN1 := hide (HFN.out (decide_eq_false he))
        clear HFA HFN
        go_wp2_with fail
        go_roundw
        case rel => exact ⟨k + 1, by omega, by go_num, HN1, HB, HP, HR⟩
        case measure => simp [intOf]; omega
    · obtain rfl : k = cs.length := by omega
      have HF : Hid (cliBy cs id = none) := find_no _ cs (by have := HN.out; rwa [List.take_length] at this)
      go_wp2_with fail
      have HBz := hide (Below.setCell (Below.setCell (Below.setCell (Below.setCell (Below.setCell (Below.setCell HB.out (p := ⟨w.heap.size + 1, 0, none⟩) (Nat.le_succ _) (.string ⟨#[]⟩)) (p := ⟨w.heap.size + 1, 1, none⟩) (Nat.le_succ _) (.bool false)) (p := ⟨w.heap.size + 1, 2, none⟩) (Nat.le_succ _) (.string ⟨#[]⟩)) (p := ⟨w.heap.size + 1, 3, none⟩) (Nat.le_succ _) (.string ⟨#[]⟩)) (p := ⟨w.heap.size + 1, 4, none⟩) (Nat.le_succ _) (.slice none 0 0)) (p := ⟨w.heap.size + 1, 5, none⟩) (Nat.le_succ _) (.slice none 0 0))
      have HR3 := set_six HR.out (.string ⟨#[]⟩) (.bool false) (.string ⟨#[]⟩) (.string ⟨#[]⟩) (.slice none 0 0) (.slice none 0 0)
      refine bodyPost_ret (results_ct rfl _ rfl (range_of (l := [.string ⟨#[]⟩, .bool false, .string ⟨#[]⟩, .string ⟨#[]⟩, .slice none 0 0, .slice none 0 0]) HR3) Try.underlying33 rfl sizeCl rfl) rfl ?_
      rw [HF.out]
      exact ⟨_, _, rfl, ss.lies_nil _, ss.lies_nil _, HBz.out⟩

set_option maxRecDepth 100000 in
set_option maxHeartbeats 3200000 in
theorem findUser_any (w : World) (t : Ten) (vC vU : Value) (us : List Usr) (id : ByteArray) (hU : LiesU w vU us) (hus : us.length ≤ 4611686018427387904) :
    Calls Try.prog 8 #[.agg #[.int .i64 t.a0, .int .i64 t.a1, .int .i64 t.a2, .int .i64 t.a3, .int .i64 t.a4, .int .i64 t.a5, .int .i64 t.a6, .int .i64 t.a7, .int .i64 t.a8, .int .i64 t.a9, vC, vU], .string id] w fun e w' => e = .returned (.tuple #[.agg #[.string ((usrBy us id).getD zu).name, .string ((usrBy us id).getD zu).salt, .string ((usrBy us id).getD zu).dig], .bool (usrBy us id).isSome]) ∧ Below w.heap.size w w' := by
  obtain ⟨ou, uk, rfl, hUc⟩ := hU
  obtain ⟨hPb, hR⟩ := heap_two w (.cells #[.int .i64 t.a0, .int .i64 t.a1, .int .i64 t.a2, .int .i64 t.a3, .int .i64 t.a4, .int .i64 t.a5, .int .i64 t.a6, .int .i64 t.a7, .int .i64 t.a8, .int .i64 t.a9, vC, .slice ou us.length uk] 25) (.cells #[.string ⟨#[]⟩, .string ⟨#[]⟩, .string ⟨#[]⟩] 38)
  have BA : Below w.heap.size w ((w.alloc (.cells #[.int .i64 t.a0, .int .i64 t.a1, .int .i64 t.a2, .int .i64 t.a3, .int .i64 t.a4, .int .i64 t.a5, .int .i64 t.a6, .int .i64 t.a7, .int .i64 t.a8, .int .i64 t.a9, vC, .slice ou us.length uk] 25)).alloc (.cells #[.string ⟨#[]⟩, .string ⟨#[]⟩, .string ⟨#[]⟩] 38)) := ((Below.refl _ _).alloc (Nat.le_refl _) _).alloc (by simp) _
  have HBA := hide BA
  have HR0 := hide hR
  have HP0 := hide hPb
  have HCC := hide hUc
  clear BA hR hPb hUc
  go_enter Try.func8, Try.ntmps8
  go_wp2_with fail
  go_loopw [11] (fun i wr => ∃ k : Nat, k ≤ us.length ∧ i = .int .i64 k ∧ Hid (∀ y ∈ us.take k, decide (y.name = id) = false) ∧ Hid (Below w.heap.size w wr) ∧ Hid (wr.heap[w.heap.size]? = some (.cells #[.int .i64 t.a0, .int .i64 t.a1, .int .i64 t.a2, .int .i64 t.a3, .int .i64 t.a4, .int .i64 t.a5, .int .i64 t.a6, .int .i64 t.a7, .int .i64 t.a8, .int .i64 t.a9, vC, .slice ou us.length uk] 25)) ∧ Hid (wr.heap[w.heap.size + 1]? = some (.cells #[.string ⟨#[]⟩, .string ⟨#[]⟩, .string ⟨#[]⟩] 38))) (fun i _ => us.length - (intOf i).toNat)
  case atStart => exact ⟨0, Nat.zero_le _, rfl, fun y hy => by simp at hy, HBA, HP0, HR0⟩
  case round =>
    obtain ⟨k, hk, rfl, HN, HB, HP, HR⟩ := hrel
    clear HR0 HP0 HBA
    have p0 : wr.cell? ⟨w.heap.size, 11, none⟩ = some (.slice ou us.length uk) := cell_of HP.out 11
    have r0 : wr.cell? ⟨w.heap.size + 1, 0, none⟩ = some (.string ⟨#[]⟩) := cell_of HR.out 0
    have y0 : wr.frozen? ⟨w.heap.size + 1, 0, none⟩ = false := free_of HR.out 0
    have r1 : wr.cell? ⟨w.heap.size + 1, 0 + 1, none⟩ = some (.string ⟨#[]⟩) := cell_of HR.out 1
    have y1 : wr.frozen? ⟨w.heap.size + 1, 0 + 1, none⟩ = false := free_of HR.out 1
    have r2 : wr.cell? ⟨w.heap.size + 1, 0 + 2, none⟩ = some (.string ⟨#[]⟩) := cell_of HR.out 2
    have y2 : wr.frozen? ⟨w.heap.size + 1, 0 + 2, none⟩ = false := free_of HR.out 2
    by_cases hlt : k < us.length
    · have hki : (k : Int) < (us.length : Int) := by omega
      have k0 : (0 : Int) ≤ (k : Int) := Int.natCast_nonneg _
      have hfc := HCC.out k hlt
      have HFA : Hid (decide (us[k].name = id) = true → usrBy us id = some us[k]) := fun h => find_at _ us k hlt HN.out h
      have HFN : Hid (decide (us[k].name = id) = false → ∀ y ∈ us.take (k + 1), decide (y.name = id) = false) := fun h => take_step _ us k hlt HN.out h
      obtain ⟨X, hXe⟩ : ∃ X, us[k] = X := ⟨_, rfl⟩
      rw [hXe] at hfc HFA HFN
      clear hXe
      obtain ⟨xn, xs, xd⟩ := X
      obtain ⟨bl, o, ho, hbl, e0, e1, e2⟩ := hfc
      cases ho
      simp only at e0 e1 e2
      have d0 := (HB.out.cell (p := ⟨bl, o + k * 3, none⟩) hbl).trans e0
      have d1 := (HB.out.cell (p := ⟨bl, o + k * 3 + 1, none⟩) hbl).trans e1
      have d2 := (HB.out.cell (p := ⟨bl, o + k * 3 + 2, none⟩) hbl).trans e2
      clear e0 e1 e2
      have HRV := heap_old wr (.cells #[.string xn, .string xs, .string xd] 38) HR.out
      have r0 : (wr.alloc (.cells #[.string xn, .string xs, .string xd] 38)).cell? ⟨w.heap.size + 1, 0, none⟩ = some (.string ⟨#[]⟩) := cell_of HRV 0
      have y0 : (wr.alloc (.cells #[.string xn, .string xs, .string xd] 38)).frozen? ⟨w.heap.size + 1, 0, none⟩ = false := free_of HRV 0
      have r1 : (wr.alloc (.cells #[.string xn, .string xs, .string xd] 38)).cell? ⟨w.heap.size + 1, 0 + 1, none⟩ = some (.string ⟨#[]⟩) := cell_of HRV 1
      have y1 : (wr.alloc (.cells #[.string xn, .string xs, .string xd] 38)).frozen? ⟨w.heap.size + 1, 0 + 1, none⟩ = false := free_of HRV 1
      have r2 : (wr.alloc (.cells #[.string xn, .string xs, .string xd] 38)).cell? ⟨w.heap.size + 1, 0 + 2, none⟩ = some (.string ⟨#[]⟩) := cell_of HRV 2
      have y2 : (wr.alloc (.cells #[.string xn, .string xs, .string xd] 38)).frozen? ⟨w.heap.size + 1, 0 + 2, none⟩ = false := free_of HRV 2
      by_cases he : xn = id
      · subst he
        have HF := hide (HFA.out (decide_eq_true rfl))
        clear HFA HFN
        go_wp2_with fail
        have HBz := hide (Below.setCell (Below.setCell (Below.setCell (HB.out.alloc HB.out.size (.cells #[.string xn, .string xs, .string xd] 38)) (p := ⟨w.heap.size + 1, 0, none⟩) (Nat.le_succ _) (.string xn)) (p := ⟨w.heap.size + 1, 1, none⟩) (Nat.le_succ _) (.string xs)) (p := ⟨w.heap.size + 1, 2, none⟩) (Nat.le_succ _) (.string xd))
        have HR3 := set_trio HRV (.string xn) (.string xs) (.string xd)
        refine bodyPost_ret (results_ct rfl _ rfl (range_of (l := [.string xn, .string xs, .string xd]) HR3) Try.underlying38 rfl sizeUs rfl) rfl ?_
        rw [HF.out]
        exact ⟨rfl, HBz.out⟩
      · have e1 : (xn.toList == id.toList) = false := ne_list he
        have HN1 := hide (HFN.out (decide_eq_false he))
        clear HFA HFN
        go_wp2_with fail
        go_roundw
        case rel => exact ⟨k + 1, by omega, by go_num, HN1, HB.out.alloc HB.out.size _, heap_old _ _ HP.out, heap_old _ _ HR.out⟩
        case measure => simp [intOf]; omega
    · obtain rfl : k = us.length := by omega
      have HF : Hid (usrBy us id = none) := find_no _ us (by have := HN.out; rwa [List.take_length] at this)
      go_wp2_with fail
      have HBz := hide (Below.setCell (Below.setCell (Below.setCell HB.out (p := ⟨w.heap.size + 1, 0, none⟩) (Nat.le_succ _) (.string ⟨#[]⟩)) (p := ⟨w.heap.size + 1, 1, none⟩) (Nat.le_succ _) (.string ⟨#[]⟩)) (p := ⟨w.heap.size + 1, 2, none⟩) (Nat.le_succ _) (.string ⟨#[]⟩))
      have HR3 := set_trio HR.out (.string ⟨#[]⟩) (.string ⟨#[]⟩) (.string ⟨#[]⟩)
      refine bodyPost_ret (results_ct rfl _ rfl (range_of (l := [.string ⟨#[]⟩, .string ⟨#[]⟩, .string ⟨#[]⟩]) HR3) Try.underlying38 rfl sizeUs rfl) rfl ?_
      rw [HF.out]
      exact ⟨rfl, HBz.out⟩

set_option maxRecDepth 100000 in
set_option maxHeartbeats 3200000 in
theorem refFindUser_any (w : World) (t : Ten) (vC vU : Value) (us : List Usr) (id : ByteArray) (hU : LiesU w vU us) (hus : us.length ≤ 4611686018427387904) :
    Calls Try.prog 9 #[.agg #[.int .i64 t.a0, .int .i64 t.a1, .int .i64 t.a2, .int .i64 t.a3, .int .i64 t.a4, .int .i64 t.a5, .int .i64 t.a6, .int .i64 t.a7, .int .i64 t.a8, .int .i64 t.a9, vC, vU], .string id] w fun e w' => e = .returned (.tuple #[.agg #[.string ((usrBy us id).getD zu).name, .string ((usrBy us id).getD zu).salt, .string ((usrBy us id).getD zu).dig], .bool (usrBy us id).isSome]) ∧ Below w.heap.size w w' := by
  obtain ⟨ou, uk, rfl, hUc⟩ := hU
  obtain ⟨hPb, hR⟩ := heap_two w (.cells #[.int .i64 t.a0, .int .i64 t.a1, .int .i64 t.a2, .int .i64 t.a3, .int .i64 t.a4, .int .i64 t.a5, .int .i64 t.a6, .int .i64 t.a7, .int .i64 t.a8, .int .i64 t.a9, vC, .slice ou us.length uk] 25) (.cells #[.string ⟨#[]⟩, .string ⟨#[]⟩, .string ⟨#[]⟩] 38)
  have BA : Below w.heap.size w ((w.alloc (.cells #[.int .i64 t.a0, .int .i64 t.a1, .int .i64 t.a2, .int .i64 t.a3, .int .i64 t.a4, .int .i64 t.a5, .int .i64 t.a6, .int .i64 t.a7, .int .i64 t.a8, .int .i64 t.a9, vC, .slice ou us.length uk] 25)).alloc (.cells #[.string ⟨#[]⟩, .string ⟨#[]⟩, .string ⟨#[]⟩] 38)) := ((Below.refl _ _).alloc (Nat.le_refl _) _).alloc (by simp) _
  have HBA := hide BA
  have HR0 := hide hR
  have HP0 := hide hPb
  have HCC := hide hUc
  clear BA hR hPb hUc
  go_enter Try.func9, Try.ntmps9
  go_wp2_with fail
  go_loopw [6] (fun i wr => ∃ k : Nat, k ≤ us.length ∧ i = .int .i64 k ∧ Hid (∀ y ∈ us.take k, decide (y.name = id) = false) ∧ Hid (Below w.heap.size w wr) ∧ Hid (wr.heap[w.heap.size]? = some (.cells #[.int .i64 t.a0, .int .i64 t.a1, .int .i64 t.a2, .int .i64 t.a3, .int .i64 t.a4, .int .i64 t.a5, .int .i64 t.a6, .int .i64 t.a7, .int .i64 t.a8, .int .i64 t.a9, vC, .slice ou us.length uk] 25)) ∧ Hid (wr.heap[w.heap.size + 1]? = some (.cells #[.string ⟨#[]⟩, .string ⟨#[]⟩, .string ⟨#[]⟩] 38))) (fun i _ => us.length - (intOf i).toNat)
  case atStart => exact ⟨0, Nat.zero_le _, rfl, fun y hy => by simp at hy, HBA, HP0, HR0⟩
  case round =>
    obtain ⟨k, hk, rfl, HN, HB, HP, HR⟩ := hrel
    clear HR0 HP0 HBA
    have p0 : wr.cell? ⟨w.heap.size, 11, none⟩ = some (.slice ou us.length uk) := cell_of HP.out 11
    have r0 : wr.cell? ⟨w.heap.size + 1, 0, none⟩ = some (.string ⟨#[]⟩) := cell_of HR.out 0
    have y0 : wr.frozen? ⟨w.heap.size + 1, 0, none⟩ = false := free_of HR.out 0
    have r1 : wr.cell? ⟨w.heap.size + 1, 0 + 1, none⟩ = some (.string ⟨#[]⟩) := cell_of HR.out 1
    have y1 : wr.frozen? ⟨w.heap.size + 1, 0 + 1, none⟩ = false := free_of HR.out 1
    have r2 : wr.cell? ⟨w.heap.size + 1, 0 + 2, none⟩ = some (.string ⟨#[]⟩) := cell_of HR.out 2
    have y2 : wr.frozen? ⟨w.heap.size + 1, 0 + 2, none⟩ = false := free_of HR.out 2
    by_cases hlt : k < us.length
    · have hki : (k : Int) < (us.length : Int) := by omega
      have k0 : (0 : Int) ≤ (k : Int) := Int.natCast_nonneg _
      have hfc := HCC.out k hlt
      have HFA : Hid (decide (us[k].name = id) = true → usrBy us id = some us[k]) := fun h => find_at _ us k hlt HN.out h
      have HFN : Hid (decide (us[k].name = id) = false → ∀ y ∈ us.take (k + 1), decide (y.name = id) = false) := fun h => take_step _ us k hlt HN.out h
      obtain ⟨X, hXe⟩ : ∃ X, us[k] = X := ⟨_, rfl⟩
      rw [hXe] at hfc HFA HFN
      clear hXe
      obtain ⟨xn, xs, xd⟩ := X
      obtain ⟨bl, o, ho, hbl, e0, e1, e2⟩ := hfc
      cases ho
      simp only at e0 e1 e2
      have d0 := (HB.out.cell (p := ⟨bl, o + k * 3, none⟩) hbl).trans e0
      have d1 := (HB.out.cell (p := ⟨bl, o + k * 3 + 1, none⟩) hbl).trans e1
      have d2 := (HB.out.cell (p := ⟨bl, o + k * 3 + 2, none⟩) hbl).trans e2
      clear e0 e1 e2
      by_cases he : xn = id
      · subst he
        have HF := hide (HFA.out (decide_eq_true rfl))
        clear HFA HFN
        go_wp2_with fail
        have HBz := hide (Below.setCell (Below.setCell (Below.setCell HB.out (p := ⟨w.heap.size + 1, 0, none⟩) (Nat.le_succ _) (.string xn)) (p := ⟨w.heap.size + 1, 1, none⟩) (Nat.le_succ _) (.string xs)) (p := ⟨w.heap.size + 1, 2, none⟩) (Nat.le_succ _) (.string xd))
        have HR3 := set_trio HR.out (.string xn) (.string xs) (.string xd)
        refine bodyPost_ret (results_ct rfl _ rfl (range_of (l := [.string xn, .string xs, .string xd]) HR3) Try.underlying38 rfl sizeUs rfl) rfl ?_
        rw [HF.out]
        exact ⟨rfl, HBz.out⟩
      · have e1 : (xn.toList == id.toList) = false := ne_list he
        have HN1 := hide (HFN.out (decide_eq_false he))
        clear HFA HFN
        go_wp2_with fail
        go_roundw
        case rel => exact ⟨k + 1, by omega, by go_num, HN1, HB, HP, HR⟩
        case measure => simp [intOf]; omega
    · obtain rfl : k = us.length := by omega
      have HF : Hid (usrBy us id = none) := find_no _ us (by have := HN.out; rwa [List.take_length] at this)
      go_wp2_with fail
      have HBz := hide (Below.setCell (Below.setCell (Below.setCell HB.out (p := ⟨w.heap.size + 1, 0, none⟩) (Nat.le_succ _) (.string ⟨#[]⟩)) (p := ⟨w.heap.size + 1, 1, none⟩) (Nat.le_succ _) (.string ⟨#[]⟩)) (p := ⟨w.heap.size + 1, 2, none⟩) (Nat.le_succ _) (.string ⟨#[]⟩))
      have HR3 := set_trio HR.out (.string ⟨#[]⟩) (.string ⟨#[]⟩) (.string ⟨#[]⟩)
      refine bodyPost_ret (results_ct rfl _ rfl (range_of (l := [.string ⟨#[]⟩, .string ⟨#[]⟩, .string ⟨#[]⟩]) HR3) Try.underlying38 rfl sizeUs rfl) rfl ?_
      rw [HF.out]
      exact ⟨rfl, HBz.out⟩
end Go.Proofs.Ytbchhpjpfieljaa.rg
