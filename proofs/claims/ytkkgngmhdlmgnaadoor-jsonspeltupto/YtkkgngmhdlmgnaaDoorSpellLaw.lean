import Derived.Test.YtkkgngmhdlmgnaaDoorSpellQ
import Derived.Test.YtkkgngmhdlmgnaaDoorSpellRow
import Derived.Test.YtkkgngmhdlmgnaaDoorBareM
import Derived.Test.YtkkgngmhdlmgnaaDoorRefObj2
import Derived.Test.YtkkgngmhdlmgnaaDoorErrWalks
namespace Go.Proofs.YtkkgngmhdlmgnaaDoor.jw
open Go.ChangeShapes Go.WideShapes Go.ChangeAt Go.RowKit Go.Proofs.YtkkgngmhdlmgnaaDoor.common
open Go.Proofs.YtkkgngmhdlmgnaaDoor.errw (Errs num_nil num_0 num_1 num_2 num_3)
attribute [local go_sem ↓] Go.wp_at_zero Go.wp_at_succ

/-- the gaps -/
def gapOf (i : Nat) : List UInt8 := [[], [], [], [32], [9], [10], [13], [32, 10, 9, 13, 32]].getD i []
def Gp (w : World) : Prop := ∀ i : Nat, i < 8 → w.cell? ⟨0, i, none⟩ = some (S (gapOf i))
theorem Gp.below {w w' : World} (h : Gp w) (hb : Below w.heap.size w w') : Gp w' := fun i hi => (hb.cell (World.block_lt_of_cell? w _ (h i hi))).trans (h i hi)
theorem gap_bl : ∀ i, i < 8 → Json.allBl (gapOf i) ∧ (gapOf i).length ≤ 5 := by
  intro i hi
  match i, hi with
  | 0, _ => exact ⟨by intro c hc; simp [gapOf] at hc, by decide⟩
  | 1, _ => exact ⟨by intro c hc; simp [gapOf] at hc, by decide⟩
  | 2, _ => exact ⟨by intro c hc; simp [gapOf] at hc, by decide⟩
  | 3, _ => exact ⟨by intro c hc; simp [gapOf] at hc; subst hc; rfl, by decide⟩
  | 4, _ => exact ⟨by intro c hc; simp [gapOf] at hc; subst hc; rfl, by decide⟩
  | 5, _ => exact ⟨by intro c hc; simp [gapOf] at hc; subst hc; rfl, by decide⟩
  | 6, _ => exact ⟨by intro c hc; simp [gapOf] at hc; subst hc; rfl, by decide⟩
  | 7, _ => exact ⟨by intro c hc; simp [gapOf] at hc; rcases hc with rfl | rfl | rfl | rfl | rfl <;> rfl, by decide⟩
theorem gap_str {w : World} (h : Gp w) (i : Nat) (hi : i < 8) : ∃ G : ByteArray, w.cell? ⟨0, i, none⟩ = some (.string G) ∧ Json.allBl G.data.toList ∧ G.size ≤ 5 := by
  obtain ⟨h1, h2⟩ := gap_bl i hi
  exact ⟨⟨(gapOf i).toArray⟩, h i hi, h1, by rw [str_size]; exact h2⟩
theorem tot_takeS : ∀ (l : List Mem) (k : Nat), tot (l.take k) ≤ tot l
  | [], k => by rw [List.take_nil]; exact Nat.le_refl _
  | m :: r, 0 => Nat.zero_le _
  | m :: r, k + 1 => by
    rw [List.take_succ_cons]
    show _ + tot (r.take k) ≤ _ + tot r
    have := tot_takeS r k
    omega
theorem bdrew2 {b : Nat} {a w : World} {n : Nat} (h : Below b a (w.drewN n)) (m : Nat) : Below b a (w.drewN m) := ⟨h.os, h.tape, h.output, h.size, h.block⟩
theorem keepD {a b c : World} (h : Below a.heap.size a b) (k : Below b.heap.size b c) : Below a.heap.size a c := h.trans (k.mono h.size)
theorem lies_one (w : World) (m : Mem) (t : TypeId) : Lies (w.alloc (.cells #[S m.name, .int .i64 m.kind, S m.text, .int .i64 m.num, .bool m.flag] t)) (.slice (some ⟨w.heap.size, 0, none⟩) 1 1) [m] :=
  ⟨_, 1, rfl, Nat.le_refl _, fun i hi => by
    have : i = 0 := by simpa using hi
    subst this
    exact ⟨_, 0, rfl, by simp, mem_new w m t⟩⟩
theorem check_alone (k n : Int) (f : Bool) (h : Json.known k = true) : Json.check [⟨[], k, [], n, f⟩] = 0 := by
  have hv : Lib.validD [] = true := rfl
  simp [Json.check, h, Json.plainMem, Json.twice, hv]
theorem val_alone {m : Mem} (hk : Json.known m.kind = true) (h1 : m.kind ≠ 1) (hr : Json.inRange m.num) : Json.SpeltVal m (Json.valueOf ⟨[], m.kind, [], m.num, m.flag⟩) := by
  have : m.kind = 2 ∨ m.kind = 3 := by
    simp [Json.known] at hk
    omega
  unfold Json.valueOf Json.SpeltVal
  simp only [if_neg h1]
  rcases this with h | h
  · rw [if_pos h]; exact Or.inr (Or.inl ⟨h, hr, rfl⟩)
  · rw [if_neg (by omega)]
    cases hf : m.flag with
    | true => exact Or.inr (Or.inr (Or.inl ⟨h, rfl, rfl⟩))
    | false => exact Or.inr (Or.inr (Or.inr ⟨h, rfl, rfl⟩))
theorem val_len (k n : Int) (f : Bool) (h : Json.inRange n) : (Json.valueOf ⟨[], k, [], n, f⟩).length ≤ 21 := by
  unfold Json.valueOf
  split
  · show 2 ≤ 21; decide
  · split
    · exact itoa_le n h
    · split <;> decide
/-- the value between the braces -/
theorem alone_ext (on : ByteArray) (v : List UInt8) (h : on.data.toList = 123 :: 34 :: 34 :: 58 :: (v ++ [125])) : on.size = v.length + 5 ∧ (on.extract 4 (on.size - 1)).data.toList = v := by
  have hs : on.size = v.length + 5 := by
    have := congrArg List.length h
    rw [len_list] at this
    simp at this
    omega
  refine ⟨hs, ?_⟩
  rw [ext_listQ, h, hs]
  show (v ++ [125]).take _ = v
  rw [show v.length + 5 - 1 - 4 = v.length by omega, List.take_left]
theorem check_code (l : List Mem) : Json.check l = 0 ∨ Json.check l = 1 ∨ Json.check l = 2 ∨ Json.check l = 3 ∨ Json.check l = 4 := by
  unfold Json.check
  split
  · simp
  · split
    · simp
    · split
      · simp
      · split <;> simp
theorem num_errC (w : World) (e : Nat → Addr) (he : Errs w e) (c : Nat) (hc : c = 0 ∨ c = 1 ∨ c = 2 ∨ c = 3 ∨ c = 4) :
    Calls Tryd.prog 9 #[errV e c] w fun x w' => x = .returned (.int .i64 (c : Int)) ∧ w' = w := by
  rcases hc with rfl | rfl | rfl | rfl | rfl
  · exact num_nil w
  · exact num_0 w e he
  · exact num_1 w e he
  · exact num_2 w e he
  · exact num_3 w e he
theorem cellsSpelling : Tryd.prog.cellsOf 41 = 2 := by kernel_rfl

set_option maxRecDepth 100000 in
set_option maxHeartbeats 3200000 in
theorem lawSpelt (lv tv : Value) (l : List Mem) (w : World) (hl : Lies w lv l) (hT : Tn w tv) (hn : ∀ m ∈ l, Json.inRange m.num) (hb : l.length * 56 ≤ 140737488355328) (ht : tot l ≤ 14680064) (e : Nat → Addr) (hB : Base w e) (hE : Errs w e) (hG : Gp w) :
    Calls Tryd.prog 5 #[.agg #[lv, tv]] w fun x w' => x = .returned (.bool true) ∧ Below w.heap.size w w' := by
  have HL := hide hl
  have HT := hide hT
  have HN := hide hn
  have HB := hide hB
  have HE := hide hE
  have HG := hide hG
  have hlen : l.length ≤ 4611686018427387904 := by omega
  have HW0 := hide ((Below.refl w.heap.size w).alloc (Nat.le_refl _) (.cells #[lv, tv] 41))
  have HC0 := hide (range_new w #[lv, tv] 41 0 lv rfl)
  have HC1 := hide (range_new w #[lv, tv] 41 1 tv rfl)
  have HZ0 : Hid ((w.alloc (.cells #[lv, tv] 41)).heap.size = w.heap.size + 1) := by simp [Hid]
  obtain ⟨oa, ca, hlv, _⟩ := hl
  obtain ⟨ot, nt, ct, htv, _⟩ := hT
  subst hlv htv
  clear hn hB hE hG
  go_enter Tryd.func5, Tryd.ntmps5
  go_wp2_with fail
  generalize w.alloc (.cells #[.slice oa l.length ca, .slice ot nt ct] 41) = wx at *
  refine (refObject_any _ l wx (HL.out.below HW0.out) HN.out (by omega) hlen (HB.out.below HW0.out).pow).mono ?_
  rintro x w1 ⟨rfl, hb1⟩
  have HX1 := hide hb1
  have H1 := hide (HW0.out.trans (hb1.mono HW0.out.size))
  have c0 : w1.cell? ⟨w.heap.size, 0, none⟩ = some (.slice oa l.length ca) := (hb1.cell (by have := HZ0.out; show w.heap.size < _; omega)).trans HC0.out
  have c1 : w1.cell? ⟨w.heap.size, 1, none⟩ = some (.slice ot nt ct) := (hb1.cell (by have := HZ0.out; show w.heap.size < _; omega)).trans HC1.out
  clear hb1
  by_cases hck : Json.check l = 0
  · rw [if_pos hck]
    have HCK := hide hck
    obtain ⟨P, hP⟩ : ∃ P : ByteArray, (⟨(Json.objOf l).toArray⟩ : ByteArray) = P := ⟨_, rfl⟩
    unfold S
    rw [hP]
    clear hP hck
    obtain ⟨tr, htr⟩ := turn8 (.slice ot nt ct) w HT.out
    have q0 := (htr 0 (by decide) (by decide)).1
    have q1 := (htr 1 (by decide) (by decide)).1
    obtain ⟨G0, g0, y0, y1⟩ := gap_str (HG.out.below H1.out) (tr 0) q0
    obtain ⟨G1, g1, z0, z1⟩ := gap_str (HG.out.below H1.out) (tr 1) q1
    have HY0 := hide y0
    have HZ1 := hide z0
    have HTR := hide htr
    clear htr y0 z0
    have s1 : ¬ (9223372036854775807 < G0.size + (⟨#[123]⟩ : ByteArray).size) := by have : (⟨#[123]⟩ : ByteArray).size = 1 := rfl; omega
    have s2 : ¬ (9223372036854775807 < G0.size + 1) := by omega
    obtain ⟨A0, hA0⟩ : ∃ A, G0 ++ ⟨#[123]⟩ = A := ⟨_, rfl⟩
    have hA0s : A0.size ≤ 6 := by rw [← hA0, ByteArray.size_append]; have : (⟨#[123]⟩ : ByteArray).size = 1 := rfl; omega
    have s3 : ¬ (9223372036854775807 < A0.size + G1.size) := by omega
    go_wp2_with fail
    go_quiet ((go_at_call 14; exact Calls.quiet_of ((HTR.out _ (by omega) (by omega)).2 _ (bdrew H1.out _))))
    go_wp2_with fail
    have HX2 : Hid (Below (w.heap.size + 1) wx (w1.drewN nq)) := bdrew (by have := HX1.out; rw [HZ0.out] at this; exact this) nq
    generalize w1.drewN nq = w2 at *
    have HPre : Hid ((A0 ++ G1).data.toList = G0.data.toList ++ 123 :: G1.data.toList) := by
      show _ = _
      rw [ByteArray.toList_data_append, ← hA0, ByteArray.toList_data_append, List.append_assoc]; rfl
    have HZs : Hid ((A0 ++ G1).size ≤ 12) := by show _ ≤ _; rw [ByteArray.size_append]; omega
    obtain ⟨Z0, hZ0⟩ : ∃ Z, A0 ++ G1 = Z := ⟨_, rfl⟩
    rw [hZ0] at HPre HZs
    rw [hZ0]
    have HCKO := hide (Json.check_ok HCK.out)
    clear hZ0 s1 s2 s3 hA0 hA0s g0 g1 q0 q1 y1 z1 c0 c1
    generalize hpre : G0.data.toList ++ 123 :: G1.data.toList = pre at *
    have Hpre := hide hpre
    clear hpre
    go_loopw [7, 8, 9] (fun sv av iv wr => ∃ (i A : Nat) (Z : ByteArray) (body : List UInt8), i ≤ l.length ∧ iv = .int .i64 i ∧ av = .int .i64 A ∧ A ≤ 2 + tot (l.take i) ∧ sv = .string Z ∧ Z.size ≤ 12 + 2 * tot (l.take i) ∧ Hid (Z.data.toList = pre ++ body) ∧ Hid ((i = 0 ∧ body = []) ∨ Json.SpeltRow (l.take i) body) ∧ Hid (Below (w.heap.size + 1) wx wr)) (fun _ _ iv _ => l.length - (intOf iv).toNat)
    case atStart => exact ⟨0, 2, Z0, [], by omega, rfl, rfl, by omega, rfl, by have := HZs.out; omega, by show _ = _; rw [List.append_nil]; exact HPre.out, Or.inl ⟨rfl, rfl⟩, HX2⟩
    case round =>
      obtain ⟨i, A, Z, body, hi, rfl, rfl, hA, rfl, hZ, hZd, hrow, hX⟩ := hrel
      have HWr := hide (HW0.out.trans (hX.out.mono (Nat.le_succ _)))
      have c0 : wr.cell? ⟨w.heap.size, 0, none⟩ = some (.slice oa l.length ca) := (hX.out.cell (Nat.lt_succ_self _)).trans HC0.out
      have c1 : wr.cell? ⟨w.heap.size, 1, none⟩ = some (.slice ot nt ct) := (hX.out.cell (Nat.lt_succ_self _)).trans HC1.out
      by_cases hlt : i < l.length
      · have hli : (i : Int) < (l.length : Int) := by omega
        have i0 : (0 : Int) ≤ (i : Int) := by omega
        obtain ⟨oa', ca', hlv', hcap, hlies⟩ := HL.out
        cases hlv'
        obtain ⟨lb, lo, rfl, hlb, hat⟩ := hlies i hlt
        have hA5 := hat.below HWr.out hlb
        have d0 := hA5.c0
        have d1 := hA5.c1
        have d2 := hA5.c2
        have d3 := hA5.c3
        have d4 := hA5.c4
        have hcai : (i : Int) < (ca : Int) := by omega
        clear hat hlies hA5
        have HSN := hide (takeM l i hlt)
        have HTT : Hid (tot (l.take (i + 1)) = tot (l.take i) + (6 * (l[i].name.length + l[i].text.length) + 40)) := by
          show _ = _
          rw [takeM l i hlt, tot_app]
          rfl
        have HMK := hide (HCKO.out.2.1 l[i] (List.getElem_mem _))
        have HMR := hide (HN.out l[i] (List.getElem_mem _))
        have HTL : Hid (tot (l.take (i + 1)) ≤ tot l) := tot_takeS l (i + 1)
        generalize l[i] = m at *
        obtain ⟨nm, hnm⟩ : ∃ nm : ByteArray, (⟨m.name.toArray⟩ : ByteArray) = nm := ⟨_, rfl⟩
        obtain ⟨tx, htx⟩ : ∃ tx : ByteArray, (⟨m.text.toArray⟩ : ByteArray) = tx := ⟨_, rfl⟩
        have Hnd : Hid (nm.data.toList = m.name) := by show _ = _; rw [← hnm]
        have Htd : Hid (tx.data.toList = m.text) := by show _ = _; rw [← htx]
        have Hns : Hid (nm.size = m.name.length) := by show _ = _; rw [← hnm, str_size]
        have Hts : Hid (tx.size = m.text.length) := by show _ = _; rw [← htx, str_size]
        unfold S at d0 d2
        rw [hnm] at d0
        rw [htx] at d2
        clear hnm htx
        have Hnm : Hid (nm.size ≤ 14680064 ∧ tx.size ≤ 14680064 ∧ tot (l.take i) + 6 * (nm.size + tx.size) + 40 ≤ 14680064) := by
          have h1 := HTT.out; have h2 := HTL.out; have h3 := Hns.out; have h4 := Hts.out
          exact ⟨by omega, by omega, by omega⟩
        have hAB : A ≤ 14680064 := by have := Hnm.out; omega
        have hZB : Z.size ≤ 29360128 := by have := Hnm.out; omega
        have HnV : Hid (Lib.validD nm.data.toList = true) := by
          show _ = _
          rw [Hnd.out]
          have := HMK.out.2
          unfold Json.plainMem at this
          exact (Bool.and_eq_true_iff.1 this).1
        obtain ⟨bx, hbx⟩ : ∃ bx, wr.alloc (.cells #[.string nm, .int .i64 m.kind, .string tx, .int .i64 m.num, .bool m.flag] 37) = bx := ⟨_, rfl⟩
        have HBX : Hid (Below (w.heap.size + 1) wx bx) := by rw [← hbx]; exact hX.out.alloc (by have := hX.out.size; have := HZ0.out; omega) _
        have HmX : Hid (wr.heap.size < bx.heap.size ∧ bx.cell? ⟨wr.heap.size, 0, none⟩ = some (.string nm) ∧ bx.cell? ⟨wr.heap.size, 1, none⟩ = some (.int .i64 m.kind) ∧ bx.cell? ⟨wr.heap.size, 2, none⟩ = some (.string tx) ∧ bx.cell? ⟨wr.heap.size, 3, none⟩ = some (.int .i64 m.num) ∧ bx.cell? ⟨wr.heap.size, 4, none⟩ = some (.bool m.flag)) := by
          rw [← hbx]
          exact ⟨by simp, range_new wr _ _ 0 _ rfl, range_new wr _ _ 1 _ rfl, range_new wr _ _ 2 _ rfl, range_new wr _ _ 3 _ rfl, range_new wr _ _ 4 _ rfl⟩
        have HHX := hide hbx
        clear hbx
        by_cases hi0 : i = 0
        · have hii : ¬ (0 : Int) < (i : Int) := by omega
          have HMk : Hid (∀ u, Json.SpeltMem m u → Json.SpeltRow (l.take (i + 1)) (body ++ u)) := by
            intro u hu
            rcases hrow.out with ⟨_, h⟩ | h
            · rw [HSN.out, h, hi0, List.take_zero]
              have := Json.SpeltRow.one hu Json.allBl_nil
              rw [List.append_nil] at this
              exact this
            · rw [hi0, List.take_zero] at h; exact absurd h (by intro hh; exact hh)
          have HI0 := hide hi0
          clear hi0
          go_wp2_with fail
          rw [HHX.out]
          obtain ⟨wA, hwA⟩ : ∃ wA, bx = wA := ⟨_, rfl⟩
          obtain ⟨Zp, hZp⟩ : ∃ Zp, Z = Zp := ⟨_, rfl⟩
          obtain ⟨bp, hbp⟩ : ∃ bp, body = bp := ⟨_, rfl⟩
          have HbA : Hid (Below (w.heap.size + 1) wx wA) := by rw [← hwA]; exact HBX.out
          have HmB := HmX
          have HZp : Hid (Zp.data.toList = pre ++ bp) := by rw [← hZp, ← hbp]; exact hZd.out
          have hZps : Zp.size ≤ 12 + 2 * tot (l.take i) + 11 := by rw [← hZp]; omega
          have hZpB : Zp.size ≤ 29360228 := by have := Hnm.out; omega
          rw [hwA] at HmB
          rw [hwA, hZp]
          rw [hbp] at HMk
          clear hwA hZp hbp
          have HbW := hide (HW0.out.trans (HbA.out.mono (Nat.le_succ _)))
          have xT : ∀ X, Below wA.heap.size wA X → X.cell? ⟨w.heap.size, 1, none⟩ = some (.slice ot nt ct) := fun X hX => (hX.cell (by have := HbA.out.size; have := HZ0.out; show w.heap.size < _; omega)).trans ((HbA.out.cell (Nat.lt_succ_self _)).trans HC1.out)
          have xN : ∀ X, Below wA.heap.size wA X → X.cell? ⟨wr.heap.size, 0, none⟩ = some (.string nm) := fun X hX => (hX.cell (p := ⟨wr.heap.size, 0, none⟩) HmB.out.1).trans HmB.out.2.1
          have t3 := (HTR.out ((A : Int) + 3) (by omega) (by omega)).1
          have t4 := (HTR.out ((A : Int) + 4) (by omega) (by omega)).1
          obtain ⟨G3, g3, y3, z3⟩ := gap_str HG.out _ t3
          obtain ⟨G4, g4, y4, z4⟩ := gap_str HG.out _ t4
          have x3 : ∀ X, Below wA.heap.size wA X → X.cell? ⟨0, tr ((A : Int) + 3), none⟩ = some (.string G3) := fun X hX => ((HbW.out.trans (hX.mono HbW.out.size)).cell (World.block_lt_of_cell? w _ g3)).trans g3
          have x4 : ∀ X, Below wA.heap.size wA X → X.cell? ⟨0, tr ((A : Int) + 4), none⟩ = some (.string G4) := fun X hX => ((HbW.out.trans (hX.mono HbW.out.size)).cell (World.block_lt_of_cell? w _ g4)).trans g4
          have t30 : (0 : Int) ≤ (tr ((A : Int) + 3) : Int) := by omega
          have t38 : (tr ((A : Int) + 3) : Int) < 8 := by omega
          have t40 : (0 : Int) ≤ (tr ((A : Int) + 4) : Int) := by omega
          have t48 : (tr ((A : Int) + 4) : Int) < 8 := by omega
          have a2 : IntKind.i64.wrap ((A : Int) + 2) = (A : Int) + 2 := wrap_id _ (by omega) (by omega)
          have a3 : IntKind.i64.wrap ((A : Int) + 3) = (A : Int) + 3 := wrap_id _ (by omega) (by omega)
          have a4 : IntKind.i64.wrap ((A : Int) + 4) = (A : Int) + 4 := wrap_id _ (by omega) (by omega)
          have HY3 := hide y3
          have HY4 := hide y4
          have HQt : Hid (∀ X, Below w.heap.size w X → Calls Tryd.prog 15 #[.string nm, .slice ot nt ct, .int .i64 ((A : Int) + 2)] X fun x w' => (∃ (u : List UInt8) (Q Z5 Z6 Z7 : ByteArray), x = .returned (.string Q) ∧ Hid (Json.Spelt nm.data.toList u ∧ Q.size ≤ 12 * nm.size + 2 ∧ Q.data.toList = 34 :: (u ++ [34]) ∧ Z7.size + G4.size ≤ Zp.size + 12 * nm.size + 13 ∧ (Z7 ++ G4).data.toList = Zp.data.toList ++ (34 :: (u ++ [34])) ++ G3.data.toList ++ 58 :: G4.data.toList) ∧ Zp ++ Q = Z5 ∧ Z5 ++ G3 = Z6 ∧ Z6 ++ (⟨#[58]⟩ : ByteArray) = Z7 ∧ ¬ (9223372036854775807 < Zp.size + Q.size) ∧ ¬ (9223372036854775807 < Z5.size + G3.size) ∧ ¬ (9223372036854775807 < Z6.size + 1) ∧ ¬ (9223372036854775807 < Z7.size + G4.size)) ∧ Below X.heap.size X w') := by
            intro X hX
            refine (lquoted_any nm (.slice ot nt ct) (A + 2) X (by have := Hnm.out; omega) HnV.out (HT.out.below hX) (by omega) _ (by omega)).mono ?_
            rintro x w' ⟨⟨u, rfl, hsp, hul⟩, hb⟩
            have q1 : (⟨(34 :: (u ++ [34])).toArray⟩ : ByteArray).size ≤ 12 * nm.size + 2 := by rw [str_size]; simp; omega
            have q5 : (⟨#[58]⟩ : ByteArray).size = 1 := rfl
            have := Hnm.out
            refine ⟨⟨u, ⟨(34 :: (u ++ [34])).toArray⟩, _, _, _, rfl, ⟨hsp, q1, rfl, ?_, ?_⟩, rfl, rfl, rfl, by omega, ?_, ?_, ?_⟩, hb⟩
            · simp only [ByteArray.size_append]; omega
            · simp only [ByteArray.toList_data_append]
              simp
            · simp only [ByteArray.size_append]; omega
            · simp only [ByteArray.size_append]; omega
            · simp only [ByteArray.size_append]; omega
          have HTB : Hid (∀ J : Int, 0 ≤ J → J ≤ 4611686018427387904 → ∀ X, Below w.heap.size w X → Calls Tryd.prog 14 #[.slice ot nt ct, .int .i64 J, .int .i64 8] X fun x w' => x = .returned (.int .i64 (tr J : Int)) ∧ Below X.heap.size X w') := fun J h0 h1 X hX => ((HTR.out J h0 h1).2 X hX).mono (fun _ _ ⟨a, n, b⟩ => ⟨a, by rw [b]; exact bdrew (Below.refl _ _) _⟩)
          clear y3 y4 g3 g4
          go_region_held3 (fun X => Below wA.heap.size wA X)
            (first
              | exact Below.refl _ _
              | assumption
              | exact bdrew (by assumption) _
              | exact bdrew2 (by assumption) _
              | exact keepD (by assumption) (by assumption)
              | exact Below.drew (by assumption)
              | exact (Below.refl _ _).drew)
            (first
              | (go_at_call 15; refine (HQt.out _ (HbW.out.trans (Below.mono (by assumption) HbW.out.size))).mono ?_; rintro x w7 ⟨⟨u7, Q, Z5, Z6, Z7, rfl, HA7, hZ5, hZ6, hZ7, e5, e6, e7, e8⟩, hb7⟩)
              | (go_at_call 14; refine (HTB.out _ (by omega) (by omega) _ (HbW.out.trans (Below.mono (by assumption) HbW.out.size))).mono ?_; rintro x w8 ⟨rfl, hb8⟩))
          have HB8 : Hid (Below wA.heap.size wA w8) := by assumption
          have HW8 := hide (HbW.out.trans (HB8.out.mono HbW.out.size))
          have k1 : w8.cell? ⟨wr.heap.size, 1, none⟩ = some (.int .i64 m.kind) := (HB8.out.cell (p := ⟨wr.heap.size, 1, none⟩) HmB.out.1).trans HmB.out.2.2.1
          have k2 : w8.cell? ⟨wr.heap.size, 2, none⟩ = some (.string tx) := (HB8.out.cell (p := ⟨wr.heap.size, 2, none⟩) HmB.out.1).trans HmB.out.2.2.2.1
          have k3 : w8.cell? ⟨wr.heap.size, 3, none⟩ = some (.int .i64 m.num) := (HB8.out.cell (p := ⟨wr.heap.size, 3, none⟩) HmB.out.1).trans HmB.out.2.2.2.2.1
          have k4 : w8.cell? ⟨wr.heap.size, 4, none⟩ = some (.bool m.flag) := (HB8.out.cell (p := ⟨wr.heap.size, 4, none⟩) HmB.out.1).trans HmB.out.2.2.2.2.2
          have HZ8 : Hid (∃ Z8, Z7 ++ G4 = Z8) := ⟨_, rfl⟩
          obtain ⟨Z8, hZ8⟩ : ∃ Z8, Z7 ++ G4 = Z8 := ⟨_, rfl⟩
          rw [hZ8] at HA7
          have hZ8s : Z8.size ≤ Zp.size + 12 * nm.size + 13 := by rw [← hZ8, ByteArray.size_append]; exact HA7.out.2.2.2.1
          clear hb7 hb8 xT xN x3 x4 HQt t3 t4 t30 t38 t40 t48 a2 a3 a4 e5 e6 e7 e8 hZ5 hZ6 hZ7 HZ8
          rw [hZ8]
          clear hZ8
          go_wp2_with fail
          refine (refObject_any _ [⟨[], m.kind, [], m.num, m.flag⟩] _ (lies_one w8 ⟨[], m.kind, [], m.num, m.flag⟩ _) (by intro q hq; simp at hq; subst hq; exact HMR.out) (by simp [tot]) (by simp) (HB.out.below (HW8.out.alloc HW8.out.size _)).pow).mono ?_
          rintro x w9 ⟨rfl, hb9⟩
          rw [if_pos (check_alone m.kind m.num m.flag HMK.out.1), Json.alone_obj]
          have HB9 : Hid (Below wA.heap.size wA w9) := (HB8.out.alloc HB8.out.size _).trans (hb9.mono (by have := HB8.out.size; simp; omega))
          have HW9 := hide (HbW.out.trans (HB9.out.mono HbW.out.size))
          clear hb9 k1 k2 k3 k4
          have k0 : w9.cell? ⟨wr.heap.size, 0, none⟩ = some (.string nm) := (HB9.out.cell (p := ⟨wr.heap.size, 0, none⟩) HmB.out.1).trans HmB.out.2.1
          have k1 : w9.cell? ⟨wr.heap.size, 1, none⟩ = some (.int .i64 m.kind) := (HB9.out.cell (p := ⟨wr.heap.size, 1, none⟩) HmB.out.1).trans HmB.out.2.2.1
          have k2 : w9.cell? ⟨wr.heap.size, 2, none⟩ = some (.string tx) := (HB9.out.cell (p := ⟨wr.heap.size, 2, none⟩) HmB.out.1).trans HmB.out.2.2.2.1
          have kT : w9.cell? ⟨w.heap.size, 1, none⟩ = some (.slice ot nt ct) := (HB9.out.cell (by have := HbA.out.size; have := HZ0.out; show w.heap.size < _; omega)).trans ((HbA.out.cell (Nat.lt_succ_self _)).trans HC1.out)
          have HVL := hide (val_len m.kind m.num m.flag HMR.out)
          have HVA := hide (fun h => val_alone (m := m) HMK.out.1 h HMR.out)
          generalize Json.valueOf ⟨[], m.kind, [], m.num, m.flag⟩ = va at *
          obtain ⟨on, hon⟩ : ∃ on : ByteArray, (⟨(123 :: 34 :: 34 :: 58 :: (va ++ [125])).toArray⟩ : ByteArray) = on := ⟨_, rfl⟩
          have HON := hide (alone_ext on va (by rw [← hon]))
          unfold S
          rw [hon]
          clear hon
          by_cases hk1 : m.kind = 1
          · have hnB : nm.size ≤ 14680064 := Hnm.out.1
            have htB : tx.size ≤ 14680064 := Hnm.out.2.1
            have HtV : Hid (Lib.validD tx.data.toList = true) := by
              show _ = _
              rw [Htd.out]
              have := HMK.out.2
              unfold Json.plainMem at this
              have := (Bool.and_eq_true_iff.1 this).2
              simpa [hk1] using this
            have HK1 := hide hk1
            go_wp2_with fail
            clear hk1
            refine (lquoted_any tx (.slice ot nt ct) (A + 5) w9 (by omega) HtV.out (HT.out.below HW9.out) (by omega) _ (by omega)).mono ?_
            rintro x w10 ⟨⟨u10, rfl, hsp10, hul10⟩, hb10⟩
            have HX10 : Hid (Below (w.heap.size + 1) wx w10) := (HbA.out.trans (HB9.out.mono (by have := HbA.out.size; have := HZ0.out; omega))).trans (hb10.mono (by have := HbA.out.size; have := HB9.out.size; have := HZ0.out; omega))
            have k10 : w10.cell? ⟨wr.heap.size, 0, none⟩ = some (.string nm) := (hb10.cell (p := ⟨wr.heap.size, 0, none⟩) (Nat.lt_of_lt_of_le HmB.out.1 HB9.out.size)).trans k0
            have HSP := hide hsp10
            obtain ⟨vb, hvb⟩ : ∃ vb : ByteArray, (⟨(34 :: (u10 ++ [34])).toArray⟩ : ByteArray) = vb := ⟨_, rfl⟩
            have HVB : Hid (vb.data.toList = 34 :: (u10 ++ [34])) := by show _ = _; rw [← hvb]
            have hvs : vb.size ≤ 12 * tx.size + 2 := by rw [← hvb, str_size]; simp; omega
            have s9 : ¬ (9223372036854775807 < Z8.size + vb.size) := by omega
            unfold S
            rw [hvb]
            clear hvb hb10 hsp10 hul10 k0 k1 k2 kT
            go_wp2_with fail
            go_roundw
            case rel => exact ⟨i + 1, A + 7 + nm.size, Z8 ++ vb, bp ++ (34 :: (u7 ++ 34 :: (G3.data.toList ++ 58 :: (G4.data.toList ++ vb.data.toList)))), by omega, by go_num, by go_num, by have h1 := HTT.out; have h2 := Hns.out; have h3 := Hts.out; omega, rfl, by rw [ByteArray.size_append]; have h1 := HTT.out; have h2 := Hns.out; have h3 := Hts.out; omega, by show _ = _; rw [ByteArray.toList_data_append, HA7.out.2.2.2.2, HZp.out]; simp [List.append_assoc], Or.inr (HMk.out _ ⟨u7, G3.data.toList, G4.data.toList, vb.data.toList, by rw [← Hnd.out]; exact HA7.out.1, HY3.out, HY4.out, by rw [HVB.out]; exact Or.inl ⟨HK1.out, u10, by rw [← Htd.out]; exact HSP.out, rfl⟩, rfl⟩), HX10⟩
            case measure => simp [intOf]; omega
          · have hkb : (m.kind == 1) = false := beq_false_of_ne hk1
            have HK1 := hide hk1
            have hos : on.size = va.length + 5 := HON.out.1
            have o1 : (4 : Int) ≤ (on.size : Int) - 1 := by omega
            have o2 : (on.size : Int) - 1 ≤ (on.size : Int) := by omega
            have o3 : ((on.size : Int) - 1).toNat = on.size - 1 := by omega
            have o4 : (0 : Int) ≤ (on.size : Int) - 1 := by omega
            obtain ⟨vb, hvb⟩ : ∃ vb, on.extract 4 (on.size - 1) = vb := ⟨_, rfl⟩
            have HVB : Hid (vb.data.toList = va) := by show _ = _; rw [← hvb]; exact HON.out.2
            have hvs : vb.size ≤ 21 := by have h1 := congrArg List.length HVB.out; rw [len_list] at h1; have := HVL.out; omega
            have s9 : ¬ (9223372036854775807 < Z8.size + vb.size) := by have := Hnm.out; omega
            have HOS := hide hos
            have ob1 : 5 ≤ on.size := by omega
            have ob2 : on.size ≤ 26 := by have := HVL.out; omega
            have hnB : nm.size ≤ 14680064 := Hnm.out.1
            clear hk1 hos
            go_wp2_with fail
            go_roundw
            case rel => exact ⟨i + 1, A + 7 + nm.size, Z8 ++ vb, bp ++ (34 :: (u7 ++ 34 :: (G3.data.toList ++ 58 :: (G4.data.toList ++ vb.data.toList)))), by omega, by go_num, by go_num, by have h1 := HTT.out; have h2 := Hns.out; have h3 := Hts.out; omega, rfl, by rw [ByteArray.size_append]; have h1 := HTT.out; have h2 := Hns.out; have h3 := Hts.out; omega, by show _ = _; rw [ByteArray.toList_data_append, HA7.out.2.2.2.2, HZp.out]; simp [List.append_assoc], Or.inr (HMk.out _ ⟨u7, G3.data.toList, G4.data.toList, vb.data.toList, by rw [← Hnd.out]; exact HA7.out.1, HY3.out, HY4.out, by rw [HVB.out]; exact HVA.out HK1.out, rfl⟩), HbA.out.trans (HB9.out.mono (by have := HbA.out.size; have := HZ0.out; omega))⟩
            case measure => simp [intOf]; omega
        · have hii : (0 : Int) < (i : Int) := by omega
          have t5 := (HTR.out (A : Int) (by omega) (by omega)).1
          have t6 := (HTR.out ((A : Int) + 1) (by omega) (by omega)).1
          obtain ⟨G5, g5, y5, z5⟩ := gap_str HG.out _ t5
          obtain ⟨G6, g6, y6, z6⟩ := gap_str HG.out _ t6
          have HbX := hide (HW0.out.trans (HBX.out.mono (Nat.le_succ _)))
          have x5 : bx.cell? ⟨0, tr (A : Int), none⟩ = some (.string G5) := (HbX.out.cell (World.block_lt_of_cell? w _ g5)).trans g5
          have x6 : bx.cell? ⟨0, tr ((A : Int) + 1), none⟩ = some (.string G6) := (HbX.out.cell (World.block_lt_of_cell? w _ g6)).trans g6
          have xT : bx.cell? ⟨w.heap.size, 1, none⟩ = some (.slice ot nt ct) := (HBX.out.cell (Nat.lt_succ_self _)).trans HC1.out
          have HMk : Hid (∀ u, Json.SpeltMem m u → Json.SpeltRow (l.take (i + 1)) (((body ++ G5.data.toList) ++ 44 :: G6.data.toList) ++ u)) := by
            intro u hu
            rcases hrow.out with ⟨h, _⟩ | h
            · exact absurd h hi0
            · have := Json.SpeltRow.snoc _ h y5 y6 hu
              rw [HSN.out]
              simpa [List.append_assoc] using this
          obtain ⟨Y5, hY5⟩ : ∃ Y, Z ++ G5 = Y := ⟨_, rfl⟩
          obtain ⟨Y6, hY6⟩ : ∃ Y, Y5 ++ (⟨#[44]⟩ : ByteArray) = Y := ⟨_, rfl⟩
          have hY5s : Y5.size ≤ Z.size + 5 := by rw [← hY5, ByteArray.size_append]; omega
          have hY6s : Y6.size ≤ Z.size + 6 := by rw [← hY6, ByteArray.size_append]; have : (⟨#[44]⟩ : ByteArray).size = 1 := rfl; omega
          have f5 : ¬ (9223372036854775807 < Z.size + G5.size) := by omega
          have f6 : ¬ (9223372036854775807 < Y5.size + 1) := by omega
          have f7 : ¬ (9223372036854775807 < Y6.size + G6.size) := by omega
          have w5 : IntKind.i64.wrap ((A : Int) + 1) = (A : Int) + 1 := wrap_id _ (by omega) (by omega)
          have n5 : (0 : Int) ≤ (tr (A : Int) : Int) := by omega
          have n6 : (tr (A : Int) : Int) < 8 := by omega
          have n7 : (0 : Int) ≤ (tr ((A : Int) + 1) : Int) := by omega
          have n8 : (tr ((A : Int) + 1) : Int) < 8 := by omega
          have HYd : Hid ((Y6 ++ G6).data.toList = pre ++ ((body ++ G5.data.toList) ++ 44 :: G6.data.toList)) := by
            show _ = _
            rw [← hY6, ← hY5]
            simp only [ByteArray.toList_data_append, hZd.out]
            simp [List.append_assoc]
          have HI0 := hide hi0
          clear hi0 g5 g6 y5 y6
          go_wp2_with fail
          rw [HHX.out]
          go_quiet ((go_at_call 14; exact Calls.quiet_of ((HTR.out _ (by omega) (by omega)).2 _ (bdrew HbX.out _))))
          go_wp2_with fail
          obtain ⟨wA, hwA⟩ : ∃ wA, bx.drewN nq = wA := ⟨_, rfl⟩
          obtain ⟨Zp, hZp⟩ : ∃ Zp, Y6 ++ G6 = Zp := ⟨_, rfl⟩
          obtain ⟨bp, hbp⟩ : ∃ bp, (body ++ G5.data.toList) ++ 44 :: G6.data.toList = bp := ⟨_, rfl⟩
          have HbA : Hid (Below (w.heap.size + 1) wx wA) := by rw [← hwA]; exact bdrew HBX.out nq
          have HmB : Hid (wr.heap.size < wA.heap.size ∧ wA.cell? ⟨wr.heap.size, 0, none⟩ = some (.string nm) ∧ wA.cell? ⟨wr.heap.size, 1, none⟩ = some (.int .i64 m.kind) ∧ wA.cell? ⟨wr.heap.size, 2, none⟩ = some (.string tx) ∧ wA.cell? ⟨wr.heap.size, 3, none⟩ = some (.int .i64 m.num) ∧ wA.cell? ⟨wr.heap.size, 4, none⟩ = some (.bool m.flag)) := by rw [← hwA]; exact HmX.out
          have HZp : Hid (Zp.data.toList = pre ++ bp) := by rw [← hZp, ← hbp]; exact HYd.out
          have hZps : Zp.size ≤ 12 + 2 * tot (l.take i) + 11 := by rw [← hZp, ByteArray.size_append]; omega
          have hZpB : Zp.size ≤ 29360228 := by have := Hnm.out; omega
          rw [hwA, hZp]
          rw [hbp] at HMk
          clear hwA hZp hbp hY5 hY6 hY5s hY6s f5 f6 f7 w5 x5 x6 xT n5 n6 n7 n8 t5 t6 z5 z6
          have HbW := hide (HW0.out.trans (HbA.out.mono (Nat.le_succ _)))
          have xT : ∀ X, Below wA.heap.size wA X → X.cell? ⟨w.heap.size, 1, none⟩ = some (.slice ot nt ct) := fun X hX => (hX.cell (by have := HbA.out.size; have := HZ0.out; show w.heap.size < _; omega)).trans ((HbA.out.cell (Nat.lt_succ_self _)).trans HC1.out)
          have xN : ∀ X, Below wA.heap.size wA X → X.cell? ⟨wr.heap.size, 0, none⟩ = some (.string nm) := fun X hX => (hX.cell (p := ⟨wr.heap.size, 0, none⟩) HmB.out.1).trans HmB.out.2.1
          have t3 := (HTR.out ((A : Int) + 3) (by omega) (by omega)).1
          have t4 := (HTR.out ((A : Int) + 4) (by omega) (by omega)).1
          obtain ⟨G3, g3, y3, z3⟩ := gap_str HG.out _ t3
          obtain ⟨G4, g4, y4, z4⟩ := gap_str HG.out _ t4
          have x3 : ∀ X, Below wA.heap.size wA X → X.cell? ⟨0, tr ((A : Int) + 3), none⟩ = some (.string G3) := fun X hX => ((HbW.out.trans (hX.mono HbW.out.size)).cell (World.block_lt_of_cell? w _ g3)).trans g3
          have x4 : ∀ X, Below wA.heap.size wA X → X.cell? ⟨0, tr ((A : Int) + 4), none⟩ = some (.string G4) := fun X hX => ((HbW.out.trans (hX.mono HbW.out.size)).cell (World.block_lt_of_cell? w _ g4)).trans g4
          have t30 : (0 : Int) ≤ (tr ((A : Int) + 3) : Int) := by omega
          have t38 : (tr ((A : Int) + 3) : Int) < 8 := by omega
          have t40 : (0 : Int) ≤ (tr ((A : Int) + 4) : Int) := by omega
          have t48 : (tr ((A : Int) + 4) : Int) < 8 := by omega
          have a2 : IntKind.i64.wrap ((A : Int) + 2) = (A : Int) + 2 := wrap_id _ (by omega) (by omega)
          have a3 : IntKind.i64.wrap ((A : Int) + 3) = (A : Int) + 3 := wrap_id _ (by omega) (by omega)
          have a4 : IntKind.i64.wrap ((A : Int) + 4) = (A : Int) + 4 := wrap_id _ (by omega) (by omega)
          have HY3 := hide y3
          have HY4 := hide y4
          have HQt : Hid (∀ X, Below w.heap.size w X → Calls Tryd.prog 15 #[.string nm, .slice ot nt ct, .int .i64 ((A : Int) + 2)] X fun x w' => (∃ (u : List UInt8) (Q Z5 Z6 Z7 : ByteArray), x = .returned (.string Q) ∧ Hid (Json.Spelt nm.data.toList u ∧ Q.size ≤ 12 * nm.size + 2 ∧ Q.data.toList = 34 :: (u ++ [34]) ∧ Z7.size + G4.size ≤ Zp.size + 12 * nm.size + 13 ∧ (Z7 ++ G4).data.toList = Zp.data.toList ++ (34 :: (u ++ [34])) ++ G3.data.toList ++ 58 :: G4.data.toList) ∧ Zp ++ Q = Z5 ∧ Z5 ++ G3 = Z6 ∧ Z6 ++ (⟨#[58]⟩ : ByteArray) = Z7 ∧ ¬ (9223372036854775807 < Zp.size + Q.size) ∧ ¬ (9223372036854775807 < Z5.size + G3.size) ∧ ¬ (9223372036854775807 < Z6.size + 1) ∧ ¬ (9223372036854775807 < Z7.size + G4.size)) ∧ Below X.heap.size X w') := by
            intro X hX
            refine (lquoted_any nm (.slice ot nt ct) (A + 2) X (by have := Hnm.out; omega) HnV.out (HT.out.below hX) (by omega) _ (by omega)).mono ?_
            rintro x w' ⟨⟨u, rfl, hsp, hul⟩, hb⟩
            have q1 : (⟨(34 :: (u ++ [34])).toArray⟩ : ByteArray).size ≤ 12 * nm.size + 2 := by rw [str_size]; simp; omega
            have q5 : (⟨#[58]⟩ : ByteArray).size = 1 := rfl
            have := Hnm.out
            refine ⟨⟨u, ⟨(34 :: (u ++ [34])).toArray⟩, _, _, _, rfl, ⟨hsp, q1, rfl, ?_, ?_⟩, rfl, rfl, rfl, by omega, ?_, ?_, ?_⟩, hb⟩
            · simp only [ByteArray.size_append]; omega
            · simp only [ByteArray.toList_data_append]
              simp
            · simp only [ByteArray.size_append]; omega
            · simp only [ByteArray.size_append]; omega
            · simp only [ByteArray.size_append]; omega
          have HTB : Hid (∀ J : Int, 0 ≤ J → J ≤ 4611686018427387904 → ∀ X, Below w.heap.size w X → Calls Tryd.prog 14 #[.slice ot nt ct, .int .i64 J, .int .i64 8] X fun x w' => x = .returned (.int .i64 (tr J : Int)) ∧ Below X.heap.size X w') := fun J h0 h1 X hX => ((HTR.out J h0 h1).2 X hX).mono (fun _ _ ⟨a, n, b⟩ => ⟨a, by rw [b]; exact bdrew (Below.refl _ _) _⟩)
          clear y3 y4 g3 g4
          go_region_held3 (fun X => Below wA.heap.size wA X)
            (first
              | exact Below.refl _ _
              | assumption
              | exact bdrew (by assumption) _
              | exact bdrew2 (by assumption) _
              | exact keepD (by assumption) (by assumption)
              | exact Below.drew (by assumption)
              | exact (Below.refl _ _).drew)
            (first
              | (go_at_call 15; refine (HQt.out _ (HbW.out.trans (Below.mono (by assumption) HbW.out.size))).mono ?_; rintro x w7 ⟨⟨u7, Q, Z5, Z6, Z7, rfl, HA7, hZ5, hZ6, hZ7, e5, e6, e7, e8⟩, hb7⟩)
              | (go_at_call 14; refine (HTB.out _ (by omega) (by omega) _ (HbW.out.trans (Below.mono (by assumption) HbW.out.size))).mono ?_; rintro x w8 ⟨rfl, hb8⟩))
          have HB8 : Hid (Below wA.heap.size wA w8) := by assumption
          have HW8 := hide (HbW.out.trans (HB8.out.mono HbW.out.size))
          have k1 : w8.cell? ⟨wr.heap.size, 1, none⟩ = some (.int .i64 m.kind) := (HB8.out.cell (p := ⟨wr.heap.size, 1, none⟩) HmB.out.1).trans HmB.out.2.2.1
          have k2 : w8.cell? ⟨wr.heap.size, 2, none⟩ = some (.string tx) := (HB8.out.cell (p := ⟨wr.heap.size, 2, none⟩) HmB.out.1).trans HmB.out.2.2.2.1
          have k3 : w8.cell? ⟨wr.heap.size, 3, none⟩ = some (.int .i64 m.num) := (HB8.out.cell (p := ⟨wr.heap.size, 3, none⟩) HmB.out.1).trans HmB.out.2.2.2.2.1
          have k4 : w8.cell? ⟨wr.heap.size, 4, none⟩ = some (.bool m.flag) := (HB8.out.cell (p := ⟨wr.heap.size, 4, none⟩) HmB.out.1).trans HmB.out.2.2.2.2.2
          have HZ8 : Hid (∃ Z8, Z7 ++ G4 = Z8) := ⟨_, rfl⟩
          obtain ⟨Z8, hZ8⟩ : ∃ Z8, Z7 ++ G4 = Z8 := ⟨_, rfl⟩
          rw [hZ8] at HA7
          have hZ8s : Z8.size ≤ Zp.size + 12 * nm.size + 13 := by rw [← hZ8, ByteArray.size_append]; exact HA7.out.2.2.2.1
          clear hb7 hb8 xT xN x3 x4 HQt t3 t4 t30 t38 t40 t48 a2 a3 a4 e5 e6 e7 e8 hZ5 hZ6 hZ7 HZ8
          rw [hZ8]
          clear hZ8
          go_wp2_with fail
          refine (refObject_any _ [⟨[], m.kind, [], m.num, m.flag⟩] _ (lies_one w8 ⟨[], m.kind, [], m.num, m.flag⟩ _) (by intro q hq; simp at hq; subst hq; exact HMR.out) (by simp [tot]) (by simp) (HB.out.below (HW8.out.alloc HW8.out.size _)).pow).mono ?_
          rintro x w9 ⟨rfl, hb9⟩
          rw [if_pos (check_alone m.kind m.num m.flag HMK.out.1), Json.alone_obj]
          have HB9 : Hid (Below wA.heap.size wA w9) := (HB8.out.alloc HB8.out.size _).trans (hb9.mono (by have := HB8.out.size; simp; omega))
          have HW9 := hide (HbW.out.trans (HB9.out.mono HbW.out.size))
          clear hb9 k1 k2 k3 k4
          have k0 : w9.cell? ⟨wr.heap.size, 0, none⟩ = some (.string nm) := (HB9.out.cell (p := ⟨wr.heap.size, 0, none⟩) HmB.out.1).trans HmB.out.2.1
          have k1 : w9.cell? ⟨wr.heap.size, 1, none⟩ = some (.int .i64 m.kind) := (HB9.out.cell (p := ⟨wr.heap.size, 1, none⟩) HmB.out.1).trans HmB.out.2.2.1
          have k2 : w9.cell? ⟨wr.heap.size, 2, none⟩ = some (.string tx) := (HB9.out.cell (p := ⟨wr.heap.size, 2, none⟩) HmB.out.1).trans HmB.out.2.2.2.1
          have kT : w9.cell? ⟨w.heap.size, 1, none⟩ = some (.slice ot nt ct) := (HB9.out.cell (by have := HbA.out.size; have := HZ0.out; show w.heap.size < _; omega)).trans ((HbA.out.cell (Nat.lt_succ_self _)).trans HC1.out)
          have HVL := hide (val_len m.kind m.num m.flag HMR.out)
          have HVA := hide (fun h => val_alone (m := m) HMK.out.1 h HMR.out)
          generalize Json.valueOf ⟨[], m.kind, [], m.num, m.flag⟩ = va at *
          obtain ⟨on, hon⟩ : ∃ on : ByteArray, (⟨(123 :: 34 :: 34 :: 58 :: (va ++ [125])).toArray⟩ : ByteArray) = on := ⟨_, rfl⟩
          have HON := hide (alone_ext on va (by rw [← hon]))
          unfold S
          rw [hon]
          clear hon
          by_cases hk1 : m.kind = 1
          · have hnB : nm.size ≤ 14680064 := Hnm.out.1
            have htB : tx.size ≤ 14680064 := Hnm.out.2.1
            have HtV : Hid (Lib.validD tx.data.toList = true) := by
              show _ = _
              rw [Htd.out]
              have := HMK.out.2
              unfold Json.plainMem at this
              have := (Bool.and_eq_true_iff.1 this).2
              simpa [hk1] using this
            have HK1 := hide hk1
            go_wp2_with fail
            clear hk1
            refine (lquoted_any tx (.slice ot nt ct) (A + 5) w9 (by omega) HtV.out (HT.out.below HW9.out) (by omega) _ (by omega)).mono ?_
            rintro x w10 ⟨⟨u10, rfl, hsp10, hul10⟩, hb10⟩
            have HX10 : Hid (Below (w.heap.size + 1) wx w10) := (HbA.out.trans (HB9.out.mono (by have := HbA.out.size; have := HZ0.out; omega))).trans (hb10.mono (by have := HbA.out.size; have := HB9.out.size; have := HZ0.out; omega))
            have k10 : w10.cell? ⟨wr.heap.size, 0, none⟩ = some (.string nm) := (hb10.cell (p := ⟨wr.heap.size, 0, none⟩) (Nat.lt_of_lt_of_le HmB.out.1 HB9.out.size)).trans k0
            have HSP := hide hsp10
            obtain ⟨vb, hvb⟩ : ∃ vb : ByteArray, (⟨(34 :: (u10 ++ [34])).toArray⟩ : ByteArray) = vb := ⟨_, rfl⟩
            have HVB : Hid (vb.data.toList = 34 :: (u10 ++ [34])) := by show _ = _; rw [← hvb]
            have hvs : vb.size ≤ 12 * tx.size + 2 := by rw [← hvb, str_size]; simp; omega
            have s9 : ¬ (9223372036854775807 < Z8.size + vb.size) := by omega
            unfold S
            rw [hvb]
            clear hvb hb10 hsp10 hul10 k0 k1 k2 kT
            go_wp2_with fail
            go_roundw
            case rel => exact ⟨i + 1, A + 7 + nm.size, Z8 ++ vb, bp ++ (34 :: (u7 ++ 34 :: (G3.data.toList ++ 58 :: (G4.data.toList ++ vb.data.toList)))), by omega, by go_num, by go_num, by have h1 := HTT.out; have h2 := Hns.out; have h3 := Hts.out; omega, rfl, by rw [ByteArray.size_append]; have h1 := HTT.out; have h2 := Hns.out; have h3 := Hts.out; omega, by show _ = _; rw [ByteArray.toList_data_append, HA7.out.2.2.2.2, HZp.out]; simp [List.append_assoc], Or.inr (HMk.out _ ⟨u7, G3.data.toList, G4.data.toList, vb.data.toList, by rw [← Hnd.out]; exact HA7.out.1, HY3.out, HY4.out, by rw [HVB.out]; exact Or.inl ⟨HK1.out, u10, by rw [← Htd.out]; exact HSP.out, rfl⟩, rfl⟩), HX10⟩
            case measure => simp [intOf]; omega
          · have hkb : (m.kind == 1) = false := beq_false_of_ne hk1
            have HK1 := hide hk1
            have hos : on.size = va.length + 5 := HON.out.1
            have o1 : (4 : Int) ≤ (on.size : Int) - 1 := by omega
            have o2 : (on.size : Int) - 1 ≤ (on.size : Int) := by omega
            have o3 : ((on.size : Int) - 1).toNat = on.size - 1 := by omega
            have o4 : (0 : Int) ≤ (on.size : Int) - 1 := by omega
            obtain ⟨vb, hvb⟩ : ∃ vb, on.extract 4 (on.size - 1) = vb := ⟨_, rfl⟩
            have HVB : Hid (vb.data.toList = va) := by show _ = _; rw [← hvb]; exact HON.out.2
            have hvs : vb.size ≤ 21 := by have h1 := congrArg List.length HVB.out; rw [len_list] at h1; have := HVL.out; omega
            have s9 : ¬ (9223372036854775807 < Z8.size + vb.size) := by have := Hnm.out; omega
            have HOS := hide hos
            have ob1 : 5 ≤ on.size := by omega
            have ob2 : on.size ≤ 26 := by have := HVL.out; omega
            have hnB : nm.size ≤ 14680064 := Hnm.out.1
            clear hk1 hos
            go_wp2_with fail
            go_roundw
            case rel => exact ⟨i + 1, A + 7 + nm.size, Z8 ++ vb, bp ++ (34 :: (u7 ++ 34 :: (G3.data.toList ++ 58 :: (G4.data.toList ++ vb.data.toList)))), by omega, by go_num, by go_num, by have h1 := HTT.out; have h2 := Hns.out; have h3 := Hts.out; omega, rfl, by rw [ByteArray.size_append]; have h1 := HTT.out; have h2 := Hns.out; have h3 := Hts.out; omega, by show _ = _; rw [ByteArray.toList_data_append, HA7.out.2.2.2.2, HZp.out]; simp [List.append_assoc], Or.inr (HMk.out _ ⟨u7, G3.data.toList, G4.data.toList, vb.data.toList, by rw [← Hnd.out]; exact HA7.out.1, HY3.out, HY4.out, by rw [HVB.out]; exact HVA.out HK1.out, rfl⟩), HbA.out.trans (HB9.out.mono (by have := HbA.out.size; have := HZ0.out; omega))⟩
            case measure => simp [intOf]; omega
      · have hli : ¬ (i : Int) < (l.length : Int) := by omega
        obtain rfl : i = l.length := by omega
        rw [List.take_length] at hrow
        have hAB : A ≤ 14680066 := by rw [List.take_length] at hA; omega
        have hZB : Z.size ≤ 29360140 := by rw [List.take_length] at hZ; omega
        have t5 := (HTR.out (A : Int) (by omega) (by omega)).1
        have t6 := (HTR.out ((A : Int) + 1) (by omega) (by omega)).1
        obtain ⟨G5, g5, y5, z5⟩ := gap_str HG.out _ t5
        obtain ⟨G6, g6, y6, z6⟩ := gap_str HG.out _ t6
        have x5 : wr.cell? ⟨0, tr (A : Int), none⟩ = some (.string G5) := (HWr.out.cell (World.block_lt_of_cell? w _ g5)).trans g5
        have x6 : wr.cell? ⟨0, tr ((A : Int) + 1), none⟩ = some (.string G6) := (HWr.out.cell (World.block_lt_of_cell? w _ g6)).trans g6
        obtain ⟨Y5, hY5⟩ : ∃ Y, Z ++ G5 = Y := ⟨_, rfl⟩
        obtain ⟨Y6, hY6⟩ : ∃ Y, Y5 ++ (⟨#[125]⟩ : ByteArray) = Y := ⟨_, rfl⟩
        have hY5s : Y5.size ≤ Z.size + 5 := by rw [← hY5, ByteArray.size_append]; omega
        have hY6s : Y6.size ≤ Z.size + 6 := by rw [← hY6, ByteArray.size_append]; have : (⟨#[125]⟩ : ByteArray).size = 1 := rfl; omega
        have f5 : ¬ (9223372036854775807 < Z.size + G5.size) := by omega
        have f6 : ¬ (9223372036854775807 < Y5.size + 1) := by omega
        have f7 : ¬ (9223372036854775807 < Y6.size + G6.size) := by omega
        have w5 : IntKind.i64.wrap ((A : Int) + 1) = (A : Int) + 1 := wrap_id _ (by omega) (by omega)
        have n5 : (0 : Int) ≤ (tr (A : Int) : Int) := by omega
        have n6 : (tr (A : Int) : Int) < 8 := by omega
        have n7 : (0 : Int) ≤ (tr ((A : Int) + 1) : Int) := by omega
        have n8 : (tr ((A : Int) + 1) : Int) < 8 := by omega
        have HYd : Hid ((Y6 ++ G6).data.toList = (G0.data.toList ++ 123 :: G1.data.toList) ++ ((body ++ G5.data.toList) ++ 125 :: G6.data.toList)) := by
          show _ = _
          rw [← hY6, ← hY5, Hpre.out]
          simp only [ByteArray.toList_data_append, hZd.out]
          simp [List.append_assoc]
        have HObj : Hid (Json.SpeltObj l (Y6 ++ G6).data.toList) := by
          show Json.SpeltObj _ _
          rw [HYd.out]
          rcases hrow.out with ⟨h, hb0⟩ | h
          · have hl0 : l = [] := List.eq_nil_of_length_eq_zero h
            rw [hl0, hb0]
            have := Json.SpeltObj.bare HY0.out (Json.allBl_append HZ1.out y5) y6
            simpa [List.append_assoc] using this
          · have := Json.SpeltObj.full HY0.out HZ1.out y6 (Json.SpeltRow.gap _ h y5)
            simpa [List.append_assoc] using this
        have HRd := hide (HObj.out.read (HCKO.out.1) HCKO.out.2.2)
        have hFs : (Y6 ++ G6).size ≤ 29360200 := by rw [ByteArray.size_append]; omega
        clear g5 g6 y5 y6
        go_wp2_with fail
        go_quiet ((go_at_call 14; exact Calls.quiet_of ((HTR.out _ (by omega) (by omega)).2 _ (bdrew HWr.out _))))
        go_wp2_with fail
        obtain ⟨F, hF⟩ : ∃ F, Y6 ++ G6 = F := ⟨_, rfl⟩
        rw [hF] at HRd hFs
        rw [hF]
        have HX11 := hide (bdrew hX.out nq)
        have HW11 := hide (bdrew HWr.out nq)
        clear hF hY5 hY6 hY5s hY6s f5 f6 f7 w5 x5 x6 n5 n6 n7 n8 t5 t6 z5 z6 HYd HObj c0 c1
        generalize wr.drewN nq = w11 at *
        have HBr := hide (fun (W : World) (h : Lies W (.slice oa l.length ca) l) => bareM_any (.slice oa l.length ca) l W h hb)
        have hBl : (l.map Json.bareMem).length ≤ 4611686018427387904 := by rw [List.length_map]; exact hlen
        generalize l.map Json.bareMem = Bm at *
        have HBl := hide hBl
        clear hBl
        refine (readB (HB.out.below HW11.out) (by unfold reachBytes; omega)).mono ?_
        rintro x w12 ⟨⟨mv, rfl, ho12⟩, hb12⟩
        rw [HRd.out] at ho12
        rw [HRd.out]
        have hev : errV e ((0, Bm) : Nat × List Mem).1 = .nilIface := rfl
        rw [hev]
        have HX12 := hide (HX11.out.trans (hb12.mono (by have := HX11.out.size; have := HZ0.out; omega)))
        have HW12 := hide (HW11.out.trans (hb12.mono HW11.out.size))
        have HM12 := hide (lies_of_own ho12)
        obtain ⟨o12, p12, rfl⟩ := own_form ho12
        have c12 : w12.cell? ⟨w.heap.size, 0, none⟩ = some (.slice oa l.length ca) := (HX12.out.cell (Nat.lt_succ_self _)).trans HC0.out
        clear hb12 ho12 hev
        go_wp2_with fail
        refine (HBr.out w12 (HL.out.below HW12.out)).mono ?_
        rintro x w13 ⟨v13, rfl, ho13, hb13⟩
        have HW13 := hide (HW12.out.trans (hb13.mono HW12.out.size))
        have HM13 := hide (HM12.out.below hb13)
        have HN13 := hide (lies_of_own ho13)
        obtain ⟨o13, p13, rfl⟩ := own_form ho13
        clear hb13 ho13
        go_wp2_with fail
        refine (sameM_any _ _ Bm w13 HM13.out HN13.out HBl.out).mono ?_
        rintro x w14 ⟨rfl, hb14⟩
        have HW14 := hide (HW13.out.trans (hb14.mono HW13.out.size))
        clear hb14
        go_wp2
        go_ret
        exact ⟨rfl, HW14.out⟩
  · rw [if_neg hck]
    have hcc := check_code l
    have HA : Hid (objAns e l = .tuple #[S [], errV e (Json.check l)]) := by
      show _ = _
      unfold objAns errV
      rw [if_neg hck, if_neg hck]
    have HNM := hide (fun (W : World) (h : Errs W e) => num_errC W e h (Json.check l) hcc)
    generalize hev : errV e (Json.check l) = ev at *
    have hcp : ((Json.check l : Int) == 0) = false := beq_false_of_ne (by omega)
    generalize Json.check l = c at *
    clear hev hcc
    go_wp2_with fail
    refine (objectB (HB.out.below H1.out) (HL.out.below H1.out) hlen HN.out (by omega)).mono ?_
    rintro x w2 ⟨rfl, hb2⟩
    have H2 := hide (H1.out.trans (hb2.mono H1.out.size))
    clear hb2
    rw [HA.out]
    go_wp2_with fail
    refine (HNM.out _ (HE.out.below H2.out)).mono ?_
    rintro x w3 ⟨rfl, hw3⟩
    obtain rfl := hw3
    go_wp2
    go_ret
    exact ⟨by simp, H2.out⟩
end Go.Proofs.YtkkgngmhdlmgnaaDoor.jw
