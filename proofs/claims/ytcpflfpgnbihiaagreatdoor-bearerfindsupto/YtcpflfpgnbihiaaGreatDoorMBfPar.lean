import Derived.Test.YtcpflfpgnbihiaaGreatDoorMBfForm
import Derived.Test.YtcpflfpgnbihiaaGreatDoorMBfRes
import Derived.Test.YtcpflfpgnbihiaaGreatDoorMByteHex
import Derived.Test.YtcpflfpgnbihiaaGreatDoorMRefPairsAll
import Derived.Test.YtcpflfpgnbihiaaGreatDoorMTmSplit
import Derived.Laws.AppendOwnNone
namespace Go.Proofs.YtcpflfpgnbihiaaGreatDoor.bf
open Go.ChangeShapes Go.WideShapes Go.ChangeAt Go.RowKit Go.Proofs.YtcpflfpgnbihiaaGreatDoor.common Go.Proofs.YtcpflfpgnbihiaaGreatDoor.bk Go.Proofs.YtcpflfpgnbihiaaGreatDoor.fd
open Go.Proofs.YtcpflfpgnbihiaaGreatDoor.lst (PB Lies cl cl_app cl_len cl_get0 cl_get1 infoP lookOf lies_of_own)
open Go.Proofs.YtcpflfpgnbihiaaGreatDoor.pctw (mk Txt Mny)
attribute [local go_sem ↓] Go.wp_at_zero Go.wp_at_succ

theorem one_cl (l : List PB) : ∀ u ∈ cl l, u.oneCell' = true := by
  induction l with
  | nil => intro u hu; simp [cl] at hu
  | cons p r ih =>
    intro u hu
    rcases List.mem_cons.1 hu with rfl | hu
    · rfl
    · rcases List.mem_cons.1 hu with rfl | hu
      · rfl
      · exact ih u hu
theorem cells_of {w : World} {ad : Addr} {n cap : Nat} {xs : List PB} (h : Lies w (.slice (some ad) n cap) xs) : ∀ j u, (cl xs)[j]? = some u → w.cell? (ad.add j) = some u := by
  obtain ⟨oa, ca, hv, hc⟩ := h
  cases hv
  intro j u hu
  have hj : j < xs.length * 2 := by have := (List.getElem?_eq_some_iff.1 hu).1; rw [cl_len] at this; exact this
  have hi : j / 2 < xs.length := by omega
  obtain ⟨b, o, ho, _, c0, c1⟩ := hc (j / 2) hi
  cases ho
  have g0 := cl_get0 xs (j / 2) hi
  have g1 := cl_get1 xs (j / 2) hi
  rw [Addr.add_mid]
  have hm : j % 2 = 0 ∨ j % 2 = 1 := by omega
  rcases hm with hm | hm
  · have he : j = j / 2 * 2 := by omega
    rw [← he] at c0 g0
    rw [g0] at hu; cases hu; exact c0
  · have he : j = j / 2 * 2 + 1 := by omega
    rw [Nat.add_assoc, ← he] at c1; rw [← he] at g1
    rw [g1] at hu; cases hu; exact c1

set_option maxRecDepth 100000 in
theorem append_prs (w : World) {ops : Array Oper} {rest : List Oper} {o : Oper} {a : Act} {Q : Exit → Act → World → Prop} (hgd : o.guard = none) (s x : Operand)
    (ho : o.op = .call { callee := .builtin .append, args := #[s, x], argTypes := #[22, 22] }) (base : Nat) (v0 : Value) (m : List PB) (hs : a.eval s = v0) (hown : w.ownsRow base 35 2 v0 m.length (cl m)) (v : Value) (l : List PB) (hx : a.eval x = v) (hl : Lies w v l)
    (hm : m.length + l.length ≤ maxLen) (hb : (m.length + l.length) * 32 ≤ 140737488355328) (hbase : base ≤ w.heap.size)
    (h : ∀ v' w', w'.ownsRow base 35 2 v' (m ++ l).length (cl (m ++ l)) → w.grownBy w' v0.ownBlock → wpList Tryz.prog ops Q rest (a.put o.dst v') w') : wpList Tryz.prog ops Q (o :: rest) a w := by
  obtain ⟨i0, hi, hz0, hz1, hz2⟩ := info_parts infoP
  have hl' := hl
  obtain ⟨oa, cap, rfl, hc⟩ := hl
  cases oa with
  | some ad =>
    exact wpList_append_own w hgd s x 22 ho base 35 i0 (.agg #[.string ⟨#[]⟩, .string ⟨#[]⟩]) 2 32 Tryz.underlying22 hi hz0 hz1 hz2 rfl (by decide) _ m.length (cl m) hs hown ad l.length cap (cl l) hx (cl_len l) (cells_of hl') (one_cl l) hm hb hbase (fun v' w' h1 h2 _ => h v' w' (by rw [List.length_append, cl_app]; exact h1) h2)
  | none =>
    have h0 : l = [] := by
      cases l with
      | nil => rfl
      | cons p r => obtain ⟨b, o, ho, _⟩ := hc 0 (by simp); cases ho
    subst h0
    refine wpList_plain hgd fun K' hK' => ?_
    unfold Oper.wp execOp
    simp only [ho, resolve, invoke, builtin, Sem.run_bind, Sem.run_pure, Result.andThen_ok, List.map_toArray, List.map_cons, List.map_nil, hs, hx]
    rcases hown.2 with ⟨rfl, h0⟩ | ⟨g, cap', cur, rfl, hg, hh, hn, _⟩
    · have hm0 : m = [] := List.eq_nil_of_length_eq_zero h0
      subst hm0
      simp [Builtin.append_, run_underlying Tryz.underlying22, sizeOf, typeInfo, hi, Builtin.lenOf, Builtin.firstCells]
      exact hK' _ _ (h _ _ (World.ownsRow_nil _ _ _ _) ⟨rfl, rfl, rfl, Nat.le_refl _, fun _ _ _ => rfl⟩)
    · simp [Builtin.append_, run_underlying Tryz.underlying22, sizeOf, typeInfo, hi, Builtin.lenOf, Builtin.firstCells, hn, storeCells]
      exact hK' _ _ (h _ _ (by rw [List.append_nil]; exact hown) ⟨rfl, rfl, rfl, Nat.le_refl _, fun _ _ _ => rfl⟩)

/-- the pairs of a text, if it has some -/
def prsO (s : List UInt8) : Option (List PB) := if (Pct.pieces s).length ≤ 32 then (Pct.pairAll (Pct.pieces s)).map (·.map mk) else none
theorem prsO_len {s : List UInt8} {q : List PB} (h : prsO s = some q) : q.length ≤ 32 := by
  unfold prsO at h
  split at h
  · rename_i h32
    obtain ⟨x, hx, rfl⟩ := Option.map_eq_some_iff.1 h
    have := Pct.pairAll_len hx
    rw [List.length_map]; omega
  · cases h

theorem prsP_any (s : ByteArray) (w : World) (hs : s.size ≤ reachBytes) (ea em : Addr) (he : Txt w ea) (hm : Mny w em) :
    Calls Tryz.prog 24 #[.string s] w fun x w' => Below w.heap.size w w' ∧ ((prsO s.data.toList = none ∧ ∃ y, x = .returned (.tuple #[.slice none 0 0, pctw.X y])) ∨ ∃ q v, prsO s.data.toList = some q ∧ x = .returned (.tuple #[v, .nilIface]) ∧ w'.ownsRow w.heap.size 35 2 v q.length (cl q)) :=
  (pctw.pairs_any s w hs ea em he hm).mono fun x w' ⟨hb, h⟩ => by
    refine ⟨hb, ?_⟩
    rcases h with ⟨h1, h2⟩ | ⟨h1, h2, h3⟩ | ⟨h1, q, v, h2, h3, h4⟩
    · exact Or.inl ⟨by unfold prsO; rw [if_neg (by omega)], em, h2⟩
    · exact Or.inl ⟨by unfold prsO; rw [if_pos h1, h2]; rfl, ea, h3⟩
    · exact Or.inr ⟨q.map mk, v, by unfold prsO; rw [if_pos h1, h2]; rfl, h3, h4⟩
theorem prsD_any (s : ByteArray) (w : World) (hs : s.size ≤ 1048576) :
    Calls Tryz.prog 34 #[.string s] w fun x w' => Below w.heap.size w w' ∧ ((prsO s.data.toList = none ∧ ∃ y : Int, y ≠ 0 ∧ x = .returned (.tuple #[.slice none 0 0, .int .i64 y])) ∨ ∃ q v, prsO s.data.toList = some q ∧ x = .returned (.tuple #[v, .int .i64 0]) ∧ w'.ownsRow w.heap.size 35 2 v q.length (cl q)) :=
  (pctw.refPairs_any s w hs).mono fun x w' ⟨hb, h⟩ => by
    refine ⟨hb, ?_⟩
    rcases h with ⟨h1, h2⟩ | ⟨h1, h2, h3⟩ | ⟨h1, q, v, h2, h3, h4⟩
    · exact Or.inl ⟨by unfold prsO; rw [if_neg (by omega)], 3, by decide, h2⟩
    · exact Or.inl ⟨by unfold prsO; rw [if_pos h1, h2]; rfl, 2, by decide, h3⟩
    · exact Or.inr ⟨q.map mk, v, by unfold prsO; rw [if_pos h1, h2]; rfl, h3, h4⟩

abbrev tnB : ByteArray := ⟨#[97, 99, 99, 101, 115, 115, 95, 116, 111, 107, 101, 110]⟩
/-- what a text shows, as the document's value -/
def txV (s : List UInt8) : Value :=
  match prsO s with
  | none => .tuple #[.string emp, .int .i64 0, .int .i64 2]
  | some q => .tuple #[.string (gtn.getOf q gtn.tn).1, .int .i64 ((gtn.getOf q gtn.tn).2 : Int), .int .i64 0]

set_option maxRecDepth 100000 in
set_option maxHeartbeats 3200000 in
theorem byText_any (s : ByteArray) (w : World) (hs : s.size ≤ 1048576) :
    Calls Tryz.prog 16 #[.string s] w fun e w' => e = .returned (txV s.data.toList) ∧ Below w.heap.size w w' := by
  have HP := hide (prsD_any s w hs)
  obtain ⟨R, hR⟩ : ∃ R, txV s.data.toList = R := ⟨_, rfl⟩
  rw [hR]
  have HR := hide hR
  clear hR
  go_enter Tryz.func16, Tryz.ntmps16
  go_wp2_with fail
  refine HP.out.mono ?_
  rintro e w1 ⟨hb1, h⟩
  have HB1 := hide hb1
  clear hb1 HP
  rcases h with ⟨hn, y, hy, rfl⟩ | ⟨q, v, hq, rfl, hown⟩
  · have HF : Hid (R = .tuple #[.string emp, .int .i64 0, .int .i64 2]) := by show _ = _; rw [← HR.out]; unfold txV; rw [hn]
    have hyn : (y != 0) = true := bne_iff_ne.2 hy
    clear hn
    go_wp2_with fail
    go_ret3
    exact ⟨by rw [HF.out]; rfl, HB1.out⟩
  · have HF : Hid (R = .tuple #[.string (gtn.getOf q gtn.tn).1, .int .i64 ((gtn.getOf q gtn.tn).2 : Int), .int .i64 0]) := by show _ = _; rw [← HR.out]; unfold txV; rw [hq]
    have hl := prsO_len hq
    have HG : Hid (Calls Tryz.prog 35 #[v, .string ⟨#[97, 99, 99, 101, 115, 115, 95, 116, 111, 107, 101, 110]⟩] w1 fun e w' => e = .returned (.tuple #[.string (gtn.getOf q gtn.tn).1, .int .i64 ((gtn.getOf q gtn.tn).2 : Int)]) ∧ Below w1.heap.size w1 w') := gtn.refGet_any v q gtn.tn w1 (lies_of_own hown) (by omega)
    obtain ⟨oa, cap, rfl⟩ : ∃ oa cap, v = .slice oa q.length cap := by
      obtain ⟨oa, cap, hv, _⟩ := lies_of_own hown
      exact ⟨oa, cap, hv⟩
    clear hq hown hl
    generalize (gtn.getOf q gtn.tn).1 = g1 at *
    generalize (gtn.getOf q gtn.tn).2 = g2 at *
    go_wp2_with fail
    refine HG.out.mono ?_
    rintro e w2 ⟨rfl, b2⟩
    have HB2 := hide (keepW HB1.out b2 HB1.out.size)
    clear b2
    go_wp2_with fail
    go_ret3
    exact ⟨by rw [HF.out]; rfl, HB2.out⟩
end Go.Proofs.YtcpflfpgnbihiaaGreatDoor.bf
