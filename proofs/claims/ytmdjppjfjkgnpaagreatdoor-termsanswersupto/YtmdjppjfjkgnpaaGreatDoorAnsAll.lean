import Derived.Test.YtmdjppjfjkgnpaaGreatDoorAnsRef
import Derived.Test.YtmdjppjfjkgnpaaGreatDoorSameWalks
namespace Go.Proofs.YtmdjppjfjkgnpaaGreatDoor.tm
open Go.ChangeShapes Go.WideShapes Go.ChangeAt Go.RowKit Go.Proofs.YtmdjppjfjkgnpaaGreatDoor.common Go.Proofs.YtmdjppjfjkgnpaaGreatDoor.bk
open Go.Proofs.YtmdjppjfjkgnpaaGreatDoor.fd (before behind)
open Go.Proofs.YtmdjppjfjkgnpaaGreatDoor.lst (PB Lies Row cl cl_app cl_len cl_get0 cl_get1 takeP infoP copied_any same_any lies_of_own row_of_own own_ge)
open Go.Proofs.YtmdjppjfjkgnpaaGreatDoor.pctw (X Txt Mny Tab pr tot)
attribute [local go_sem ↓] Go.wp_at_zero Go.wp_at_succ

def bhB : ByteArray := ⟨#[98, 101, 104, 105, 110, 100]⟩
/-- a value with a letter more -/
def zf (p : PB) : PB := (p.1, p.2 ++ (⟨#[122]⟩ : ByteArray))
def mixz (l : List PB) (k : Nat) : List PB := (l.take k).map zf ++ l.drop k
theorem mixz_zero (l : List PB) : mixz l 0 = l := by simp [mixz]
theorem mixz_all (l : List PB) : mixz l l.length = l.map zf := by simp [mixz]
theorem mixz_len (l : List PB) (k : Nat) : (mixz l k).length = l.length := by simp [mixz]; omega
theorem mixz_at (l r : List PB) (k : Nat) (h : k < l.length) : (mixz l k ++ r)[k]'(by rw [List.length_append, mixz_len]; omega) = l[k] := by
  have : (mixz l k ++ r)[k]? = some l[k] := by
    rw [List.getElem?_append_left (by rw [mixz_len]; exact h)]
    unfold mixz
    rw [List.getElem?_append_right (by simp; omega)]
    simp; rw [Nat.min_eq_left (by omega)]; simp [h]
  exact (List.getElem?_eq_some_iff.1 this).2
theorem mixz_set (l r : List PB) (k : Nat) (h : k < l.length) : (mixz l k ++ r).set k (zf l[k]) = mixz l (k + 1) ++ r := by
  have e : l.drop k = l[k] :: l.drop (k + 1) := List.drop_eq_getElem_cons h
  unfold mixz
  rw [e, takeP l k h, List.map_append, List.append_assoc, List.set_append_right _ _ (by rw [List.length_map, List.length_take]; exact Nat.min_le_left _ _)]
  simp only [List.length_map, List.length_take]
  rw [Nat.min_eq_left (by omega), Nat.sub_self]
  simp only [List.cons_append, List.set_cons_zero, List.map_cons, List.map_nil, List.append_assoc, List.nil_append]
theorem tot_zf (l : List PB) : tot (l.map zf) = tot l + l.length := by
  induction l with
  | nil => rfl
  | cons p r ih =>
    show p.1.size + (p.2 ++ (⟨#[122]⟩ : ByteArray)).size + 1 + tot (r.map zf) = p.1.size + p.2.size + 1 + tot r + (r.length + 1)
    rw [ih, ByteArray.size_append]
    show p.1.size + (p.2.size + 1) + 1 + (tot r + r.length) = _
    omega
theorem cl_set1 : ∀ (l : List PB) (i : Nat) (hi : i < l.length) (y : ByteArray), (cl l).set (i * 2 + 1) (.string y) = cl (l.set i (l[i].1, y))
  | p :: r, 0, _, y => rfl
  | p :: r, i + 1, hi, y => by
    show (Value.string p.1 :: Value.string p.2 :: cl r).set ((i + 1) * 2 + 1) _ = Value.string p.1 :: Value.string p.2 :: cl (r.set i _)
    rw [show (i + 1) * 2 + 1 = (i * 2 + 1) + 1 + 1 by omega, List.set_cons_succ, List.set_cons_succ, cl_set1 r i (by simpa using hi) y]
    rfl
/-- a value of a row is written -/
theorem row_set1 {w : World} {g : Nat} {l : List PB} (h : Row w g l) (i : Nat) (hi : i < l.length) (y : ByteArray) : Row (w.setCell ⟨g, i * 2 + 1, none⟩ (.string y)) g (l.set i (l[i].1, y)) := by
  refine ⟨by rw [List.length_set]; exact there_set h.1 _ _, ?_⟩
  have h1 := range_set h.2 (i * 2 + 1) (by rw [cl_len]; omega) (.string y)
  rw [Nat.zero_add, cl_set1 l i hi y] at h1
  exact h1
theorem row_other {w : World} {g b o : Nat} {l : List PB} (h : Row w g l) (hb : b ≠ g) (v : Value) : Row (w.setCell ⟨b, o, none⟩ v) g l := ⟨there_set h.1 _ _, range_other h.2 _ (Or.inl hb) v⟩
theorem row_cells {w : World} {g : Nat} {l : List PB} (h : Row w g l) (k : Nat) (hk : k < l.length) : w.cell? ⟨g, k * 2, none⟩ = some (.string l[k].1) ∧ w.cell? ⟨g, k * 2 + 1, none⟩ = some (.string l[k].2) ∧ w.frozen? ⟨g, k * 2 + 1, none⟩ = false := by
  refine ⟨?_, ?_, by simpa using (h.1 (k * 2 + 1) (by omega)).2⟩
  · have := h.2 _ _ (cl_get0 _ k hk); rw [Nat.zero_add] at this; exact this
  · have := h.2 _ _ (cl_get1 _ k hk); rw [Nat.zero_add] at this; exact this

/-- how both lists stand at a place of the loop -/
structure LI (W1 : World) (g : Nat) (o8 : Option Addr) (q : List PB) (k : Nat) (wr : World) : Prop where
  row : Row wr g (mixz q k ++ [(bhB, bhB)])
  oth : q = [] ∨ ∃ g2, o8 = some ⟨g2, 0, none⟩ ∧ g < g2 ∧ g2 < wr.heap.size ∧ Row wr g2 (mixz q k)
  bl : Below W1.heap.size W1 wr
  lt : g < wr.heap.size
theorem LI.drew {W1 : World} {g : Nat} {o8 : Option Addr} {q : List PB} {k : Nat} {wr : World} (h : LI W1 g o8 q k wr) : LI W1 g o8 q k wr.drew := ⟨h.row, h.oth, h.bl.drew, h.lt⟩
theorem LI.lies {W1 : World} {g : Nat} {o8 : Option Addr} {q : List PB} {wr : World} (h : LI W1 g o8 q q.length wr) (cap : Nat) : Lies wr (.slice (some ⟨g, 0, none⟩) q.length cap) (q.map zf) := by
  have h1 := h.row
  rw [mixz_all] at h1
  have := h1.lies h.lt q.length cap (by rw [List.length_append, List.length_map]; omega)
  rw [List.take_append_of_le_length (by rw [List.length_map]; exact Nat.le_refl _), List.take_of_length_le (by rw [List.length_map]; exact Nat.le_refl _)] at this
  exact this
theorem LI.lies2 {W1 : World} {g : Nat} {o8 : Option Addr} {q : List PB} {wr : World} (h : LI W1 g o8 q q.length wr) (cap : Nat) : Lies wr (.slice o8 q.length cap) (q.map zf) := by
  rcases h.oth with rfl | ⟨g2, rfl, _, h2, h3⟩
  · exact ⟨o8, cap, rfl, fun i hi => absurd hi (Nat.not_lt_zero _)⟩
  · rw [mixz_all] at h3
    have := h3.lies h2 q.length cap (by rw [List.length_map]; omega)
    rw [List.take_of_length_le (by rw [List.length_map]; exact Nat.le_refl _)] at this
    exact this
/-- one place further -/
theorem LI.next {W1 : World} {g g2 : Nat} {q : List PB} {k : Nat} {wr : World} (h : LI W1 g (some ⟨g2, 0, none⟩) q k wr) (hk : k < q.length) (h0 : W1.heap.size ≤ g) :
    LI W1 g (some ⟨g2, 0, none⟩) q (k + 1) ((wr.setCell ⟨g, k * 2 + 1, none⟩ (.string (q[k].2 ++ (⟨#[122]⟩ : ByteArray)))).setCell ⟨g2, k * 2 + 1, none⟩ (.string (q[k].2 ++ (⟨#[122]⟩ : ByteArray)))) := by
  have hne : q ≠ [] := fun e => by rw [e] at hk; exact absurd hk (Nat.not_lt_zero _)
  rcases h.oth with h1 | ⟨g3, e3, hlt, h2, h3⟩
  · exact absurd h1 hne
  · obtain rfl : g2 = g3 := by injection e3 with e; injection e
    have hkl : k < (mixz q k ++ [(bhB, bhB)]).length := by rw [List.length_append, mixz_len]; omega
    have hkm : k < (mixz q k).length := by rw [mixz_len]; omega
    refine ⟨?_, Or.inr ⟨g2, rfl, hlt, by simpa using h2, ?_⟩, ?_, by simpa using h.lt⟩
    · have r1 := row_other (row_set1 h.row k hkl (q[k].2 ++ (⟨#[122]⟩ : ByteArray))) (b := g2) (o := k * 2 + 1) (by omega) (.string (q[k].2 ++ (⟨#[122]⟩ : ByteArray)))
      rw [mixz_at q _ k hk] at r1
      rw [← mixz_set q _ k hk]
      exact r1
    · have r1 := row_set1 (row_other h3 (b := g) (o := k * 2 + 1) (by omega) (.string (q[k].2 ++ (⟨#[122]⟩ : ByteArray)))) k hkm (q[k].2 ++ (⟨#[122]⟩ : ByteArray))
      have e1 : (mixz q k)[k] = q[k] := by
        have := mixz_at q [] k hk
        simpa using this
      have e2 := mixz_set q [] k hk
      rw [List.append_nil, List.append_nil] at e2
      rw [e1] at r1
      rw [← e2]
      exact r1
    · exact (h.bl.setCell (p := ⟨g, k * 2 + 1, none⟩) h0 _).setCell (p := ⟨g2, k * 2 + 1, none⟩) (by show W1.heap.size ≤ g2; omega) _

set_option maxRecDepth 100000 in
set_option maxHeartbeats 6400000 in
theorem lawAnswers (A : ByteArray) (v : Value) (q : List PB) (w : World) (e : Nat → Addr) (hl : Lies w v q) (he : AEnv w (e 1) (e 2)) (hx : errw.Errs w e) (hs : tot q + q.length + A.size ≤ 1048576) :
    Calls Tryz.prog 3 #[.agg #[.string A, v]] w fun x w' => x = .returned (.bool true) ∧ Below w.heap.size w w' := by
  obtain ⟨i0, hi, hz0, hz1, hz2⟩ := info_parts infoP
  obtain ⟨ov, cv, rfl, _⟩ := id hl
  have HL := hide hl
  have HE := hide he
  have HX := hide hx
  have HS := hide hs
  have HZ := hide (tot_zf q)
  obtain ⟨W0, hW0⟩ : ∃ W0, w.alloc (.cells #[.string A, .slice ov q.length cv] 24) = W0 := ⟨_, rfl⟩
  have b0 : Below w.heap.size w W0 := by rw [← hW0]; exact (Below.refl _ _).alloc (Nat.le_refl _) _
  have x0 : W0.cell? ⟨w.heap.size, 0, none⟩ = some (.string A) := by rw [← hW0]; exact range_new w #[_, _] _ 0 _ rfl
  have x1 : W0.cell? ⟨w.heap.size, 1, none⟩ = some (.slice ov q.length cv) := by rw [← hW0]; exact range_new w #[_, _] _ 1 _ rfl
  have hlt : w.heap.size < W0.heap.size := by rw [← hW0]; simp
  obtain ⟨W1, hW1⟩ : ∃ W1, W0.alloc (.cells #[.string ⟨#[98, 101, 104, 105, 110, 100]⟩, .string ⟨#[98, 101, 104, 105, 110, 100]⟩] 26) = W1 := ⟨_, rfl⟩
  have b1 : Below W0.heap.size W0 W1 := by rw [← hW1]; exact (Below.refl _ _).alloc (Nat.le_refl _) _
  have y0 : W1.cell? ⟨W0.heap.size, 0, none⟩ = some (.string ⟨#[98, 101, 104, 105, 110, 100]⟩) := by rw [← hW1]; exact range_new W0 #[_, _] _ 0 _ rfl
  have y1 : W1.cell? ⟨W0.heap.size, 1, none⟩ = some (.string ⟨#[98, 101, 104, 105, 110, 100]⟩) := by rw [← hW1]; exact range_new W0 #[_, _] _ 1 _ rfl
  have hlt1 : W0.heap.size < W1.heap.size := by rw [← hW1]; simp
  -- what lies below, in the struct and in the last pair
  have HC0 : Hid (∀ W, Below W1.heap.size W1 W → W.cell? ⟨w.heap.size, 0, none⟩ = some (.string A)) := fun W hb => (hb.cell (p := ⟨w.heap.size, 0, none⟩) (Nat.lt_trans hlt hlt1)).trans ((b1.cell (p := ⟨w.heap.size, 0, none⟩) hlt).trans x0)
  have HC1 : Hid (∀ W, Below W1.heap.size W1 W → W.cell? ⟨w.heap.size, 1, none⟩ = some (.slice ov q.length cv)) := fun W hb => (hb.cell (p := ⟨w.heap.size, 1, none⟩) (Nat.lt_trans hlt hlt1)).trans ((b1.cell (p := ⟨w.heap.size, 1, none⟩) hlt).trans x1)
  have HY0 : Hid (∀ W, Below W1.heap.size W1 W → W.cell? ⟨W0.heap.size, 0, none⟩ = some (.string ⟨#[98, 101, 104, 105, 110, 100]⟩)) := fun W hb => (hb.cell (p := ⟨W0.heap.size, 0, none⟩) hlt1).trans y0
  have HY1 : Hid (∀ W, Below W1.heap.size W1 W → W.cell? ⟨W0.heap.size, 1, none⟩ = some (.string ⟨#[98, 101, 104, 105, 110, 100]⟩)) := fun W hb => (hb.cell (p := ⟨W0.heap.size, 1, none⟩) hlt1).trans y1
  have HBl : Hid (∀ W, Below W1.heap.size W1 W → Below w.heap.size w W) := fun W hb => b0.trans ((b1.mono b0.size).trans (hb.mono (Nat.le_trans b0.size b1.size)))
  have HAn : Hid (∀ (V : Value) (l : List PB) W, Below W1.heap.size W1 W → Lies W V l → tot l + l.length ≤ 4194304 → Calls Tryz.prog 5 #[.string A, V] W fun x w' => x = .returned (.tuple #[S (ansT A.data.toList l), if numA A.data.toList l = 2 then X (e 1) else if numA A.data.toList l = 3 then X (e 2) else .nilIface]) ∧ Below W.heap.size W w') := fun V l W hb h1 h2 => by
    have := answer_any A V l W (e 1) (e 2) h1 (HE.out.below (HBl.out W hb)) (by omega) (by omega)
    rw [(ansR_is _ _ _ _).1, (ansR_is _ _ _ _).2] at this
    exact this
  have HRf : Hid (∀ (V : Value) (l : List PB) W, Lies W V l → tot l + l.length ≤ 4194304 → Calls Tryz.prog 6 #[.string A, V] W fun x w' => x = .returned (.tuple #[S (ansT A.data.toList l), .int .i64 (numA A.data.toList l : Int)]) ∧ Below W.heap.size W w') := fun V l W h1 h2 => refAnswer_any A V l W h1 (by have := HS.out; omega) (by omega) (by omega)
  have HNm : Hid (∀ (l : List PB) W, Below W1.heap.size W1 W → Calls Tryz.prog 7 #[if numA A.data.toList l = 2 then X (e 1) else if numA A.data.toList l = 3 then X (e 2) else .nilIface] W fun x w' => x = .returned (.int .i64 (numA A.data.toList l : Int)) ∧ w' = W) := fun l W hb => numT W e (HX.out.below (HBl.out W hb)) _ (numA_cases _ _)
  obtain ⟨T1, hT1⟩ : ∃ T : ByteArray, (⟨(ansT A.data.toList q).toArray⟩ : ByteArray) = T := ⟨_, rfl⟩
  obtain ⟨r1, hr1⟩ : ∃ r : Value, (if numA A.data.toList q = 2 then X (e 1) else if numA A.data.toList q = 3 then X (e 2) else .nilIface) = r := ⟨_, rfl⟩
  obtain ⟨N1, hN1⟩ : ∃ N : Nat, numA A.data.toList q = N := ⟨_, rfl⟩
  have hS1 : S (ansT A.data.toList q) = .string T1 := congrArg Value.string hT1
  have HA1 : Hid (∀ (V : Value) W, Below W1.heap.size W1 W → Lies W V q → Calls Tryz.prog 5 #[.string A, V] W fun x w' => x = .returned (.tuple #[.string T1, r1]) ∧ Below W.heap.size W w') := fun V W hb h1 => by
    have := HAn.out V q W hb h1 (by have := HS.out; have := HZ.out; first | omega | (rw [HZ.out, List.length_map]; omega))
    rw [hS1, hr1] at this
    exact this
  have HR1 : Hid (∀ (V : Value) W, Lies W V q → Calls Tryz.prog 6 #[.string A, V] W fun x w' => x = .returned (.tuple #[.string T1, .int .i64 (N1 : Int)]) ∧ Below W.heap.size W w') := fun V W h1 => by
    have := HRf.out V q W h1 (by have := HS.out; have := HZ.out; first | omega | (rw [HZ.out, List.length_map]; omega))
    rw [hS1, hN1] at this
    exact this
  have HN1 : Hid (∀ W, Below W1.heap.size W1 W → Calls Tryz.prog 7 #[r1] W fun x w' => x = .returned (.int .i64 (N1 : Int)) ∧ w' = W) := fun W hb => by
    have := HNm.out q W hb
    rw [hr1, hN1] at this
    exact this
  clear hT1 hr1 hN1 hS1
  obtain ⟨T2, hT2⟩ : ∃ T : ByteArray, (⟨(ansT A.data.toList (q.map zf)).toArray⟩ : ByteArray) = T := ⟨_, rfl⟩
  obtain ⟨r2, hr2⟩ : ∃ r : Value, (if numA A.data.toList (q.map zf) = 2 then X (e 1) else if numA A.data.toList (q.map zf) = 3 then X (e 2) else .nilIface) = r := ⟨_, rfl⟩
  obtain ⟨N2, hN2⟩ : ∃ N : Nat, numA A.data.toList (q.map zf) = N := ⟨_, rfl⟩
  have hS2 : S (ansT A.data.toList (q.map zf)) = .string T2 := congrArg Value.string hT2
  have HA2 : Hid (∀ (V : Value) W, Below W1.heap.size W1 W → Lies W V (q.map zf) → Calls Tryz.prog 5 #[.string A, V] W fun x w' => x = .returned (.tuple #[.string T2, r2]) ∧ Below W.heap.size W w') := fun V W hb h1 => by
    have := HAn.out V (q.map zf) W hb h1 (by have := HS.out; have := HZ.out; first | omega | (rw [HZ.out, List.length_map]; omega))
    rw [hS2, hr2] at this
    exact this
  have HR2 : Hid (∀ (V : Value) W, Lies W V (q.map zf) → Calls Tryz.prog 6 #[.string A, V] W fun x w' => x = .returned (.tuple #[.string T2, .int .i64 (N2 : Int)]) ∧ Below W.heap.size W w') := fun V W h1 => by
    have := HRf.out V (q.map zf) W h1 (by have := HS.out; have := HZ.out; first | omega | (rw [HZ.out, List.length_map]; omega))
    rw [hS2, hN2] at this
    exact this
  have HN2 : Hid (∀ W, Below W1.heap.size W1 W → Calls Tryz.prog 7 #[r2] W fun x w' => x = .returned (.int .i64 (N2 : Int)) ∧ w' = W) := fun W hb => by
    have := HNm.out (q.map zf) W hb
    rw [hr2, hN2] at this
    exact this
  clear hT2 hr2 hN2 hS2
  clear HAn HRf HNm
  have HLi : Hid (∀ W, Below W1.heap.size W1 W → Lies W (.slice ov q.length cv) q) := fun W hb => HL.out.below (HBl.out W hb)
  clear hl he hx hs b0 b1 y0 y1 hlt hlt1
  have x01 := HC0.out _ (Below.refl _ _)
  have x11 := HC1.out _ (Below.refl _ _)
  go_enter Tryz.func3, Tryz.ntmps3
  go_wp2_with fail
  refine (copied_any _ q _ (HLi.out _ (Below.refl _ _)) (by have := HS.out; omega)).mono ?_
  rintro x w1 ⟨v1, rfl, ho1, hb1⟩
  have B1 := hide hb1
  have HO1 := hide ho1
  have hsz := hb1.size
  have z0 := HY0.out _ hb1
  have z1 := HY1.out _ hb1
  clear ho1 hb1 x0 x1 x01 x11 hW0 hW1
  go_wp2_with (at_builtin; refine wpList_append_own _ rfl _ _ 22 rfl W1.heap.size 26 i0 (.agg #[.string ⟨#[]⟩, .string ⟨#[]⟩]) 2 32 Tryz.underlying22 hi hz0 hz1 hz2 rfl (by decide) _ _ _ rfl (HO1.out.alloc _) ⟨w1.heap.size, 0, none⟩ 1 1 [.string ⟨#[98, 101, 104, 105, 110, 100]⟩, .string ⟨#[98, 101, 104, 105, 110, 100]⟩] rfl rfl (lst.cells_new _ _ _) ?c2 ?c3 ?c4 ?c5 ?_)
  case c2 => first | rfl | (intro u hu; simp at hu; rcases hu with rfl | rfl <;> rfl)
  case c3 => unfold maxLen; have := HS.out; omega
  case c4 => have := HS.out; omega
  case c5 => first | omega | (simp; omega)
  intro v2 w2 ho2 hgrow _
  have B2 := hide ((B1.out.alloc hsz _).grown hgrow (by simp; omega) (lst.own_ge HO1.out))
  have HO2 : Hid (w2.ownsRow W1.heap.size 26 2 v2 (q ++ [(bhB, bhB)]).length (cl (q ++ [(bhB, bhB)]))) := by
    show w2.ownsRow _ _ _ _ _ _
    rw [List.length_append, cl_app]
    exact ho2
  clear ho2 hgrow hsz HO1 B1 z0 z1
  obtain ⟨g, cap, rfl, hg0, hg, hrow, hcap⟩ : ∃ g cap, v2 = .slice (some ⟨g, 0, none⟩) (q.length + 1) cap ∧ W1.heap.size ≤ g ∧ g < w2.heap.size ∧ Row w2 g (q ++ [(bhB, bhB)]) ∧ q.length + 1 ≤ cap := by
    rcases row_of_own HO2.out with ⟨_, h0⟩ | ⟨g, cap, h1, h2, h3, h4, h5⟩
    · simp at h0
    · rw [List.length_append] at h1 h5
      exact ⟨g, cap, h1, h2, h3, h4, h5⟩
  have HRw := hide hrow
  have HFl : Hid (∀ W, Row W g (q ++ [(bhB, bhB)]) → g < W.heap.size → Lies W (.slice (some ⟨g, 0, none⟩) q.length cap) q) := fun W h h2 => by
    have := h.lies h2 q.length cap (by rw [List.length_append]; omega)
    rw [List.take_left] at this
    exact this
  have HG0 := hide hg0
  have HG2 := hide hg
  clear hrow HO2 hg0
  have k0 : (0 : Int) ≤ (q.length : Int) := Int.natCast_nonneg _
  have k4 : (q.length : Int) ≤ (cap : Int) := by omega
  have k5 : q.length ≤ cap := by omega
  have x0 := HC0.out
  have x1 := HC1.out
  have b2 := B2.out
  go_wp2_with fail
  go_region_held3 (fun X => Below W1.heap.size W1 X)
    (first
      | assumption
      | exact keepD (by assumption) (by assumption)
      | exact Below.drew (by assumption)
      | exact Below.drew (keepD (by assumption) (by assumption)))
    ((go_at_call 5; refine (HA1.out _ _ (Below.drew B2.out) (HFl.out _ HRw.out.drew HG2.out)).mono ?_; rintro x w3 ⟨rfl, hb3⟩))
  have b3 := keepD (Below.drew B2.out) hb3
  have B3 := hide b3
  have HRw3 := hide (HRw.out.drew.below hb3 HG2.out)
  have HG3 : Hid (g < w3.heap.size) := Nat.lt_of_lt_of_le HG2.out hb3.size
  clear hb3 HRw HG2 B2 hg b2
  go_wp2_with fail
  go_region_held3 (fun X => Below W1.heap.size W1 X)
    (first
      | assumption
      | exact keepD (by assumption) (by assumption)
      | exact Below.drew (by assumption)
      | exact Below.drew (keepD (by assumption) (by assumption)))
    (first
      | (go_at_call 4; refine (copied_any _ q _ (HLi.out _ (Below.drew B3.out)) (by have := HS.out; omega)).mono ?_; rintro x w4 ⟨v4, rfl, ho4, hb4⟩)
      | (go_at_call 6; refine (HR1.out _ _ (lies_of_own ho4)).mono ?_; rintro x w5 ⟨rfl, hb5⟩))
  have B5 := hide (keepD (keepD (Below.drew B3.out) hb4) hb5)
  have HRw5 := hide ((HRw3.out.drew.below hb4 HG3.out).below hb5 (Nat.lt_of_lt_of_le HG3.out hb4.size))
  have HG5 : Hid (g < w5.heap.size) := Nat.lt_of_lt_of_le (Nat.lt_of_lt_of_le HG3.out hb4.size) hb5.size
  have HLI5 := hide (HFl.out _ HRw5.out HG5.out)
  have HLx5 := hide (HLi.out _ B5.out)
  have hcq := row_cells HRw5.out q.length (by simp)
  simp only [List.getElem_concat_length] at hcq
  have e0 : ∀ X, Below w5.heap.size w5 X → X.cell? ⟨g, q.length * 2, none⟩ = some (.string ⟨#[98, 101, 104, 105, 110, 100]⟩) := fun X hX => (hX.cell (p := ⟨g, q.length * 2, none⟩) HG5.out).trans hcq.1
  have e1 : ∀ X, Below w5.heap.size w5 X → X.cell? ⟨g, q.length * 2 + 1, none⟩ = some (.string ⟨#[98, 101, 104, 105, 110, 100]⟩) := fun X hX => (hX.cell (p := ⟨g, q.length * 2 + 1, none⟩) HG5.out).trans hcq.2.1
  clear hb4 hb5 ho4 HRw3 HG3 B3 b3 hcq x0 x1
  have x1 : ∀ X, Below w5.heap.size w5 X → X.cell? ⟨w.heap.size, 1, none⟩ = some (.slice ov q.length cv) := fun X hX => HC1.out _ (keepD B5.out hX)
  have y0 : ∀ X, Below w5.heap.size w5 X → X.cell? ⟨W0.heap.size, 0, none⟩ = some (.string ⟨#[98, 101, 104, 105, 110, 100]⟩) := fun X hX => HY0.out _ (keepD B5.out hX)
  have y1 : ∀ X, Below w5.heap.size w5 X → X.cell? ⟨W0.heap.size, 1, none⟩ = some (.string ⟨#[98, 101, 104, 105, 110, 100]⟩) := fun X hX => HY1.out _ (keepD B5.out hX)
  have k2 : (q.length : Int) < (q.length : Int) + 1 := by omega
  have k3 : q.length < q.length + 1 := by omega
  go_wp2_with fail
  go_region_held3 (fun X => Below w5.heap.size w5 X)
    (first
      | exact Below.refl _ _
      | assumption
      | exact keepD (by assumption) (by assumption)
      | exact Below.drew (by assumption)
      | exact (Below.refl _ _).drew)
    (first
      | (go_at_call 7; refine (HN1.out _ (keepD B5.out (by assumption))).mono ?_; rintro x w6 ⟨rfl, rfl⟩)
      | (go_at_call 8; refine (same_any _ _ q _ (HLI5.out.below (by assumption)) (HLx5.out.below (by assumption)) (by have := HS.out; omega)).mono ?_; rintro x w7 ⟨rfl, hb7⟩))
  have b57 : Below w5.heap.size w5 w7 := by assumption
  have B7 := hide (keepD B5.out b57)
  have HRw7 := hide (HRw5.out.below b57 HG5.out)
  have HG7 : Hid (g < w7.heap.size) := Nat.lt_of_lt_of_le HG5.out b57.size
  clear hb7 b57 HRw5 HG5 HLI5 HLx5 e0 e1 x1 y0 y1
  have x1 := HC1.out _ B7.out
  go_wp2_with fail
  refine (copied_any _ q w7 (HLi.out _ B7.out) (by have := HS.out; omega)).mono ?_
  rintro x w8 ⟨v8, rfl, ho8, hb8⟩
  obtain ⟨o8, c8, rfl, _⟩ := lies_of_own ho8
  have HI8 : Hid (LI W1 g o8 q 0 w8) := by
    refine ⟨by rw [mixz_zero]; exact HRw7.out.below hb8 HG7.out, ?_, keepD B7.out hb8, Nat.lt_of_lt_of_le HG7.out hb8.size⟩
    rw [mixz_zero]
    rcases row_of_own ho8 with ⟨_, h⟩ | ⟨g2, cap2, h1, h2, h3, h4, _⟩
    · exact Or.inl h
    · injection h1 with h1 _ _
      exact Or.inr ⟨g2, h1, Nat.lt_of_lt_of_le HG7.out h2, h3, h4⟩
  have hql : q.length ≤ 1048576 := by have := HS.out; omega
  have HTk : Hid (∀ k (h : k < q.length), q[k].2.size ≤ 1048576) := fun k h => by
    have := pctw.tot_take q k h
    have := HS.out
    omega
  clear ho8 hb8 x1 HRw7 HG7 B7
  go_wp2_with fail
  go_loopw [11] (fun i wr => ∃ k : Nat, k ≤ q.length ∧ i = .int .i64 (k : Int) ∧ Hid (LI W1 g o8 q k wr)) (fun i _ => q.length - (intOf i).toNat)
  case atStart => exact ⟨0, Nat.zero_le _, rfl, HI8⟩
  case round =>
    obtain ⟨k, hk, rfl, HI⟩ := hrel
    by_cases hlt : k < q.length
    · have hki : (k : Int) < (q.length : Int) := by omega
      have hki1 : (k : Int) < (q.length : Int) + 1 := by omega
      have hk1 : k < q.length + 1 := by omega
      have hk0 : (0 : Int) ≤ (k : Int) := Int.natCast_nonneg _
      have hne : q ≠ [] := fun e => by rw [e] at hlt; exact absurd hlt (Nat.not_lt_zero _)
      obtain ⟨g2, rfl, hg2, hg2l, hrow2⟩ : ∃ g2, o8 = some ⟨g2, 0, none⟩ ∧ g < g2 ∧ g2 < wr.heap.size ∧ Row wr g2 (mixz q k) := by
        rcases HI.out.oth with h | h
        · exact absurd h hne
        · exact h
      have HNx := hide (HI.out.next hlt HG0.out)
      have hkl : k < (mixz q k ++ [(bhB, bhB)]).length := by rw [List.length_append, mixz_len]; omega
      have hkm : k < (mixz q k).length := by rw [mixz_len]; omega
      obtain ⟨u1, c1, f1⟩ := row_cells HI.out.row k hkl
      rw [mixz_at q _ k hlt] at c1
      have e1 : (mixz q k)[k] = q[k] := by
        have := mixz_at q [] k hlt
        simpa using this
      obtain ⟨u2, c2, f2⟩ := row_cells hrow2 k hkm
      rw [e1] at c2
      have hcs : ¬ 9223372036854775807 < q[k].2.size + 1 := by have := HTk.out k hlt; omega
      obtain ⟨u3, c3, f3⟩ := row_cells (row_other hrow2 (b := g) (o := k * 2 + 1) (by omega) (.string (q[k].2 ++ (⟨#[122]⟩ : ByteArray)))) k hkm
      rw [e1] at c3
      clear u1 u2 u3
      clear hrow2 hkl hkm e1 hne HI
      generalize q[k] = p at *
      obtain ⟨Z, hZ⟩ : ∃ Z, p.2 ++ (⟨#[122]⟩ : ByteArray) = Z := ⟨_, rfl⟩
      rw [hZ] at HNx c3 f3
      go_wp2_with fail
      go_roundw
      case rel => exact ⟨k + 1, by omega, by go_num, HNx⟩
      case measure => simp [intOf]; omega
    · obtain rfl : k = q.length := by omega
      clear hk hlt
      have HB := hide HI.out.bl
      have x0 := HC0.out
      have b9 := HB.out
      have hxx : ¬ (q.length : Int) < (q.length : Int) := by omega
      go_wp2_with fail
      go_region_held3 (fun X => Below W1.heap.size W1 X)
        (first
      | assumption
      | exact keepD (by assumption) (by assumption)
      | exact Below.drew (by assumption)
      | exact Below.drew (keepD (by assumption) (by assumption)))
        ((go_at_call 5; refine (HA2.out _ _ (Below.drew HB.out) (HI.out.drew.lies cap)).mono ?_; rintro x w10 ⟨rfl, hb10⟩))
      have B10 := hide (keepD (Below.drew HB.out) hb10)
      have HL10 := hide ((HI.out.drew.lies2 c8).below hb10)
      clear hb10 b9 x0
      have x0 := HC0.out _ B10.out
      go_wp2_with fail
      refine (HR2.out _ _ HL10.out).mono ?_
      rintro x w11 ⟨rfl, hb11⟩
      have B11 := hide (keepD B10.out hb11)
      clear hb11 x0
      go_wp2_with fail
      refine (HN2.out _ B11.out).mono ?_
      rintro x w12 ⟨rfl, hw⟩
      obtain rfl := hw.symm
      go_wp2_with fail
      go_ret
      exact ⟨by simp, HBl.out _ B11.out⟩
end Go.Proofs.YtmdjppjfjkgnpaaGreatDoor.tm
