import Derived.Test.YtlefalplljgkeaaGreatDoorMAgList
import Derived.Test.YtlefalplljgkeaaGreatDoorMCkText2
import Derived.Test.YtlefalplljgkeaaGreatDoorMAgPlace
import Derived.Deep.RegionHeld3
import Derived.Deep.DeepCutAuto
namespace Go.Proofs.YtlefalplljgkeaaGreatDoor.ag
open Go.ChangeShapes Go.WideShapes Go.ChangeAt Go.RowKit Go.Proofs.YtlefalplljgkeaaGreatDoor.common Go.Maps Go.WideElems
open Go.Proofs.YtlefalplljgkeaaGreatDoor.lst (PB Lies cl cl_app cl_len infoP lies_of_own)
open Go.Proofs.YtlefalplljgkeaaGreatDoor.fd (Ev ckTextR)
attribute [local go_sem ↓] Go.wp_at_zero Go.wp_at_succ

/-- an agent, but its jar -/
structure Ax where
  t : Int
  ti : ByteArray
  lv : Value
  fv : Value
  ap : Bool
  wh : ByteArray
  wt : Bool
  hp : Int
abbrev agO (x : Ax) (mb : Nat) : Obj := .cells #[.int .i64 x.t, .map (some mb), .string x.ti, x.lv, x.fv, .bool x.ap, .string x.wh, .bool x.wt, .int .i64 x.hp] 59
theorem ag_cells {w : World} {p mb : Nat} {x : Ax} (h : w.heap[p]? = some (agO x mb)) : w.cell? ⟨p, 0, none⟩ = some (.int .i64 x.t) ∧ w.cell? ⟨p, 1, none⟩ = some (.map (some mb)) ∧ w.cell? ⟨p, 7, none⟩ = some (.bool x.wt) ∧ w.cell? ⟨p, 8, none⟩ = some (.int .i64 x.hp) ∧ w.cell? ⟨p, 5, none⟩ = some (.bool x.ap) := by
  refine ⟨?_, ?_, ?_, ?_, ?_⟩ <;> simp [World.cell?, h]
theorem ag_free {w : World} {p mb : Nat} {x : Ax} (h : w.heap[p]? = some (agO x mb)) (j : Nat) : w.frozen? ⟨p, j, none⟩ = false := by simp [World.frozen?, h]
abbrev hoB : ByteArray := ⟨#[104, 111, 115, 116]⟩
abbrev usB : ByteArray := ⟨#[117, 115, 104, 101, 114]⟩
abbrev coB : ByteArray := ⟨#[99, 111, 111, 107, 105, 101]⟩
/-- the fields of every request -/
def hdL (T : ByteArray) : List PB := if T.size = 0 then [(hoB, usB)] else [(hoB, usB), (coB, T)]
theorem keepB {w w1 w2 : World} (h : Below w.heap.size w w1) (h2 : Below w1.heap.size w1 w2) : Below w.heap.size w w2 := h.trans (h2.mono h.size)
abbrev ptr (p : Nat) : Value := .pointer (some ⟨p, 0, none⟩)

/-- an agent's time and its jar -/
abbrev Sg (p mb : Nat) (t : Int) (W X : World) : Prop := X.cell? ⟨p, 0, none⟩ = some (.int .i64 t) ∧ X.cell? ⟨p, 1, none⟩ = some (.map (some mb)) ∧ Hid (Below W.heap.size W X)
theorem sg_drew {p mb : Nat} {t : Int} {W X : World} (h : Sg p mb t W X) : Sg p mb t W X.drew := ⟨h.1, h.2.1, h.2.2.out.drew⟩
theorem sg_keep {p mb : Nat} {t : Int} {W X Y : World} (hp : p < W.heap.size) (h : Sg p mb t W X) (hb : Below X.heap.size X Y) : Sg p mb t W Y := by
  have h1 := h.2.2.out.size
  exact ⟨(hb.cell (p := ⟨p, 0, none⟩) (Nat.lt_of_lt_of_le hp h1)).trans h.1, (hb.cell (p := ⟨p, 1, none⟩) (Nat.lt_of_lt_of_le hp h1)).trans h.2.1, keepB h.2.2.out hb⟩
set_option maxRecDepth 100000 in
set_option maxHeartbeats 3200000 in
theorem head_any (p mb : Nat) (x : Ax) (R : List Ck) (w : World) (hp : w.heap[p]? = some (agO x mb)) (hJ : Jar w mb R) (hc : ∀ c ∈ R, Cfit c) (hn : Rng64 x.t) (h1 : (still R x.t).length ≤ 1)
    (T : ByteArray) (ev xm xt : Value) (hT : ckTextR ((still R x.t).map pc) xm xt = .tuple #[.string T, ev]) (hs : fd.tot ((still R x.t).map pc) ≤ 140737488355328) (hm : Ev 1 w xm) (ht : Ev 0 w xt) :
    Calls Tryz.prog 38 #[ptr p] w fun e w' => ∃ v, e = .returned v ∧ w'.ownsRow w.heap.size 37 2 v (hdL T).length (cl (hdL T)) ∧ Below w.heap.size w w' := by
  obtain ⟨i0, hi, hz0, hz1, hz2⟩ := info_parts infoP
  have BA := al w (.cells #[.string hoB, .string usB] 37)
  have HB := hide BA
  obtain ⟨c0, c1, _, _, _⟩ := ag_cells (blk hp BA)
  have HL := hide (fun W (hW : Below w.heap.size w W) => list_any mb R x.t W (hJ.below hW) hc hn h1)
  have HC := hide (fun v W (hW : Below w.heap.size w W) (hl : Lies W v ((still R x.t).map pc)) => fd.cookieText_any v _ W hl hs xm xt (hm.below hW) (ht.below hW))
  rw [hT] at HC
  have HO := hide (World.ownsRow_lit (base := w.heap.size) (e := 37) (size := 2) w #[.string hoB, .string usB] 1 (Nat.le_refl _) (by decide) rfl)
  have hpl : p < (w.alloc (.cells #[.string hoB, .string usB] 37)).heap.size := Nat.lt_of_lt_of_le (lt_of hp) BA.size
  clear hJ hc hn h1 hT hs hm ht hp BA
  generalize (still R x.t).map pc = SL at *
  go_enter Tryz.func38, Tryz.ntmps38
  go_upto_region 2 with fail
  have HOW := HO
  generalize hW1 : w.alloc (.cells #[.string hoB, .string usB] 37) = W1 at *
  have HS0 : Sg p mb x.t W1 W1.drew := ⟨c0, c1, (Below.refl _ _).drew⟩
  have HHB := hide (fun X (h : Below W1.heap.size W1 X) => keepB HB.out h)
  clear hW1
  go_region_held3 (fun X => X.cell? ⟨p, 0, none⟩ = some (.int .i64 x.t) ∧ X.cell? ⟨p, 1, none⟩ = some (.map (some mb)) ∧ Hid (Below W1.heap.size W1 X))
    (first
      | assumption
      | exact sg_keep hpl (by assumption) (by assumption)
      | exact sg_drew (by assumption))
    (first
      | (go_at_call 29; refine (HL.out _ (HHB.out _ (by first | exact (Below.refl _ _).drew | exact Hid.out (And.right (And.right (by assumption)))))).mono ?_; rintro x wa ⟨v, rfl, ho, ba⟩)
      | (go_at_call 9; refine (HC.out _ _ (keepB (HHB.out _ ((Below.refl _ _).drew)) ba) (lies_of_own (by rw [show ∀ l : List PB, l.length = l.length from fun _ => rfl]; exact ho))).mono ?_; rintro x wb ⟨rfl, bb⟩))
  have HB2 := hide (HHB.out _ (keepB (keepB ((Below.refl _ _).drew) ba) bb))
  have HO2 := hide (bk.own_below (bk.own_below (World.ownsRow.drew HOW.out) ba) bb)
  clear HOW ho ba bb c0 c1 HS0 HL HC
  by_cases hz : T.size = 0
  · have : T = ⟨#[]⟩ := by
      cases T with | mk d => cases d with | mk l => cases l with | nil => rfl | cons a b => simp [ByteArray.size] at hz
    subst this
    have HF : Hid (hdL ⟨#[]⟩ = [(hoB, usB)]) := rfl
    go_wp2_with fail
    go_ret
    exact ⟨_, rfl, by rw [HF.out]; exact HO2.out, HB2.out⟩
  · obtain ⟨n1, n2, n3⟩ := ne_fact (t := T) (by omega)
    have HF : Hid (hdL T = [(hoB, usB), (coB, T)]) := by show _ = _; unfold hdL; rw [if_neg hz]
    have hbs : w.heap.size ≤ wb.heap.size := HB2.out.size
    clear hz
    go_wp2_with (at_builtin; refine wpList_append_own _ rfl _ _ 38 rfl w.heap.size 37 i0 (.agg #[.string ⟨#[]⟩, .string ⟨#[]⟩]) 2 32 Tryz.underlying38 hi hz0 hz1 hz2 rfl (by decide) _ _ _ rfl (HO2.out.alloc _) ⟨wb.heap.size, 0, none⟩ 1 1 [.string coB, .string T] rfl rfl (bk.cells_new _ _ _) ?c2 ?c3 ?c4 ?c5 ?_)
    case c2 => first | rfl | (intro u hu; simp at hu; rcases hu with rfl | rfl <;> rfl)
    case c3 => unfold maxLen; omega
    case c4 => omega
    case c5 => first | omega | (simp; omega)
    intro v' w3 hown' hgrow _
    have R2 : Below w.heap.size w w3 := (HB2.out.alloc hbs _).grown hgrow (by simp; omega) (bk.own_ge HO2.out)
    have H1 := hide hown'
    have H2 := hide R2
    clear hown' hgrow R2 HO2
    go_wp2
    go_ret
    exact ⟨_, rfl, by rw [HF.out]; exact H1.out, H2.out⟩
end Go.Proofs.YtlefalplljgkeaaGreatDoor.ag
