import Derived.Test.YtkkgngmhdlmgnaaDoorNewKit
import Derived.Test.YtkkgngmhdlmgnaaDoorReadLaw
namespace Go.Proofs.YtkkgngmhdlmgnaaDoor.jw
open Go.ChangeShapes Go.WideShapes Go.ChangeAt Go.RowKit Go.Proofs.YtkkgngmhdlmgnaaDoor.common
open Go.Proofs.YtkkgngmhdlmgnaaDoor.errw (Errs)
attribute [local go_sem ↓] Go.wp_at_zero Go.wp_at_succ

/-- new blocks alone -/
theorem nb {w w' : World} (hb : Below w.heap.size w w') : w.grownBy w' none := ⟨hb.os, hb.tape, hb.output, hb.size, fun k hk _ => hb.block k hk⟩
/-- a list of members in a block between two bounds -/
structure R5 (w : World) (β υ : Nat) (v : Value) (L : List Mem) : Prop where
  own : w.ownsRow β 37 5 v L.length (cms L)
  top : ∀ g, v.ownBlock = some g → g < υ
theorem R5.keep {w w' : World} {β υ : Nat} {v : Value} {L : List Mem} {row : Option Nat} (h : R5 w β υ v L) (hg : w.grownBy w' row) (hr : ∀ k, row = some k → k < β ∨ υ ≤ k) : R5 w' β υ v L := by
  refine ⟨h.own.kept hg ?_, h.top⟩
  cases hv : v.ownBlock with
  | none => exact Or.inl rfl
  | some g =>
    right
    intro e
    have h1 := hr g e.symm
    have h2 := (h.own.lt g hv).1
    have h3 := h.top g hv
    omega
theorem R5.next {w w' : World} {β υ : Nat} {v : Value} {L : List Mem} (h : R5 w β υ v L) (hb : Below w.heap.size w w') : R5 w' β υ v L := h.keep (nb hb) (fun k e => by cases e)
theorem R5.rng {w : World} {β υ : Nat} {v : Value} {L : List Mem} (h : R5 w β υ v L) : ∀ g, v.ownBlock = some g → β ≤ g ∧ g < υ := fun g hg => ⟨(h.own.lt g hg).1, h.top g hg⟩
theorem R5.mk' {w : World} {β : Nat} {v : Value} {L : List Mem} (h : w.ownsRow β 37 5 v L.length (cms L)) : R5 w β w.heap.size v L := ⟨h, fun g hg => (h.lt g hg).2⟩

/-- a list that was grown: its marks behind the old end -/
def En (w : World) (β υ H : Nat) (v1 : Value) (n : Nat) (N : ByteArray) : Prop := ∃ g cap, v1 = .slice (some ⟨g, 0, none⟩) (n + 64) cap ∧ n + 64 ≤ cap ∧ g < w.heap.size ∧ ((β ≤ g ∧ g < υ) ∨ H ≤ g) ∧ w.cell? ⟨g, n * 5, none⟩ = some (.string N) ∧ w.cell? ⟨g, (n + 63) * 5, none⟩ = some (.string N)
theorem En.keep {w w' : World} {β υ H n : Nat} {v1 : Value} {N : ByteArray} {row : Option Nat} (h : En w β υ H v1 n N) (hg : w.grownBy w' row) (hr : ∀ k, row = some k → (k < β ∨ υ ≤ k) ∧ k < H) : En w' β υ H v1 n N := by
  obtain ⟨g, cap, hv, hcp, hlt, hin, c0, c1⟩ := h
  have hb : w'.heap[g]? = w.heap[g]? := hg.block g hlt (fun e => by have := hr g e.symm; omega)
  exact ⟨g, cap, hv, hcp, Nat.lt_of_lt_of_le hlt hg.size, hin, (World.cell?_of_block hb).trans c0, (World.cell?_of_block hb).trans c1⟩
theorem En.next {w w' : World} {β υ H n : Nat} {v1 : Value} {N : ByteArray} (h : En w β υ H v1 n N) (hb : Below w.heap.size w w') : En w' β υ H v1 n N := h.keep (nb hb) (fun k e => by cases e)
theorem En.mark {w w' : World} {β υ H n : Nat} {v v1 : Value} {N : ByteArray} (h : En w β υ H v1 n N) (hg : w.grownBy w' v.ownBlock) (hc : ∀ g i, v.ownBlock = some g → n * 5 ≤ i → w'.cell? ⟨g, i, none⟩ = w.cell? ⟨g, i, none⟩) : En w' β υ H v1 n N := by
  obtain ⟨g, cap, hv, hcp, hlt, hin, c0, c1⟩ := h
  by_cases e : v.ownBlock = some g
  · exact ⟨g, cap, hv, hcp, Nat.lt_of_lt_of_le hlt hg.size, hin, (hc g _ e (Nat.le_refl _)).trans c0, (hc g _ e (by omega)).trans c1⟩
  · have hb : w'.heap[g]? = w.heap[g]? := hg.block g hlt (fun e' => e e'.symm)
    exact ⟨g, cap, hv, hcp, Nat.lt_of_lt_of_le hlt hg.size, hin, (World.cell?_of_block hb).trans c0, (World.cell?_of_block hb).trans c1⟩
theorem En.of {w : World} {β υ H : Nat} {v v1 : Value} {L : List Mem} {N : ByteArray} (ho : w.ownsRow β 37 5 v1 (L.length + 64) (cms (L ++ List.replicate 64 (named N.data.toList)))) (hg : Grw H v v1 L.length 64) (hr : ∀ g, v.ownBlock = some g → β ≤ g ∧ g < υ) : En w β υ H v1 L.length N := by
  have hlen : (L ++ List.replicate 64 (named N.data.toList)).length = L.length + 64 := by simp
  obtain ⟨g, cap, rfl⟩ : ∃ g cap, v1 = .slice (some ⟨g, 0, none⟩) (L.length + 64) cap := by
    rcases ho.2 with ⟨_, h⟩ | ⟨g, cap, cur, h, _⟩
    · omega
    · exact ⟨g, cap, h⟩
  have hcap : L.length + 64 ≤ cap := by
    rcases ho.2 with ⟨_, h⟩ | ⟨g', cap', cur, h, _, _, hn, _⟩
    · omega
    · cases h; exact hn
  have key : ∀ i, i < 64 → w.cell? ⟨g, (L.length + i) * 5, none⟩ = some (.string N) := fun i hi => by
    rw [ho.cellAt _ (by omega)]
    have h1 := cms_get (L ++ List.replicate 64 (named N.data.toList)) (L.length + i) (by omega) 0 (by decide)
    rw [Nat.add_zero] at h1
    rw [h1, List.getElem_append_right (by omega), List.getElem_replicate]
    rfl
  refine ⟨g, cap, rfl, hcap, (ho.lt g rfl).2, ?_, key 0 (by decide), key 63 (by decide)⟩
  rcases hg with ⟨g', cap', h1, h2⟩ | ⟨h, _⟩ | ⟨b, hb, hbH⟩
  · cases h2
    exact Or.inl (hr g (by rw [h1]; rfl))
  · omega
  · cases hb; exact Or.inr hbH
theorem En.cells {w : World} {β υ H n g cap : Nat} {N : ByteArray} (h : En w β υ H (.slice (some ⟨g, 0, none⟩) (n + 64) cap) n N) : w.cell? ⟨g, n * 5, none⟩ = some (.string N) ∧ w.cell? ⟨g, (n + 63) * 5, none⟩ = some (.string N) ∧ n + 64 ≤ cap := by
  obtain ⟨g', cap', hv, hcp, _, _, c0, c1⟩ := h
  cases hv
  exact ⟨c0, c1, hcp⟩
theorem cellsShared : Tryd.prog.cellsOf 33 = 2 := by kernel_rfl
def one : ByteArray := ⟨#[111, 110, 101]⟩
def two : ByteArray := ⟨#[116, 119, 111]⟩
def three : ByteArray := ⟨#[116, 104, 114, 101, 101]⟩

theorem rd_at {s : ByteArray} {w : World} {e : Nat → Addr} (h : Base w e) (hs : s.size ≤ 1048576) (L : List Mem) (hL : (Json.read s.data.toList).2 = L) (ev : Value) (hev : errV e (Json.read s.data.toList).1 = ev) :
    Calls Tryd.prog 6 #[.string s] w fun x w' => (∃ mv, x = .returned (.tuple #[mv, ev]) ∧ w'.ownsRow w.heap.size 37 5 mv L.length (cms L)) ∧ Below w.heap.size w w' := by
  subst hL hev
  exact readB h (by unfold reachBytes; omega)
theorem rf_at (s : ByteArray) (w : World) (hs : s.size ≤ 1048576) (L : List Mem) (hL : (Json.read s.data.toList).2 = L) (c : Nat) (hc : (Json.read s.data.toList).1 = c) :
    Calls Tryd.prog 7 #[.string s] w fun x w' => (∃ mv, x = .returned (.tuple #[mv, .int .i64 (c : Int)]) ∧ w'.ownsRow w.heap.size 37 5 mv L.length (cms L)) ∧ Below w.heap.size w w' := by
  subst hL hc
  refine (refRead_any s w (by omega)).mono ?_
  rintro x w' ⟨⟨v, rfl, mv, rfl, ho⟩, hb⟩
  exact ⟨⟨mv, rfl, ho⟩, hb⟩

set_option maxRecDepth 100000 in
set_option maxHeartbeats 3200000 in
theorem lawNew (s t : ByteArray) (w : World) (hs : s.size + t.size ≤ 1048576) (e : Nat → Addr) (hB : Base w e) (hE : Errs w e) :
    Calls Tryd.prog 4 #[.agg #[.string s, .string t]] w fun x w' => x = .returned (.bool true) ∧ Below w.heap.size w w' := by
  have HB := hide hB
  have HE := hide hE
  have HS := hide hs
  clear hB hE hs
  obtain ⟨Ls, hLs⟩ : ∃ L, (Json.read s.data.toList).2 = L := ⟨_, rfl⟩
  obtain ⟨Lt, hLt⟩ : ∃ L, (Json.read t.data.toList).2 = L := ⟨_, rfl⟩
  obtain ⟨cs, hcs⟩ : ∃ c, (Json.read s.data.toList).1 = c := ⟨_, rfl⟩
  obtain ⟨ct, hct⟩ : ∃ c, (Json.read t.data.toList).1 = c := ⟨_, rfl⟩
  obtain ⟨es, hes⟩ : ∃ v, errV e (Json.read s.data.toList).1 = v := ⟨_, rfl⟩
  obtain ⟨et, het⟩ : ∃ v, errV e (Json.read t.data.toList).1 = v := ⟨_, rfl⟩
  have l1 : Ls.length ≤ 32 := by rw [← hLs]; exact read_len _
  have l2 : Lt.length ≤ 32 := by rw [← hLt]; exact read_len _
  have HCD : Hid (cs = 0 ∨ cs = 2 ∨ cs = 3 ∨ cs = 4) := by rw [← hcs]; exact read_code _
  have HES : Hid (errV e cs = es) := by show _ = _; rw [← hcs]; exact hes
  have RdS := hide (fun (W : World) (h : Base W e) => rd_at (s := s) h (by have := HS.out; omega) Ls hLs es hes)
  have RdT := hide (fun (W : World) (h : Base W e) => rd_at (s := t) h (by have := HS.out; omega) Lt hLt et het)
  have RfS := hide (fun (W : World) => rf_at s W (by have := HS.out; omega) Ls hLs cs hcs)
  have RfT := hide (fun (W : World) => rf_at t W (by have := HS.out; omega) Lt hLt ct hct)
  clear hLs hLt hcs hct hes het
  have HW0 := hide ((Below.refl w.heap.size w).alloc (Nat.le_refl _) (.cells #[.string s, .string t] 33))
  have HX0 : Hid (Below (w.heap.size + 1) (w.alloc (.cells #[.string s, .string t] 33)) (w.alloc (.cells #[.string s, .string t] 33))) := Below.refl _ _
  have hsz0 : (w.alloc (.cells #[.string s, .string t] 33)).heap.size = w.heap.size + 1 := by simp
  have hc0 : (w.alloc (.cells #[.string s, .string t] 33)).cell? ⟨w.heap.size, 0, none⟩ = some (.string s) := range_new w #[.string s, .string t] _ 0 _ rfl
  have hc1 : (w.alloc (.cells #[.string s, .string t] 33)).cell? ⟨w.heap.size, 1, none⟩ = some (.string t) := range_new w #[.string s, .string t] _ 1 _ rfl
  have HZ0 := hide hsz0
  have HC0 := hide hc0
  have HC1 := hide hc1
  clear hsz0 hc0 hc1
  go_enter Tryd.func4, Tryd.ntmps4
  go_wp2_with fail
  generalize w.alloc (.cells #[.string s, .string t] 33) = wx at *
  have z0 : wx.heap.size = w.heap.size + 1 := HZ0.out
  refine (RdS.out wx (HB.out.below (HW0.out.trans (HX0.out.mono (Nat.le_succ _))))).mono ?_
  rintro x w1 ⟨⟨va, rfl, ho⟩, hb⟩
  have z_w1 : wx.heap.size ≤ w1.heap.size := hb.size
  have Ra := hide (R5.mk' ho)
  obtain ⟨oa, ca, rfl⟩ := own_form ho
  have F_ := hide (HX0.out.trans (hb.mono (by have := HX0.out.size; omega)))
  clear HX0
  have Fw1 := F_
  clear F_
  clear ho hb
  have y0_w1 : w1.cell? ⟨w.heap.size, 0, none⟩ = some (.string s) := (Fw1.out.cell (Nat.lt_succ_self _)).trans HC0.out
  have y1_w1 : w1.cell? ⟨w.heap.size, 1, none⟩ = some (.string t) := (Fw1.out.cell (Nat.lt_succ_self _)).trans HC1.out
  go_wp2_with fail
  refine (RdT.out w1 (HB.out.below (HW0.out.trans (Fw1.out.mono (Nat.le_succ _))))).mono ?_
  rintro x w2 ⟨⟨vb, rfl, ho⟩, hb⟩
  have z_w2 : w1.heap.size ≤ w2.heap.size := hb.size
  have Ra_ := hide (Ra.out.next hb); clear Ra; have Ra := Ra_; clear Ra_
  have Rb := hide (R5.mk' ho)
  obtain ⟨ob, cb, rfl⟩ := own_form ho
  have F_ := hide (Fw1.out.trans (hb.mono (by have := Fw1.out.size; omega)))
  clear Fw1
  have Fw2 := F_
  clear F_
  clear ho hb
  have y0_w2 : w2.cell? ⟨w.heap.size, 0, none⟩ = some (.string s) := (Fw2.out.cell (Nat.lt_succ_self _)).trans HC0.out
  have y1_w2 : w2.cell? ⟨w.heap.size, 1, none⟩ = some (.string t) := (Fw2.out.cell (Nat.lt_succ_self _)).trans HC1.out
  go_wp2_with fail
  refine (RdS.out w2 (HB.out.below (HW0.out.trans (Fw2.out.mono (Nat.le_succ _))))).mono ?_
  rintro x w3 ⟨⟨vc, rfl, ho⟩, hb⟩
  have z_w3 : w2.heap.size ≤ w3.heap.size := hb.size
  have Ra_ := hide (Ra.out.next hb); clear Ra; have Ra := Ra_; clear Ra_
  have Rb_ := hide (Rb.out.next hb); clear Rb; have Rb := Rb_; clear Rb_
  have Rc := hide (R5.mk' ho)
  obtain ⟨oc, cc, rfl⟩ := own_form ho
  have F_ := hide (Fw2.out.trans (hb.mono (by have := Fw2.out.size; omega)))
  clear Fw2
  have Fw3 := F_
  clear F_
  clear ho hb
  have y0_w3 : w3.cell? ⟨w.heap.size, 0, none⟩ = some (.string s) := (Fw3.out.cell (Nat.lt_succ_self _)).trans HC0.out
  have y1_w3 : w3.cell? ⟨w.heap.size, 1, none⟩ = some (.string t) := (Fw3.out.cell (Nat.lt_succ_self _)).trans HC1.out
  go_wp2_with fail
  refine (RfS.out w3).mono ?_
  rintro x w4 ⟨⟨vW, rfl, ho⟩, hb⟩
  have z_w4 : w3.heap.size ≤ w4.heap.size := hb.size
  have Ra_ := hide (Ra.out.next hb); clear Ra; have Ra := Ra_; clear Ra_
  have Rb_ := hide (Rb.out.next hb); clear Rb; have Rb := Rb_; clear Rb_
  have Rc_ := hide (Rc.out.next hb); clear Rc; have Rc := Rc_; clear Rc_
  have RW := hide (R5.mk' ho)
  obtain ⟨oW, cW, rfl⟩ := own_form ho
  have F_ := hide (Fw3.out.trans (hb.mono (by have := Fw3.out.size; omega)))
  clear Fw3
  have Fw4 := F_
  clear F_
  clear ho hb
  have y0_w4 : w4.cell? ⟨w.heap.size, 0, none⟩ = some (.string s) := (Fw4.out.cell (Nat.lt_succ_self _)).trans HC0.out
  have y1_w4 : w4.cell? ⟨w.heap.size, 1, none⟩ = some (.string t) := (Fw4.out.cell (Nat.lt_succ_self _)).trans HC1.out
  go_wp2_with fail
  refine (RfT.out w4).mono ?_
  rintro x w5 ⟨⟨vO, rfl, ho⟩, hb⟩
  have z_w5 : w4.heap.size ≤ w5.heap.size := hb.size
  have Ra_ := hide (Ra.out.next hb); clear Ra; have Ra := Ra_; clear Ra_
  have Rb_ := hide (Rb.out.next hb); clear Rb; have Rb := Rb_; clear Rb_
  have Rc_ := hide (Rc.out.next hb); clear Rc; have Rc := Rc_; clear Rc_
  have RW_ := hide (RW.out.next hb); clear RW; have RW := RW_; clear RW_
  have RO := hide (R5.mk' ho)
  obtain ⟨oO, cO, rfl⟩ := own_form ho
  have F_ := hide (Fw4.out.trans (hb.mono (by have := Fw4.out.size; omega)))
  clear Fw4
  have Fw5 := F_
  clear F_
  clear ho hb
  have y0_w5 : w5.cell? ⟨w.heap.size, 0, none⟩ = some (.string s) := (Fw5.out.cell (Nat.lt_succ_self _)).trans HC0.out
  have y1_w5 : w5.cell? ⟨w.heap.size, 1, none⟩ = some (.string t) := (Fw5.out.cell (Nat.lt_succ_self _)).trans HC1.out
  go_wp2_with fail
  refine (longer_any wx.heap.size _ Ls _ w5 Ra.out.own (by omega) (by have := Ra.out.own; omega)).mono ?_
  rintro x w6 ⟨ua, rfl, hg, hv, ho, hgr⟩
  have z_w6 : w5.heap.size ≤ w6.heap.size := hg.size
  have EE := hide (En.of ho hgr Ra.out.rng)
  have RR := hide (R5.mk hv Ra.out.top)
  have Rb_ := hide (Rb.out.keep hg (fun k hk => by have := Ra.out.rng k hk; omega)); clear Rb; have Rb := Rb_; clear Rb_
  have Rc_ := hide (Rc.out.keep hg (fun k hk => by have := Ra.out.rng k hk; omega)); clear Rc; have Rc := Rc_; clear Rc_
  have RW_ := hide (RW.out.keep hg (fun k hk => by have := Ra.out.rng k hk; omega)); clear RW; have RW := RW_; clear RW_
  have RO_ := hide (RO.out.keep hg (fun k hk => by have := Ra.out.rng k hk; omega)); clear RO; have RO := RO_; clear RO_
  have F_ := hide (Fw5.out.grown hg (by have := Fw5.out.size; omega) (fun k hk => by have := Ra.out.rng k hk; omega))
  clear Fw5
  have Fw6 := F_
  clear F_
  clear Ra
  have Ra := RR
  have Ea := EE
  clear RR EE ho hv hgr hg
  obtain ⟨ga, pa, hform, _⟩ := Ea.out
  subst hform
  have y0_w6 : w6.cell? ⟨w.heap.size, 0, none⟩ = some (.string s) := (Fw6.out.cell (Nat.lt_succ_self _)).trans HC0.out
  have y1_w6 : w6.cell? ⟨w.heap.size, 1, none⟩ = some (.string t) := (Fw6.out.cell (Nat.lt_succ_self _)).trans HC1.out
  go_wp2_with fail
  refine (longer_any w1.heap.size _ Lt _ w6 Rb.out.own (by omega) (by have := Rb.out.own; omega)).mono ?_
  rintro x w7 ⟨ub, rfl, hg, hv, ho, hgr⟩
  have z_w7 : w6.heap.size ≤ w7.heap.size := hg.size
  have EE := hide (En.of ho hgr Rb.out.rng)
  have RR := hide (R5.mk hv Rb.out.top)
  have Ra_ := hide (Ra.out.keep hg (fun k hk => by have := Rb.out.rng k hk; omega)); clear Ra; have Ra := Ra_; clear Ra_
  have Rc_ := hide (Rc.out.keep hg (fun k hk => by have := Rb.out.rng k hk; omega)); clear Rc; have Rc := Rc_; clear Rc_
  have RW_ := hide (RW.out.keep hg (fun k hk => by have := Rb.out.rng k hk; omega)); clear RW; have RW := RW_; clear RW_
  have RO_ := hide (RO.out.keep hg (fun k hk => by have := Rb.out.rng k hk; omega)); clear RO; have RO := RO_; clear RO_
  have Ea_ := hide (Ea.out.keep hg (fun k hk => by have := Rb.out.rng k hk; omega)); clear Ea; have Ea := Ea_; clear Ea_
  have F_ := hide (Fw6.out.grown hg (by have := Fw6.out.size; omega) (fun k hk => by have := Rb.out.rng k hk; omega))
  clear Fw6
  have Fw7 := F_
  clear F_
  clear Rb
  have Rb := RR
  have Eb := EE
  clear RR EE ho hv hgr hg
  obtain ⟨gb, pb, hform, _⟩ := Eb.out
  subst hform
  have y0_w7 : w7.cell? ⟨w.heap.size, 0, none⟩ = some (.string s) := (Fw7.out.cell (Nat.lt_succ_self _)).trans HC0.out
  have y1_w7 : w7.cell? ⟨w.heap.size, 1, none⟩ = some (.string t) := (Fw7.out.cell (Nat.lt_succ_self _)).trans HC1.out
  go_wp2_with fail
  refine (longer_any w2.heap.size _ Ls _ w7 Rc.out.own (by omega) (by have := Rc.out.own; omega)).mono ?_
  rintro x w8 ⟨uc, rfl, hg, hv, ho, hgr⟩
  have z_w8 : w7.heap.size ≤ w8.heap.size := hg.size
  have EE := hide (En.of ho hgr Rc.out.rng)
  have RR := hide (R5.mk hv Rc.out.top)
  have Ra_ := hide (Ra.out.keep hg (fun k hk => by have := Rc.out.rng k hk; omega)); clear Ra; have Ra := Ra_; clear Ra_
  have Rb_ := hide (Rb.out.keep hg (fun k hk => by have := Rc.out.rng k hk; omega)); clear Rb; have Rb := Rb_; clear Rb_
  have RW_ := hide (RW.out.keep hg (fun k hk => by have := Rc.out.rng k hk; omega)); clear RW; have RW := RW_; clear RW_
  have RO_ := hide (RO.out.keep hg (fun k hk => by have := Rc.out.rng k hk; omega)); clear RO; have RO := RO_; clear RO_
  have Ea_ := hide (Ea.out.keep hg (fun k hk => by have := Rc.out.rng k hk; omega)); clear Ea; have Ea := Ea_; clear Ea_
  have Eb_ := hide (Eb.out.keep hg (fun k hk => by have := Rc.out.rng k hk; omega)); clear Eb; have Eb := Eb_; clear Eb_
  have F_ := hide (Fw7.out.grown hg (by have := Fw7.out.size; omega) (fun k hk => by have := Rc.out.rng k hk; omega))
  clear Fw7
  have Fw8 := F_
  clear F_
  clear Rc
  have Rc := RR
  have Ec := EE
  clear RR EE ho hv hgr hg
  obtain ⟨gc, pc, hform, _⟩ := Ec.out
  subst hform
  have y0_w8 : w8.cell? ⟨w.heap.size, 0, none⟩ = some (.string s) := (Fw8.out.cell (Nat.lt_succ_self _)).trans HC0.out
  have y1_w8 : w8.cell? ⟨w.heap.size, 1, none⟩ = some (.string t) := (Fw8.out.cell (Nat.lt_succ_self _)).trans HC1.out
  go_wp2_with fail
  refine (marked_any wx.heap.size _ Ls.length (cms Ls) _ w8 Ra.out.own (by omega)).mono ?_
  rintro x w9 ⟨rfl, hg, hc⟩
  have z_w9 : w8.heap.size ≤ w9.heap.size := hg.size
  have Rb_ := hide (Rb.out.keep hg (fun k hk => by have := Ra.out.rng k hk; omega)); clear Rb; have Rb := Rb_; clear Rb_
  have Rc_ := hide (Rc.out.keep hg (fun k hk => by have := Ra.out.rng k hk; omega)); clear Rc; have Rc := Rc_; clear Rc_
  have RW_ := hide (RW.out.keep hg (fun k hk => by have := Ra.out.rng k hk; omega)); clear RW; have RW := RW_; clear RW_
  have RO_ := hide (RO.out.keep hg (fun k hk => by have := Ra.out.rng k hk; omega)); clear RO; have RO := RO_; clear RO_
  have Ea_ := hide (Ea.out.mark hg hc); clear Ea; have Ea := Ea_; clear Ea_
  have Eb_ := hide (Eb.out.keep hg (fun k hk => by have := Ra.out.rng k hk; omega)); clear Eb; have Eb := Eb_; clear Eb_
  have Ec_ := hide (Ec.out.keep hg (fun k hk => by have := Ra.out.rng k hk; omega)); clear Ec; have Ec := Ec_; clear Ec_
  have F_ := hide (Fw8.out.grown hg (by have := Fw8.out.size; omega) (fun k hk => by have := Ra.out.rng k hk; omega))
  clear Fw8
  have Fw9 := F_
  clear F_
  clear Ra hg hc
  have y0_w9 : w9.cell? ⟨w.heap.size, 0, none⟩ = some (.string s) := (Fw9.out.cell (Nat.lt_succ_self _)).trans HC0.out
  have y1_w9 : w9.cell? ⟨w.heap.size, 1, none⟩ = some (.string t) := (Fw9.out.cell (Nat.lt_succ_self _)).trans HC1.out
  go_wp2_with fail
  refine (sameM_any _ _ Lt w9 (lies_of_own Rb.out.own) (lies_of_own RO.out.own) (by omega)).mono ?_
  rintro x w10 ⟨rfl, hb⟩
  have z_w10 : w9.heap.size ≤ w10.heap.size := hb.size
  have Rb_ := hide (Rb.out.next hb); clear Rb; have Rb := Rb_; clear Rb_
  have Rc_ := hide (Rc.out.next hb); clear Rc; have Rc := Rc_; clear Rc_
  have RW_ := hide (RW.out.next hb); clear RW; have RW := RW_; clear RW_
  have RO_ := hide (RO.out.next hb); clear RO; have RO := RO_; clear RO_
  have Ea_ := hide (Ea.out.next hb); clear Ea; have Ea := Ea_; clear Ea_
  have Eb_ := hide (Eb.out.next hb); clear Eb; have Eb := Eb_; clear Eb_
  have Ec_ := hide (Ec.out.next hb); clear Ec; have Ec := Ec_; clear Ec_
  have F_ := hide (Fw9.out.trans (hb.mono (by have := Fw9.out.size; omega)))
  clear Fw9
  have Fw10 := F_
  clear F_
  clear hb
  have y0_w10 : w10.cell? ⟨w.heap.size, 0, none⟩ = some (.string s) := (Fw10.out.cell (Nat.lt_succ_self _)).trans HC0.out
  have y1_w10 : w10.cell? ⟨w.heap.size, 1, none⟩ = some (.string t) := (Fw10.out.cell (Nat.lt_succ_self _)).trans HC1.out
  go_wp2_with fail
  refine (sameM_any _ _ Ls w10 (lies_of_own Rc.out.own) (lies_of_own RW.out.own) (by omega)).mono ?_
  rintro x w11 ⟨rfl, hb⟩
  have z_w11 : w10.heap.size ≤ w11.heap.size := hb.size
  have Rb_ := hide (Rb.out.next hb); clear Rb; have Rb := Rb_; clear Rb_
  have Rc_ := hide (Rc.out.next hb); clear Rc; have Rc := Rc_; clear Rc_
  have RW_ := hide (RW.out.next hb); clear RW; have RW := RW_; clear RW_
  have RO_ := hide (RO.out.next hb); clear RO; have RO := RO_; clear RO_
  have Ea_ := hide (Ea.out.next hb); clear Ea; have Ea := Ea_; clear Ea_
  have Eb_ := hide (Eb.out.next hb); clear Eb; have Eb := Eb_; clear Eb_
  have Ec_ := hide (Ec.out.next hb); clear Ec; have Ec := Ec_; clear Ec_
  have F_ := hide (Fw10.out.trans (hb.mono (by have := Fw10.out.size; omega)))
  clear Fw10
  have Fw11 := F_
  clear F_
  clear hb
  have y0_w11 : w11.cell? ⟨w.heap.size, 0, none⟩ = some (.string s) := (Fw11.out.cell (Nat.lt_succ_self _)).trans HC0.out
  have y1_w11 : w11.cell? ⟨w.heap.size, 1, none⟩ = some (.string t) := (Fw11.out.cell (Nat.lt_succ_self _)).trans HC1.out
  go_wp2_with fail
  refine (marked_any w1.heap.size _ Lt.length (cms Lt) _ w11 Rb.out.own (by omega)).mono ?_
  rintro x w12 ⟨rfl, hg, hc⟩
  have z_w12 : w11.heap.size ≤ w12.heap.size := hg.size
  have Rc_ := hide (Rc.out.keep hg (fun k hk => by have := Rb.out.rng k hk; omega)); clear Rc; have Rc := Rc_; clear Rc_
  have RW_ := hide (RW.out.keep hg (fun k hk => by have := Rb.out.rng k hk; omega)); clear RW; have RW := RW_; clear RW_
  have RO_ := hide (RO.out.keep hg (fun k hk => by have := Rb.out.rng k hk; omega)); clear RO; have RO := RO_; clear RO_
  have Ea_ := hide (Ea.out.keep hg (fun k hk => by have := Rb.out.rng k hk; omega)); clear Ea; have Ea := Ea_; clear Ea_
  have Eb_ := hide (Eb.out.mark hg hc); clear Eb; have Eb := Eb_; clear Eb_
  have Ec_ := hide (Ec.out.keep hg (fun k hk => by have := Rb.out.rng k hk; omega)); clear Ec; have Ec := Ec_; clear Ec_
  have F_ := hide (Fw11.out.grown hg (by have := Fw11.out.size; omega) (fun k hk => by have := Rb.out.rng k hk; omega))
  clear Fw11
  have Fw12 := F_
  clear F_
  clear Rb hg hc
  have y0_w12 : w12.cell? ⟨w.heap.size, 0, none⟩ = some (.string s) := (Fw12.out.cell (Nat.lt_succ_self _)).trans HC0.out
  have y1_w12 : w12.cell? ⟨w.heap.size, 1, none⟩ = some (.string t) := (Fw12.out.cell (Nat.lt_succ_self _)).trans HC1.out
  go_wp2_with fail
  refine (sameM_any _ _ Ls w12 (lies_of_own Rc.out.own) (lies_of_own RW.out.own) (by omega)).mono ?_
  rintro x w13 ⟨rfl, hb⟩
  have z_w13 : w12.heap.size ≤ w13.heap.size := hb.size
  have Rc_ := hide (Rc.out.next hb); clear Rc; have Rc := Rc_; clear Rc_
  have RW_ := hide (RW.out.next hb); clear RW; have RW := RW_; clear RW_
  have RO_ := hide (RO.out.next hb); clear RO; have RO := RO_; clear RO_
  have Ea_ := hide (Ea.out.next hb); clear Ea; have Ea := Ea_; clear Ea_
  have Eb_ := hide (Eb.out.next hb); clear Eb; have Eb := Eb_; clear Eb_
  have Ec_ := hide (Ec.out.next hb); clear Ec; have Ec := Ec_; clear Ec_
  have F_ := hide (Fw12.out.trans (hb.mono (by have := Fw12.out.size; omega)))
  clear Fw12
  have Fw13 := F_
  clear F_
  clear hb
  have y0_w13 : w13.cell? ⟨w.heap.size, 0, none⟩ = some (.string s) := (Fw13.out.cell (Nat.lt_succ_self _)).trans HC0.out
  have y1_w13 : w13.cell? ⟨w.heap.size, 1, none⟩ = some (.string t) := (Fw13.out.cell (Nat.lt_succ_self _)).trans HC1.out
  go_wp2_with fail
  refine (marked_any w2.heap.size _ Ls.length (cms Ls) _ w13 Rc.out.own (by omega)).mono ?_
  rintro x w14 ⟨rfl, hg, hc⟩
  have z_w14 : w13.heap.size ≤ w14.heap.size := hg.size
  have RW_ := hide (RW.out.keep hg (fun k hk => by have := Rc.out.rng k hk; omega)); clear RW; have RW := RW_; clear RW_
  have RO_ := hide (RO.out.keep hg (fun k hk => by have := Rc.out.rng k hk; omega)); clear RO; have RO := RO_; clear RO_
  have Ea_ := hide (Ea.out.keep hg (fun k hk => by have := Rc.out.rng k hk; omega)); clear Ea; have Ea := Ea_; clear Ea_
  have Eb_ := hide (Eb.out.keep hg (fun k hk => by have := Rc.out.rng k hk; omega)); clear Eb; have Eb := Eb_; clear Eb_
  have Ec_ := hide (Ec.out.mark hg hc); clear Ec; have Ec := Ec_; clear Ec_
  have F_ := hide (Fw13.out.grown hg (by have := Fw13.out.size; omega) (fun k hk => by have := Rc.out.rng k hk; omega))
  clear Fw13
  have Fw14 := F_
  clear F_
  clear Rc hg hc
  have y0_w14 : w14.cell? ⟨w.heap.size, 0, none⟩ = some (.string s) := (Fw14.out.cell (Nat.lt_succ_self _)).trans HC0.out
  have y1_w14 : w14.cell? ⟨w.heap.size, 1, none⟩ = some (.string t) := (Fw14.out.cell (Nat.lt_succ_self _)).trans HC1.out
  go_wp2_with fail
  refine (RdS.out w14 (HB.out.below (HW0.out.trans (Fw14.out.mono (Nat.le_succ _))))).mono ?_
  rintro x w15 ⟨⟨vd, rfl, ho⟩, hb⟩
  have z_w15 : w14.heap.size ≤ w15.heap.size := hb.size
  have RW_ := hide (RW.out.next hb); clear RW; have RW := RW_; clear RW_
  have RO_ := hide (RO.out.next hb); clear RO; have RO := RO_; clear RO_
  have Ea_ := hide (Ea.out.next hb); clear Ea; have Ea := Ea_; clear Ea_
  have Eb_ := hide (Eb.out.next hb); clear Eb; have Eb := Eb_; clear Eb_
  have Ec_ := hide (Ec.out.next hb); clear Ec; have Ec := Ec_; clear Ec_
  have Rd := hide (R5.mk' ho)
  obtain ⟨od, cd, rfl⟩ := own_form ho
  have F_ := hide (Fw14.out.trans (hb.mono (by have := Fw14.out.size; omega)))
  clear Fw14
  have Fw15 := F_
  clear F_
  clear ho hb
  have y0_w15 : w15.cell? ⟨w.heap.size, 0, none⟩ = some (.string s) := (Fw15.out.cell (Nat.lt_succ_self _)).trans HC0.out
  have y1_w15 : w15.cell? ⟨w.heap.size, 1, none⟩ = some (.string t) := (Fw15.out.cell (Nat.lt_succ_self _)).trans HC1.out
  go_wp2_with fail
  refine (sameM_any _ _ Ls w15 (lies_of_own Rd.out.own) (lies_of_own RW.out.own) (by omega)).mono ?_
  rintro x w16 ⟨rfl, hb⟩
  have z_w16 : w15.heap.size ≤ w16.heap.size := hb.size
  have RW_ := hide (RW.out.next hb); clear RW; have RW := RW_; clear RW_
  have RO_ := hide (RO.out.next hb); clear RO; have RO := RO_; clear RO_
  have Rd_ := hide (Rd.out.next hb); clear Rd; have Rd := Rd_; clear Rd_
  have Ea_ := hide (Ea.out.next hb); clear Ea; have Ea := Ea_; clear Ea_
  have Eb_ := hide (Eb.out.next hb); clear Eb; have Eb := Eb_; clear Eb_
  have Ec_ := hide (Ec.out.next hb); clear Ec; have Ec := Ec_; clear Ec_
  have F_ := hide (Fw15.out.trans (hb.mono (by have := Fw15.out.size; omega)))
  clear Fw15
  have Fw16 := F_
  clear F_
  clear hb
  have y0_w16 : w16.cell? ⟨w.heap.size, 0, none⟩ = some (.string s) := (Fw16.out.cell (Nat.lt_succ_self _)).trans HC0.out
  have y1_w16 : w16.cell? ⟨w.heap.size, 1, none⟩ = some (.string t) := (Fw16.out.cell (Nat.lt_succ_self _)).trans HC1.out
  obtain ⟨a0, a1, a2⟩ := Ea.out.cells
  obtain ⟨b0, b1, b2⟩ := Eb.out.cells
  obtain ⟨d0, d1, d2⟩ := Ec.out.cells
  have i0 : (0 : Int) ≤ (Ls.length : Int) := by omega
  have i1 : (Ls.length : Int) < ((Ls.length + 64 : Nat) : Int) := by omega
  have i2 : ((Ls.length : Int) + 63).toNat = Ls.length + 63 := by omega
  have i3 : (Ls.length : Int) + 63 < ((Ls.length + 64 : Nat) : Int) := by omega
  have j0 : (0 : Int) ≤ (Lt.length : Int) := by omega
  have j1 : (Lt.length : Int) < ((Lt.length + 64 : Nat) : Int) := by omega
  have j2 : ((Lt.length : Int) + 63).toNat = Lt.length + 63 := by omega
  have j3 : (Lt.length : Int) + 63 < ((Lt.length + 64 : Nat) : Int) := by omega
  have HWF := hide (HW0.out.trans (Fw16.out.mono (Nat.le_succ _)))
  have HNM := hide (num_errV w16 e (HE.out.below HWF.out) cs HCD.out)
  rw [HES.out] at HNM
  go_wp2_with fail
  refine HNM.out.mono ?_
  rintro x wz ⟨rfl, hwz⟩
  obtain rfl := hwz
  go_wp2
  go_ret
  exact ⟨by simp, HWF.out⟩
end Go.Proofs.YtkkgngmhdlmgnaaDoor.jw
