import Derived.Test.YtaejlcffimkopaaDoorRdFmM
namespace Go.Proofs.YtaejlcffimkopaaDoor.pg
open Go.ChangeShapes Go.WideShapes Go.ChangeAt Go.RowKit Go.Proofs.YtaejlcffimkopaaDoor.common Go.Maps
attribute [local go_sem ↓] Go.wp_at_zero Go.wp_at_succ

/-- is the place lost? -/
def plost (w : World) (p : Nat) : Bool := match w.cell? ⟨p, 2, none⟩ with
  | some (.bool b) => b
  | _ => false
theorem Pl.plost {w : World} {p : Nat} {s : ByteArray} {a : Nat} {l : Bool} (h : Pl w p s a l) : plost w p = l := by
  have c : w.cell? ⟨p, 2, none⟩ = some (.bool l) := cell_of h 2
  unfold pg.plost
  rw [c]
/-- how much is left to do -/
def todo (s : ByteArray) (p : Nat) (w : World) : Nat := if plost w p then 0 else s.size + 1 - plat w p
theorem Pl.todo {w : World} {p : Nat} {s : ByteArray} {a : Nat} {l : Bool} (h : Pl w p s a l) : todo s p w = if l then 0 else s.size + 1 - a := by
  unfold pg.todo
  rw [h.plost, h.plat]
theorem Kr.grown {p : Nat} {w w1 w2 : World} {row : Option Nat} (h : Kr p w w1) (hg : w1.grownBy w2 row) (hr : ∀ k, row = some k → w.heap.size ≤ k) : Kr p w w2 :=
  ⟨hg.os.trans h.os, hg.tape.trans h.tape, hg.output.trans h.output, Nat.le_trans h.size hg.size, fun k hk hn => (hg.block k (Nat.lt_of_lt_of_le hk h.size) (fun e => by have := hr k e.symm; omega)).trans (h.block k hk hn)⟩
theorem sizeFmd : (Tryd.prog.info? 31).map (·.size) = some 3 := by kernel_rfl
/-- what begins leaves -/
theorem ownd_kr {p : Nat} {w w' : World} {base : Nat} {e : TypeId} {size : Nat} {v : Value} {n : Nat} {xs : List Value} (h : w.ownsRow base e size v n xs) (hk : Kr p w w') (hp : p < base) : w'.ownsRow base e size v n xs := by
  refine ⟨h.1, ?_⟩
  rcases h.2 with hh | ⟨g, cap, cur, rfl, hg, hh, hn⟩
  · exact Or.inl hh
  · exact Or.inr ⟨g, cap, cur, rfl, hg, hk.keep hh (by omega), hn⟩
theorem fm_rel {s act but : ByteArray} {xs : List Inp} {a a1 a2 a3 a4 a5 a6 a7 : Nat} {l l1 l2 l3 l4 l5 l6 l7 : Bool} (h1 : RelS mFormHead s a l a1 l1) (h2 : Rel nmD s a1 l1 act a2 l2) (h3 : RelS mHidD s a2 l2 a3 l3) (h4 : Rel (fun x => insDF (x.length + 1) x) s a3 l3 xs a4 l4) (h5 : Rel (txtL 60) s a4 l4 but a5 l5) (h6 : RelS mBtnD s a5 l5 a6 l6) (h7 : RelS mFmEndD s a6 l6 a7 l7) : Rel frmD s a l ⟨act, xs, but⟩ a7 l7 :=
  h1.bind (h2.bind (g := fun a y => (skp mHidD.data.toList y).bind fun r => (insDF (r.length + 1) r).bind fun p => (txtL 60 p.2).bind fun b => (skp mBtnD.data.toList b.2).bind fun r => (skp mFmEndD.data.toList r).bind fun r => some ((⟨a, p.1, b.1⟩ : Frm), r))
    (h3.bind (h4.bind (g := fun x y => (txtL 60 y).bind fun b => (skp mBtnD.data.toList b.2).bind fun r => (skp mFmEndD.data.toList r).bind fun r => some ((⟨act, x, b.1⟩ : Frm), r))
      (h5.bind (g := fun b y => (skp mBtnD.data.toList y).bind fun r => (skp mFmEndD.data.toList r).bind fun r => some ((⟨act, xs, b⟩ : Frm), r)) (h6.bind (h7.bind (Rel.ret s a7 l7 _)))))))
theorem put_three {w : World} {F : Nat} {t : TypeId} {x0 x1 x2 : Value} (h : w.heap[F]? = some (.cells #[x0, x1, x2] t)) (a0 a1 a2 : Value) : (((w.setCell ⟨F, 0, none⟩ a0).setCell ⟨F, 1, none⟩ a1).setCell ⟨F, 2, none⟩ a2).heap[F]? = some (.cells #[a0, a1, a2] t) := by
  have h0 : (w.setCell ⟨F, 0, none⟩ a0).heap[F]? = some (.cells #[a0, x1, x2] t) := set_of h 0 a0
  generalize w.setCell ⟨F, 0, none⟩ a0 = w0 at h0 ⊢
  have h1 : (w0.setCell ⟨F, 1, none⟩ a1).heap[F]? = some (.cells #[a0, a1, x2] t) := set_of h0 1 a1
  generalize w0.setCell ⟨F, 1, none⟩ a1 = w1 at h1 ⊢
  have h2 : (w1.setCell ⟨F, 2, none⟩ a2).heap[F]? = some (.cells #[a0, a1, a2] t) := set_of h1 2 a2
  exact h2

set_option maxRecDepth 100000 in
set_option maxHeartbeats 6400000 in
theorem dForm_any (p : Nat) (s : ByteArray) (a : Nat) (l : Bool) (w : World) (h : Pl w p s a l) (ha : a ≤ s.size) (hs : s.size ≤ 1099511627776) :
    Calls Tryd.prog 52 #[ptr p] w fun e w' => ∃ (f : Frm × Value) (a' : Nat) (l' : Bool), e = .returned (.agg #[.string f.1.act, f.2, .string f.1.but]) ∧ Kr p w w' ∧ Pl w' p s a' l' ∧ a ≤ a' ∧ a' ≤ s.size ∧ Rel frmD s a l f.1 a' l' ∧ w'.ownsRow w.heap.size 28 4 f.2 f.1.ins.length (ic f.1.ins) := by
  obtain ⟨i0, hi, hz0, hz1, hz2⟩ := info_parts infoI
  have hpw := h.lt
  have HP0 := hide (h.more (.cells #[.string ⟨#[]⟩, .slice none 0 0, .string ⟨#[]⟩] 31))
  have HR0 := hide (heap_new w (.cells #[.string ⟨#[]⟩, .slice none 0 0, .string ⟨#[]⟩] 31))
  have HK0 : Hid (Kr p w (w.alloc (.cells #[.string ⟨#[]⟩, .slice none 0 0, .string ⟨#[]⟩] 31))) := (Kr.refl p w).more _
  clear h
  go_enter Tryd.func52, Tryd.ntmps52
  go_wp2_with fail
  generalize w.alloc (.cells #[.string ⟨#[]⟩, .slice none 0 0, .string ⟨#[]⟩] 31) = V at *
  refine (pass_rel p s mFormHead a l V HP0.out (by omega) hs (by decide)).mono ?_
  rintro e u81 ⟨b81, m81, rfl, K81, P81, le81, ha81, R81⟩
  have HK81 := hide (HK0.out.trans K81)
  have HP81 := hide P81
  have HL81 := hide R81
  have HR81 := hide (K81.keep HR0.out (by omega))
  clear K81 P81 R81
  have hltR82 := (Array.getElem?_eq_some_iff.1 HR81.out).1
  have HR82 := hide (heap_old u81 (.cells #[.string ⟨#[]⟩, .slice none 0 0, .string ⟨#[]⟩] 31) HR81.out)
  have HX82 := hide (heap_new u81 (.cells #[.string ⟨#[]⟩, .slice none 0 0, .string ⟨#[]⟩] 31))
  have HK82 := hide (HK81.out.more (.cells #[.string ⟨#[]⟩, .slice none 0 0, .string ⟨#[]⟩] 31))
  have HP82 := hide (HP81.out.more (.cells #[.string ⟨#[]⟩, .slice none 0 0, .string ⟨#[]⟩] 31))
  go_wp2_with (fail)
  generalize u81.alloc (.cells #[.string ⟨#[]⟩, .slice none 0 0, .string ⟨#[]⟩] 31) = u82 at *
  refine (named_any p s b81 m81 u82 HP82.out (by omega) hs).mono ?_
  rintro e u83 ⟨act, b83, m83, rfl, K83, P83, le83, ha83, R83⟩
  have HK83 := hide (HK82.out.trans K83)
  have HP83 := hide P83
  have HL83 := hide R83
  have HR83 := hide (K83.keep HR82.out (by omega))
  have HX83 := hide (K83.keep HX82.out (by omega))
  clear K83 P83 R83
  have q84 : u83.cell? ⟨u81.heap.size, 0, none⟩ = some (.string ⟨#[]⟩) := cell_of HX83.out 0
  have f84 : u83.frozen? ⟨u81.heap.size, 0, none⟩ = false := free_of HX83.out 0
  have HX84 : Hid ((u83.setCell ⟨u81.heap.size, 0, none⟩ (.string act)).heap[u81.heap.size]? = some (.cells #[.string act, .slice none 0 0, .string ⟨#[]⟩] 31)) := set_of HX83.out 0 (.string act)
  have HK84 := hide (HK83.out.put ⟨u81.heap.size, 0, none⟩ (.string act) (by show w.heap.size ≤ u81.heap.size; omega))
  have HP84 := hide (HP83.out.put ⟨u81.heap.size, 0, none⟩ (.string act) (by show p ≠ u81.heap.size; omega))
  have HR84 := hide (heap_set u83 ⟨u81.heap.size, 0, none⟩ (.string act) HR83.out (by show w.heap.size ≠ u81.heap.size; omega))
  go_wp2_with (fail)
  generalize u83.setCell ⟨u81.heap.size, 0, none⟩ (.string act) = u84 at *
  refine (pass_rel p s mHidD b83 m83 u84 HP84.out (by omega) hs (by decide)).mono ?_
  rintro e u85 ⟨b85, m85, rfl, K85, P85, le85, ha85, R85⟩
  have HK85 := hide (HK84.out.trans K85)
  have HP85 := hide P85
  have HL85 := hide R85
  have HR85 := hide (K85.keep HR84.out (by omega))
  have HX85 := hide (K85.keep HX84.out (by omega))
  clear K85 P85 R85
  have hFl := (Array.getElem?_eq_some_iff.1 HX85.out).1
  go_wp2_with fail
  go_loopw [] (fun wr => ∃ (xs : List Inp) (vI : Value) (b : Nat) (m : Bool), Hid (Kr p w wr) ∧ Hid (Pl wr p s b m) ∧ b85 ≤ b ∧ b ≤ s.size ∧ Hid (wr.heap[u81.heap.size]? = some (.cells #[.string act, vI, .string ⟨#[]⟩] 31)) ∧ Hid (wr.heap[w.heap.size]? = some (.cells #[.string ⟨#[]⟩, .slice none 0 0, .string ⟨#[]⟩] 31)) ∧ Hid (wr.ownsRow (u81.heap.size + 1) 28 4 vI xs.length (ic xs)) ∧ Hid (InsR s b85 m85 xs b m) ∧ u81.heap.size + 1 ≤ wr.heap.size) (fun wr => todo s p wr)
  case atStart => exact ⟨[], .slice none 0 0, b85, m85, HK85, HP85, Nat.le_refl _, by omega, HX85, HR85, World.ownsRow_nil _ _ _ _, InsR.start _ _ _, hFl⟩
  case round =>
    clear HK85 HP85 HX85 HR85 hFl
    obtain ⟨xs, vI, b, m, HKr, HPr, hab, hbs, HXr, HRr, HOr, HIr, hFl⟩ := hrel
    have hl2 : wr.cell? ⟨p, 2, none⟩ = some (.bool m) := cell_of HPr.out 2
    have htd := HPr.out.todo
    have hmost := HIr.out.most
    obtain ⟨oI, cI, rfl⟩ := form_w HOr.out
    cases m with
    | true =>
      go_wp2_with (fail)
      refine (pass_rel p s mFormButton b true wr HPr.out (by omega) hs (by decide)).mono ?_
      rintro e u86 ⟨b86, m86, rfl, K86, P86, le86, ha86, R86⟩
      have HK86 := hide (HKr.out.trans K86)
      have HP86 := hide P86
      have HL86 := hide R86
      have HR86 := hide (K86.keep HRr.out (by omega))
      have HX86 := hide (K86.keep HXr.out (by omega))
      have HW86 := hide (ownd_kr HOr.out K86 (by omega))
      clear K86 P86 R86
      go_wp2_with (fail)
      refine (upTo_any p s 60 b86 m86 u86 HP86.out (by omega) hs).mono ?_
      rintro e u87 ⟨but, b87, m87, rfl, K87, P87, le87, ha87, R87⟩
      have HK87 := hide (HK86.out.trans K87)
      have HP87 := hide P87
      have HL87 := hide R87
      have HR87 := hide (K87.keep HR86.out (by omega))
      have HX87 := hide (K87.keep HX86.out (by omega))
      have HW87 := hide (ownd_kr HW86.out K87 (by omega))
      clear K87 P87 R87
      have HW88 := hide (own_off HW87.out ⟨u81.heap.size, 2, none⟩ (.string but) (Or.inl (by show u81.heap.size < u81.heap.size + 1; omega)))
      have q88 : u87.cell? ⟨u81.heap.size, 2, none⟩ = some (.string ⟨#[]⟩) := cell_of HX87.out 2
      have f88 : u87.frozen? ⟨u81.heap.size, 2, none⟩ = false := free_of HX87.out 2
      have HX88 : Hid ((u87.setCell ⟨u81.heap.size, 2, none⟩ (.string but)).heap[u81.heap.size]? = some (.cells #[.string act, .slice oI xs.length cI, .string but] 31)) := set_of HX87.out 2 (.string but)
      have HK88 := hide (HK87.out.put ⟨u81.heap.size, 2, none⟩ (.string but) (by show w.heap.size ≤ u81.heap.size; omega))
      have HP88 := hide (HP87.out.put ⟨u81.heap.size, 2, none⟩ (.string but) (by show p ≠ u81.heap.size; omega))
      have HR88 := hide (heap_set u87 ⟨u81.heap.size, 2, none⟩ (.string but) HR87.out (by show w.heap.size ≠ u81.heap.size; omega))
      go_wp2_with (fail)
      generalize u87.setCell ⟨u81.heap.size, 2, none⟩ (.string but) = u88 at *
      refine (pass_rel p s mBtnD b87 m87 u88 HP88.out (by omega) hs (by decide)).mono ?_
      rintro e u89 ⟨b89, m89, rfl, K89, P89, le89, ha89, R89⟩
      have HK89 := hide (HK88.out.trans K89)
      have HP89 := hide P89
      have HL89 := hide R89
      have HR89 := hide (K89.keep HR88.out (by omega))
      have HX89 := hide (K89.keep HX88.out (by omega))
      have HW89 := hide (ownd_kr HW88.out K89 (by omega))
      clear K89 P89 R89
      go_wp2_with (fail)
      refine (pass_rel p s mFmEndD b89 m89 u89 HP89.out (by omega) hs (by decide)).mono ?_
      rintro e u90 ⟨b90, m90, rfl, K90, P90, le90, ha90, R90⟩
      have HK90 := hide (HK89.out.trans K90)
      have HP90 := hide P90
      have HL90 := hide R90
      have HR90 := hide (K90.keep HR89.out (by omega))
      have HX90 := hide (K90.keep HX89.out (by omega))
      have HW90 := hide (ownd_kr HW89.out K90 (by omega))
      clear K90 P90 R90
      have HRG := hide (range_of (l := [.string act, .slice oI xs.length cI, .string but]) HX90.out)
      have r0 : u90.cell? ⟨w.heap.size, 0, none⟩ = some (.string ⟨#[]⟩) := cell_of HR90.out 0
      have y0 : u90.frozen? ⟨w.heap.size, 0, none⟩ = false := free_of HR90.out 0
      have r1 : u90.cell? ⟨w.heap.size, 0 + 1, none⟩ = some (.slice none 0 0) := cell_of HR90.out 1
      have y1 : u90.frozen? ⟨w.heap.size, 0 + 1, none⟩ = false := free_of HR90.out 1
      have r2 : u90.cell? ⟨w.heap.size, 0 + 2, none⟩ = some (.string ⟨#[]⟩) := cell_of HR90.out 2
      have y2 : u90.frozen? ⟨w.heap.size, 0 + 2, none⟩ = false := free_of HR90.out 2
      have HREL := hide (fm_rel HL81.out HL83.out HL85.out (HIr.out.lost HL86.out) HL87.out HL89.out HL90.out)
      go_wp2_with (refine wpList_load_mid rfl 31 (.tmp 3) rfl (u81.heap.size) 0 rfl _ _ HRG.out Tryd.underlying31 rfl sizeFmd ?_)
      have hfin := put_three HR90.out (.string act) (.slice oI xs.length cI) (.string but)
      refine bodyPost_ret (results_c rfl _ rfl (range_of (l := [.string act, .slice oI xs.length cI, .string but]) hfin) Tryd.underlying31 rfl sizeFmd) rfl ?_
      exact ⟨(⟨act, xs, but⟩, .slice oI xs.length cI), b90, m90, rfl, (((HK90.out.put ⟨w.heap.size, 0, none⟩ (.string act) (Nat.le_refl _)).put ⟨w.heap.size, 1, none⟩ (.slice oI xs.length cI) (Nat.le_refl _)).put ⟨w.heap.size, 2, none⟩ (.string but) (Nat.le_refl _)), (((HP90.out.put ⟨w.heap.size, 0, none⟩ (.string act) (Nat.ne_of_lt hpw)).put ⟨w.heap.size, 1, none⟩ (.slice oI xs.length cI) (Nat.ne_of_lt hpw)).put ⟨w.heap.size, 2, none⟩ (.string but) (Nat.ne_of_lt hpw)), by omega, by omega, HREL.out, own_low (own_off (own_off (own_off HW90.out ⟨w.heap.size, 0, none⟩ (.string act) (Or.inl (by show w.heap.size < u81.heap.size + 1; omega))) ⟨w.heap.size, 1, none⟩ (.slice oI xs.length cI) (Or.inl (by show w.heap.size < u81.heap.size + 1; omega))) ⟨w.heap.size, 2, none⟩ (.string but) (Or.inl (by show w.heap.size < u81.heap.size + 1; omega))) (by omega)⟩
    | false =>
      go_wp2_with fail
      refine (begins_any p s mFormButton b false wr HPr.out hbs hs (by decide)).mono ?_
      rintro e w1 ⟨rfl, b1⟩
      have HK1 := hide (HKr.out.trans (Kr.of b1))
      have HP1 := hide (HPr.out.below b1)
      have HX1 := hide ((b1.block _ (Array.getElem?_eq_some_iff.1 HXr.out).1).trans HXr.out)
      have HR1 := hide ((b1.block _ (Array.getElem?_eq_some_iff.1 HRr.out).1).trans HRr.out)
      have HO1 := hide (own_below HOr.out b1)
      have hF1 : u81.heap.size + 1 ≤ w1.heap.size := Nat.le_trans hFl b1.size
      clear b1 HKr HPr HXr HRr HOr hl2
      cases hk : skp mFormButton.data.toList (s.data.toList.drop b) with
      | some r =>
        have HKT : Hid (skp mFormButton.data.toList (rest s b) = some r) := hk
        clear hk
        go_wp2_with (fail)
        refine (pass_rel p s mFormButton b false w1 HP1.out (by omega) hs (by decide)).mono ?_
        rintro e u91 ⟨b91, m91, rfl, K91, P91, le91, ha91, R91⟩
        have HK91 := hide (HK1.out.trans K91)
        have HP91 := hide P91
        have HL91 := hide R91
        have HR91 := hide (K91.keep HR1.out (by omega))
        have HX91 := hide (K91.keep HX1.out (by omega))
        have HW91 := hide (ownd_kr HO1.out K91 (by omega))
        clear K91 P91 R91
        go_wp2_with (fail)
        refine (upTo_any p s 60 b91 m91 u91 HP91.out (by omega) hs).mono ?_
        rintro e u92 ⟨but, b92, m92, rfl, K92, P92, le92, ha92, R92⟩
        have HK92 := hide (HK91.out.trans K92)
        have HP92 := hide P92
        have HL92 := hide R92
        have HR92 := hide (K92.keep HR91.out (by omega))
        have HX92 := hide (K92.keep HX91.out (by omega))
        have HW92 := hide (ownd_kr HW91.out K92 (by omega))
        clear K92 P92 R92
        have HW93 := hide (own_off HW92.out ⟨u81.heap.size, 2, none⟩ (.string but) (Or.inl (by show u81.heap.size < u81.heap.size + 1; omega)))
        have q93 : u92.cell? ⟨u81.heap.size, 2, none⟩ = some (.string ⟨#[]⟩) := cell_of HX92.out 2
        have f93 : u92.frozen? ⟨u81.heap.size, 2, none⟩ = false := free_of HX92.out 2
        have HX93 : Hid ((u92.setCell ⟨u81.heap.size, 2, none⟩ (.string but)).heap[u81.heap.size]? = some (.cells #[.string act, .slice oI xs.length cI, .string but] 31)) := set_of HX92.out 2 (.string but)
        have HK93 := hide (HK92.out.put ⟨u81.heap.size, 2, none⟩ (.string but) (by show w.heap.size ≤ u81.heap.size; omega))
        have HP93 := hide (HP92.out.put ⟨u81.heap.size, 2, none⟩ (.string but) (by show p ≠ u81.heap.size; omega))
        have HR93 := hide (heap_set u92 ⟨u81.heap.size, 2, none⟩ (.string but) HR92.out (by show w.heap.size ≠ u81.heap.size; omega))
        go_wp2_with (fail)
        generalize u92.setCell ⟨u81.heap.size, 2, none⟩ (.string but) = u93 at *
        refine (pass_rel p s mBtnD b92 m92 u93 HP93.out (by omega) hs (by decide)).mono ?_
        rintro e u94 ⟨b94, m94, rfl, K94, P94, le94, ha94, R94⟩
        have HK94 := hide (HK93.out.trans K94)
        have HP94 := hide P94
        have HL94 := hide R94
        have HR94 := hide (K94.keep HR93.out (by omega))
        have HX94 := hide (K94.keep HX93.out (by omega))
        have HW94 := hide (ownd_kr HW93.out K94 (by omega))
        clear K94 P94 R94
        go_wp2_with (fail)
        refine (pass_rel p s mFmEndD b94 m94 u94 HP94.out (by omega) hs (by decide)).mono ?_
        rintro e u95 ⟨b95, m95, rfl, K95, P95, le95, ha95, R95⟩
        have HK95 := hide (HK94.out.trans K95)
        have HP95 := hide P95
        have HL95 := hide R95
        have HR95 := hide (K95.keep HR94.out (by omega))
        have HX95 := hide (K95.keep HX94.out (by omega))
        have HW95 := hide (ownd_kr HW94.out K95 (by omega))
        clear K95 P95 R95
        have HRG := hide (range_of (l := [.string act, .slice oI xs.length cI, .string but]) HX95.out)
        have r0 : u95.cell? ⟨w.heap.size, 0, none⟩ = some (.string ⟨#[]⟩) := cell_of HR95.out 0
        have y0 : u95.frozen? ⟨w.heap.size, 0, none⟩ = false := free_of HR95.out 0
        have r1 : u95.cell? ⟨w.heap.size, 0 + 1, none⟩ = some (.slice none 0 0) := cell_of HR95.out 1
        have y1 : u95.frozen? ⟨w.heap.size, 0 + 1, none⟩ = false := free_of HR95.out 1
        have r2 : u95.cell? ⟨w.heap.size, 0 + 2, none⟩ = some (.string ⟨#[]⟩) := cell_of HR95.out 2
        have y2 : u95.frozen? ⟨w.heap.size, 0 + 2, none⟩ = false := free_of HR95.out 2
        have HREL := hide (fm_rel HL81.out HL83.out HL85.out (HIr.out.done hbs HKT.out HL91.out) HL92.out HL94.out HL95.out)
        go_wp2_with (refine wpList_load_mid rfl 31 (.tmp 3) rfl (u81.heap.size) 0 rfl _ _ HRG.out Tryd.underlying31 rfl sizeFmd ?_)
        have hfin := put_three HR95.out (.string act) (.slice oI xs.length cI) (.string but)
        refine bodyPost_ret (results_c rfl _ rfl (range_of (l := [.string act, .slice oI xs.length cI, .string but]) hfin) Tryd.underlying31 rfl sizeFmd) rfl ?_
        exact ⟨(⟨act, xs, but⟩, .slice oI xs.length cI), b95, m95, rfl, (((HK95.out.put ⟨w.heap.size, 0, none⟩ (.string act) (Nat.le_refl _)).put ⟨w.heap.size, 1, none⟩ (.slice oI xs.length cI) (Nat.le_refl _)).put ⟨w.heap.size, 2, none⟩ (.string but) (Nat.le_refl _)), (((HP95.out.put ⟨w.heap.size, 0, none⟩ (.string act) (Nat.ne_of_lt hpw)).put ⟨w.heap.size, 1, none⟩ (.slice oI xs.length cI) (Nat.ne_of_lt hpw)).put ⟨w.heap.size, 2, none⟩ (.string but) (Nat.ne_of_lt hpw)), by omega, by omega, HREL.out, own_low (own_off (own_off (own_off HW95.out ⟨w.heap.size, 0, none⟩ (.string act) (Or.inl (by show w.heap.size < u81.heap.size + 1; omega))) ⟨w.heap.size, 1, none⟩ (.slice oI xs.length cI) (Or.inl (by show w.heap.size < u81.heap.size + 1; omega))) ⟨w.heap.size, 2, none⟩ (.string but) (Or.inl (by show w.heap.size < u81.heap.size + 1; omega))) (by omega)⟩
      | none =>
        have HKT : Hid (skp mFormButton.data.toList (rest s b) = none) := hk
        clear hk
        go_wp2_with fail
        refine (dInput_any p s b false w1 HP1.out hbs hs).mono ?_
        rintro e w2 ⟨x, b2, m2, rfl, K2, P2, le2, hb2, R2⟩
        unfold inV
        have hst := HIr.out.step hab hbs hb2 HKT.out R2
        have HS2 := hide hst.1
        have HT2 := hide hst.2
        have HK2 := hide (HK1.out.trans K2)
        have HP2 := hide P2
        have HX2 := hide (K2.keep HX1.out (by omega))
        have HR2 := hide (K2.keep HR1.out (by omega))
        have HO2 := hide (ownd_kr HO1.out K2 (by omega))
        have hF2 : u81.heap.size + 1 ≤ w2.heap.size := Nat.le_trans hF1 K2.size
        obtain ⟨xk, xn, xv, xl⟩ := x
        have HX3 := hide (heap_old (w2.alloc (.cells #[.int .i64 xk, .string xn, .string xv, .string xl] 28)) (.cells #[.int .i64 xk, .string xn, .string xv, .string xl] 28) (heap_old w2 (.cells #[.int .i64 xk, .string xn, .string xv, .string xl] 28) HX2.out))
        have q1 : (w2.alloc (.cells #[.int .i64 xk, .string xn, .string xv, .string xl] 28)).cell? ⟨u81.heap.size, 1, none⟩ = some (.slice oI xs.length cI) := cell_of (heap_old w2 (.cells #[.int .i64 xk, .string xn, .string xv, .string xl] 28) HX2.out) 1
        have HC3 := hide (cells_new (w2.alloc (.cells #[.int .i64 xk, .string xn, .string xv, .string xl] 28)) [.int .i64 xk, .string xn, .string xv, .string xl] 28)
        have ez : (w2.alloc (.cells #[.int .i64 xk, .string xn, .string xv, .string xl] 28)).heap.size = w2.heap.size + 1 := by simp
        rw [ez] at HC3
        clear hst K2 P2 R2 HK1 HP1 HX1 HR1 HO1 HIr
        simp only
        go_wp2_with (at_builtin; refine wpList_append_own _ rfl _ _ 29 rfl (u81.heap.size + 1) 28 i0 _ 4 56 Tryd.underlying29 hi hz0 hz1 hz2 rfl (by decide) _ _ _ rfl ((HO2.out.alloc _).alloc _) ⟨w2.heap.size + 1, 0, none⟩ 1 1 [.int .i64 xk, .string xn, .string xv, .string xl] rfl rfl HC3.out ?c2 ?c3 ?c4 ?c5 ?_)
        case c2 => first | rfl | (intro u hu; simp at hu; rcases hu with rfl | rfl | rfl | rfl <;> rfl)
        case c3 => unfold maxLen; omega
        case c4 => omega
        case c5 => simp; omega
        intro v3 w3 own3 hg3 _
        obtain ⟨o3, c3, rfl⟩ := form_w own3
        have hrb := own_ge HO2.out
        have hX3 := grown_at hg3 HX3.out (fun k' hk' => by have := hrb k' hk'; omega)
        have hR3 := grown_at hg3 (heap_old (w2.alloc (.cells #[.int .i64 xk, .string xn, .string xv, .string xl] 28)) (.cells #[.int .i64 xk, .string xn, .string xv, .string xl] 28) (heap_old w2 (.cells #[.int .i64 xk, .string xn, .string xv, .string xl] 28) HR2.out)) (fun k' hk' => by have := hrb k' hk'; omega)
        have hP3 : Pl w3 p s b2 m2 := grown_at hg3 ((HP2.out.more (.cells #[.int .i64 xk, .string xn, .string xv, .string xl] 28)).more (.cells #[.int .i64 xk, .string xn, .string xv, .string xl] 28)) (fun k' hk' => by have := hrb k' hk'; omega)
        have hK3 : Kr p w w3 := ((HK2.out.more (.cells #[.int .i64 xk, .string xn, .string xv, .string xl] 28)).more (.cells #[.int .i64 xk, .string xn, .string xv, .string xl] 28)).grown hg3 (fun k' hk' => by have := hrb k' hk'; omega)
        have hz3 : u81.heap.size + 1 ≤ w3.heap.size := by have := hg3.size; simp at this; omega
        have q3 : w3.cell? ⟨u81.heap.size, 1, none⟩ = some (.slice oI xs.length cI) := cell_of hX3 1
        have f3 : w3.frozen? ⟨u81.heap.size, 1, none⟩ = false := free_of hX3 1
        have HX4 : Hid ((w3.setCell ⟨u81.heap.size, 1, none⟩ (.slice o3 (xs.length + 1) c3)).heap[u81.heap.size]? = some (.cells #[.string act, .slice o3 (xs.length + 1) c3, .string ⟨#[]⟩] 31)) := set_of hX3 1 _
        have HR4 := hide (heap_set w3 ⟨u81.heap.size, 1, none⟩ (.slice o3 (xs.length + 1) c3) hR3 (by show w.heap.size ≠ u81.heap.size; omega))
        have HP4 := hide (hP3.put ⟨u81.heap.size, 1, none⟩ (.slice o3 (xs.length + 1) c3) (by show p ≠ u81.heap.size; omega))
        have HK4 := hide (hK3.put ⟨u81.heap.size, 1, none⟩ (.slice o3 (xs.length + 1) c3) (by show w.heap.size ≤ u81.heap.size; omega))
        have HO4 : Hid ((w3.setCell ⟨u81.heap.size, 1, none⟩ (.slice o3 (xs.length + 1) c3)).ownsRow (u81.heap.size + 1) 28 4 (.slice o3 (xs.length + 1) c3) (xs ++ [(⟨xk, xn, xv, xl⟩ : Inp)]).length (ic (xs ++ [(⟨xk, xn, xv, xl⟩ : Inp)]))) := by
          show World.ownsRow _ _ _ _ _ _ _
          rw [ic_app, List.length_append]
          exact own_off own3 ⟨u81.heap.size, 1, none⟩ (.slice o3 (xs.length + 1) c3) (Or.inl (by show u81.heap.size < u81.heap.size + 1; omega))
        have hz4 : u81.heap.size + 1 ≤ (w3.setCell ⟨u81.heap.size, 1, none⟩ (.slice o3 (xs.length + 1) c3)).heap.size := by rw [size_set]; exact hz3
        have htd4 := HP4.out.todo
        clear own3 hg3 hX3 hR3 hP3 hK3 HX3 HC3 HO2 HX2 HR2 HP2 HK2 q1
        go_wp2_with fail
        go_roundw
        case rel => exact ⟨_, _, b2, m2, HK4, HP4, by omega, hb2, HX4, HR4, HO4, HS2, hz4⟩
        case measure =>
          rw [htd4, htd]
          cases m2 with
          | true => simp; omega
          | false =>
            have := HT2.out rfl
            simp
            omega
end Go.Proofs.YtaejlcffimkopaaDoor.pg
