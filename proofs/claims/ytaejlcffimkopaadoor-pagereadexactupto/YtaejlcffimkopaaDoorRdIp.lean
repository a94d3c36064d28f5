import Derived.Test.YtaejlcffimkopaaDoorRdIo
namespace Go.Proofs.YtaejlcffimkopaaDoor.pg
open Go.ChangeShapes Go.WideShapes Go.ChangeAt Go.RowKit Go.Proofs.YtaejlcffimkopaaDoor.common Go.Maps
attribute [local go_sem ↓] Go.wp_at_zero Go.wp_at_succ


theorem in_hid {s n v : ByteArray} {a a1 a2 a3 a4 : Nat} {l l1 l2 l3 l4 : Bool} {r : List UInt8} (hk : skp mHiddenName.data.toList (rest s a) = some r) (h1 : RelS mHiddenName s a l a1 l1) (h2 : Rel nmD s a1 l1 n a2 l2) (h3 : Rel vlD s a2 l2 v a3 l3) (h4 : RelS mHidD s a3 l3 a4 l4) : Rel inD s a l ⟨1, n, v, ⟨#[]⟩⟩ a4 l4 := by
  have R := h1.bind (h2.bind (g := fun n y => (vlD y).bind fun v => (skp mHidD.data.toList v.2).bind fun r => some ((⟨1, n, v.1, ⟨#[]⟩⟩ : Inp), r)) (h3.bind (g := fun v y => (skp mHidD.data.toList y).bind fun r => some ((⟨1, n, v, ⟨#[]⟩⟩ : Inp), r)) (h4.bind (Rel.ret s a4 l4 _))))
  have e : inD (rest s a) = (skp mHiddenName.data.toList (rest s a)).bind fun r => (nmD r).bind fun n => (vlD n.2).bind fun v => (skp mHidD.data.toList v.2).bind fun r => some (⟨1, n.1, v.1, ⟨#[]⟩⟩, r) := by
    unfold inD
    rw [hk]
    rfl
  exact ⟨fun x => ⟨(R.yes x).1, e.trans (R.yes x).2⟩, fun x => (R.no x).imp (fun h => h) (fun h => e.trans h)⟩
theorem in_box {s n v lb : ByteArray} {a a1 a2 a3 a4 a5 a6 : Nat} {l l1 l2 l3 l4 l5 l6 : Bool} {r : List UInt8} (hk0 : skp mHiddenName.data.toList (rest s a) = none) (hk : skp mBoxHead.data.toList (rest s a) = some r) (h1 : RelS mBoxHead s a l a1 l1) (h2 : Rel nmD s a1 l1 n a2 l2) (h3 : Rel vlD s a2 l2 v a3 l3) (h4 : RelS mBoxD s a3 l3 a4 l4) (h5 : Rel (txtL 60) s a4 l4 lb a5 l5) (h6 : RelS mLabelEnd s a5 l5 a6 l6) : Rel inD s a l ⟨4, n, v, lb⟩ a6 l6 := by
  have R := h1.bind (h2.bind (g := fun n y => (vlD y).bind fun v => (skp mBoxD.data.toList v.2).bind fun r => (txtL 60 r).bind fun b => (skp mLabelEnd.data.toList b.2).bind fun r => some ((⟨4, n, v.1, b.1⟩ : Inp), r)) (h3.bind (g := fun v y => (skp mBoxD.data.toList y).bind fun r => (txtL 60 r).bind fun b => (skp mLabelEnd.data.toList b.2).bind fun r => some ((⟨4, n, v, b.1⟩ : Inp), r)) (h4.bind (h5.bind (g := fun b y => (skp mLabelEnd.data.toList y).bind fun r => some ((⟨4, n, v, b⟩ : Inp), r)) (h6.bind (Rel.ret s a6 l6 _))))))
  have e : inD (rest s a) = (skp mBoxHead.data.toList (rest s a)).bind fun r => (nmD r).bind fun n => (vlD n.2).bind fun v => (skp mBoxD.data.toList v.2).bind fun r => (txtL 60 r).bind fun l => (skp mLabelEnd.data.toList l.2).bind fun r => some (⟨4, n.1, v.1, l.1⟩, r) := by
    unfold inD
    rw [hk0, hk]
    rfl
  exact ⟨fun x => ⟨(R.yes x).1, e.trans (R.yes x).2⟩, fun x => (R.no x).imp (fun h => h) (fun h => e.trans h)⟩
theorem in_lab {s : ByteArray} {x : Inp} {a a1 : Nat} {l l1 : Bool} (hk0 : skp mHiddenName.data.toList (rest s a) = none) (hk : skp mBoxHead.data.toList (rest s a) = none) (R : Rel lbD s a l x a1 l1) : Rel inD s a l x a1 l1 := by
  have e : inD (rest s a) = lbD (rest s a) := by
    unfold inD
    rw [hk0, hk]
  exact ⟨fun x => ⟨(R.yes x).1, e.trans (R.yes x).2⟩, fun x => (R.no x).imp (fun h => h) (fun h => e.trans h)⟩

set_option maxRecDepth 100000 in
set_option maxHeartbeats 3200000 in
theorem dInput_any (p : Nat) (s : ByteArray) (a : Nat) (l : Bool) (w : World) (h : Pl w p s a l) (ha : a ≤ s.size) (hs : s.size ≤ 1099511627776) :
    Calls Tryd.prog 69 #[ptr p] w fun e w' => ∃ x a' l', e = .returned (inV x) ∧ Kr p w w' ∧ Pl w' p s a' l' ∧ a ≤ a' ∧ a' ≤ s.size ∧ Rel inD s a l x a' l' := by
  have hpw := h.lt
  have HP0 := hide (h.more (.cells #[.int .i64 0, .string ⟨#[]⟩, .string ⟨#[]⟩, .string ⟨#[]⟩] 28))
  have HR0 := hide (heap_new w (.cells #[.int .i64 0, .string ⟨#[]⟩, .string ⟨#[]⟩, .string ⟨#[]⟩] 28))
  have HK0 : Hid (Kr p w (w.alloc (.cells #[.int .i64 0, .string ⟨#[]⟩, .string ⟨#[]⟩, .string ⟨#[]⟩] 28))) := (Kr.refl p w).more _
  clear h
  go_enter Tryd.func69, Tryd.ntmps69
  go_wp2_with fail
  generalize w.alloc (.cells #[.int .i64 0, .string ⟨#[]⟩, .string ⟨#[]⟩, .string ⟨#[]⟩] 28) = V at *
  refine (begins_any p s mHiddenName a l V HP0.out ha hs (by decide)).mono ?_
  rintro e w1 ⟨rfl, b1⟩
  have HK1 := hide (HK0.out.trans (Kr.of b1))
  have HP1 := hide (HP0.out.below b1)
  have HR1 := hide ((b1.block _ (Array.getElem?_eq_some_iff.1 HR0.out).1).trans HR0.out)
  clear b1 HK0 HP0 HR0
  cases hk : skp mHiddenName.data.toList (s.data.toList.drop a) with
  | some r =>
    have HKT : Hid (skp mHiddenName.data.toList (rest s a) = some r) := hk
    clear hk
    go_wp2_with (fail)
    refine (pass_rel p s mHiddenName a l w1 HP1.out (by omega) hs (by decide)).mono ?_
    rintro e u41 ⟨b41, m41, rfl, K41, P41, le41, ha41, R41⟩
    have HK41 := hide (HK1.out.trans K41)
    have HP41 := hide P41
    have HL41 := hide R41
    have HR41 := hide (K41.keep HR1.out (by omega))
    clear K41 P41 R41
    have hltR42 := (Array.getElem?_eq_some_iff.1 HR41.out).1
    have HR42 := hide (heap_old u41 (.cells #[.int .i64 1, .string ⟨#[]⟩, .string ⟨#[]⟩, .string ⟨#[]⟩] 28) HR41.out)
    have HX42 := hide (heap_new u41 (.cells #[.int .i64 1, .string ⟨#[]⟩, .string ⟨#[]⟩, .string ⟨#[]⟩] 28))
    have HK42 := hide (HK41.out.more (.cells #[.int .i64 1, .string ⟨#[]⟩, .string ⟨#[]⟩, .string ⟨#[]⟩] 28))
    have HP42 := hide (HP41.out.more (.cells #[.int .i64 1, .string ⟨#[]⟩, .string ⟨#[]⟩, .string ⟨#[]⟩] 28))
    go_wp2_with (fail)
    generalize u41.alloc (.cells #[.int .i64 1, .string ⟨#[]⟩, .string ⟨#[]⟩, .string ⟨#[]⟩] 28) = u42 at *
    refine (named_any p s b41 m41 u42 HP42.out (by omega) hs).mono ?_
    rintro e u43 ⟨nn, b43, m43, rfl, K43, P43, le43, ha43, R43⟩
    have HK43 := hide (HK42.out.trans K43)
    have HP43 := hide P43
    have HL43 := hide R43
    have HR43 := hide (K43.keep HR42.out (by omega))
    have HX43 := hide (K43.keep HX42.out (by omega))
    clear K43 P43 R43
    have q44 : u43.cell? ⟨u41.heap.size, 1, none⟩ = some (.string ⟨#[]⟩) := cell_of HX43.out 1
    have f44 : u43.frozen? ⟨u41.heap.size, 1, none⟩ = false := free_of HX43.out 1
    have HX44 : Hid ((u43.setCell ⟨u41.heap.size, 1, none⟩ (.string nn)).heap[u41.heap.size]? = some (.cells #[.int .i64 1, .string nn, .string ⟨#[]⟩, .string ⟨#[]⟩] 28)) := set_of HX43.out 1 (.string nn)
    have HK44 := hide (HK43.out.put ⟨u41.heap.size, 1, none⟩ (.string nn) (by show w.heap.size ≤ u41.heap.size; omega))
    have HP44 := hide (HP43.out.put ⟨u41.heap.size, 1, none⟩ (.string nn) (by show p ≠ u41.heap.size; omega))
    have HR44 := hide (heap_set u43 ⟨u41.heap.size, 1, none⟩ (.string nn) HR43.out (by show w.heap.size ≠ u41.heap.size; omega))
    go_wp2_with (fail)
    generalize u43.setCell ⟨u41.heap.size, 1, none⟩ (.string nn) = u44 at *
    refine (valued_any p s b43 m43 u44 HP44.out (by omega) hs).mono ?_
    rintro e u45 ⟨vv, b45, m45, rfl, K45, P45, le45, ha45, R45⟩
    have HK45 := hide (HK44.out.trans K45)
    have HP45 := hide P45
    have HL45 := hide R45
    have HR45 := hide (K45.keep HR44.out (by omega))
    have HX45 := hide (K45.keep HX44.out (by omega))
    clear K45 P45 R45
    have q46 : u45.cell? ⟨u41.heap.size, 2, none⟩ = some (.string ⟨#[]⟩) := cell_of HX45.out 2
    have f46 : u45.frozen? ⟨u41.heap.size, 2, none⟩ = false := free_of HX45.out 2
    have HX46 : Hid ((u45.setCell ⟨u41.heap.size, 2, none⟩ (.string vv)).heap[u41.heap.size]? = some (.cells #[.int .i64 1, .string nn, .string vv, .string ⟨#[]⟩] 28)) := set_of HX45.out 2 (.string vv)
    have HK46 := hide (HK45.out.put ⟨u41.heap.size, 2, none⟩ (.string vv) (by show w.heap.size ≤ u41.heap.size; omega))
    have HP46 := hide (HP45.out.put ⟨u41.heap.size, 2, none⟩ (.string vv) (by show p ≠ u41.heap.size; omega))
    have HR46 := hide (heap_set u45 ⟨u41.heap.size, 2, none⟩ (.string vv) HR45.out (by show w.heap.size ≠ u41.heap.size; omega))
    go_wp2_with (fail)
    generalize u45.setCell ⟨u41.heap.size, 2, none⟩ (.string vv) = u46 at *
    refine (pass_rel p s mHidD b45 m45 u46 HP46.out (by omega) hs (by decide)).mono ?_
    rintro e u47 ⟨b47, m47, rfl, K47, P47, le47, ha47, R47⟩
    have HK47 := hide (HK46.out.trans K47)
    have HP47 := hide P47
    have HL47 := hide R47
    have HR47 := hide (K47.keep HR46.out (by omega))
    have HX47 := hide (K47.keep HX46.out (by omega))
    clear K47 P47 R47
    have HRG := hide (range_of (l := [.int .i64 1, .string nn, .string vv, .string ⟨#[]⟩]) HX47.out)
    have r0 : u47.cell? ⟨w.heap.size, 0, none⟩ = some (.int .i64 0) := cell_of HR47.out 0
    have y0 : u47.frozen? ⟨w.heap.size, 0, none⟩ = false := free_of HR47.out 0
    have r1 : u47.cell? ⟨w.heap.size, 0 + 1, none⟩ = some (.string ⟨#[]⟩) := cell_of HR47.out 1
    have y1 : u47.frozen? ⟨w.heap.size, 0 + 1, none⟩ = false := free_of HR47.out 1
    have r2 : u47.cell? ⟨w.heap.size, 0 + 2, none⟩ = some (.string ⟨#[]⟩) := cell_of HR47.out 2
    have y2 : u47.frozen? ⟨w.heap.size, 0 + 2, none⟩ = false := free_of HR47.out 2
    have r3 : u47.cell? ⟨w.heap.size, 0 + 3, none⟩ = some (.string ⟨#[]⟩) := cell_of HR47.out 3
    have y3 : u47.frozen? ⟨w.heap.size, 0 + 3, none⟩ = false := free_of HR47.out 3
    go_wp2_with (refine wpList_load_mid rfl 28 (.tmp 4) rfl (u41.heap.size) 0 rfl _ _ HRG.out Tryd.underlying28 rfl sizeIn ?_)
    have hfin := put_four HR47.out (.int .i64 1) (.string nn) (.string vv) (.string ⟨#[]⟩)
    refine bodyPost_ret (results_c rfl _ rfl (range_of (l := [.int .i64 1, .string nn, .string vv, .string ⟨#[]⟩]) hfin) Tryd.underlying28 rfl sizeIn) rfl ?_
    exact ⟨⟨1, nn, vv, ⟨#[]⟩⟩, b47, m47, rfl, ((((HK47.out.put ⟨w.heap.size, 0, none⟩ (.int .i64 1) (Nat.le_refl _)).put ⟨w.heap.size, 1, none⟩ (.string nn) (Nat.le_refl _)).put ⟨w.heap.size, 2, none⟩ (.string vv) (Nat.le_refl _)).put ⟨w.heap.size, 3, none⟩ (.string ⟨#[]⟩) (Nat.le_refl _)), ((((HP47.out.put ⟨w.heap.size, 0, none⟩ (.int .i64 1) (Nat.ne_of_lt hpw)).put ⟨w.heap.size, 1, none⟩ (.string nn) (Nat.ne_of_lt hpw)).put ⟨w.heap.size, 2, none⟩ (.string vv) (Nat.ne_of_lt hpw)).put ⟨w.heap.size, 3, none⟩ (.string ⟨#[]⟩) (Nat.ne_of_lt hpw)), by omega, by omega, in_hid HKT.out HL41.out HL43.out HL45.out HL47.out⟩
  | none =>
    have HKT : Hid (skp mHiddenName.data.toList (rest s a) = none) := hk
    clear hk
    go_wp2_with fail
    refine (begins_any p s mBoxHead a l w1 HP1.out ha hs (by decide)).mono ?_
    rintro e w2 ⟨rfl, b2⟩
    have HK2 := hide (HK1.out.trans (Kr.of b2))
    have HP2 := hide (HP1.out.below b2)
    have HR2 := hide ((b2.block _ (Array.getElem?_eq_some_iff.1 HR1.out).1).trans HR1.out)
    clear b2 HK1 HP1 HR1
    cases hk : skp mBoxHead.data.toList (s.data.toList.drop a) with
    | some r =>
      have HKU : Hid (skp mBoxHead.data.toList (rest s a) = some r) := hk
      clear hk
      go_wp2_with (fail)
      refine (pass_rel p s mBoxHead a l w2 HP2.out (by omega) hs (by decide)).mono ?_
      rintro e u48 ⟨b48, m48, rfl, K48, P48, le48, ha48, R48⟩
      have HK48 := hide (HK2.out.trans K48)
      have HP48 := hide P48
      have HL48 := hide R48
      have HR48 := hide (K48.keep HR2.out (by omega))
      clear K48 P48 R48
      have hltR49 := (Array.getElem?_eq_some_iff.1 HR48.out).1
      have HR49 := hide (heap_old u48 (.cells #[.int .i64 4, .string ⟨#[]⟩, .string ⟨#[]⟩, .string ⟨#[]⟩] 28) HR48.out)
      have HX49 := hide (heap_new u48 (.cells #[.int .i64 4, .string ⟨#[]⟩, .string ⟨#[]⟩, .string ⟨#[]⟩] 28))
      have HK49 := hide (HK48.out.more (.cells #[.int .i64 4, .string ⟨#[]⟩, .string ⟨#[]⟩, .string ⟨#[]⟩] 28))
      have HP49 := hide (HP48.out.more (.cells #[.int .i64 4, .string ⟨#[]⟩, .string ⟨#[]⟩, .string ⟨#[]⟩] 28))
      go_wp2_with (fail)
      generalize u48.alloc (.cells #[.int .i64 4, .string ⟨#[]⟩, .string ⟨#[]⟩, .string ⟨#[]⟩] 28) = u49 at *
      refine (named_any p s b48 m48 u49 HP49.out (by omega) hs).mono ?_
      rintro e u50 ⟨nn, b50, m50, rfl, K50, P50, le50, ha50, R50⟩
      have HK50 := hide (HK49.out.trans K50)
      have HP50 := hide P50
      have HL50 := hide R50
      have HR50 := hide (K50.keep HR49.out (by omega))
      have HX50 := hide (K50.keep HX49.out (by omega))
      clear K50 P50 R50
      have q51 : u50.cell? ⟨u48.heap.size, 1, none⟩ = some (.string ⟨#[]⟩) := cell_of HX50.out 1
      have f51 : u50.frozen? ⟨u48.heap.size, 1, none⟩ = false := free_of HX50.out 1
      have HX51 : Hid ((u50.setCell ⟨u48.heap.size, 1, none⟩ (.string nn)).heap[u48.heap.size]? = some (.cells #[.int .i64 4, .string nn, .string ⟨#[]⟩, .string ⟨#[]⟩] 28)) := set_of HX50.out 1 (.string nn)
      have HK51 := hide (HK50.out.put ⟨u48.heap.size, 1, none⟩ (.string nn) (by show w.heap.size ≤ u48.heap.size; omega))
      have HP51 := hide (HP50.out.put ⟨u48.heap.size, 1, none⟩ (.string nn) (by show p ≠ u48.heap.size; omega))
      have HR51 := hide (heap_set u50 ⟨u48.heap.size, 1, none⟩ (.string nn) HR50.out (by show w.heap.size ≠ u48.heap.size; omega))
      go_wp2_with (fail)
      generalize u50.setCell ⟨u48.heap.size, 1, none⟩ (.string nn) = u51 at *
      refine (valued_any p s b50 m50 u51 HP51.out (by omega) hs).mono ?_
      rintro e u52 ⟨vv, b52, m52, rfl, K52, P52, le52, ha52, R52⟩
      have HK52 := hide (HK51.out.trans K52)
      have HP52 := hide P52
      have HL52 := hide R52
      have HR52 := hide (K52.keep HR51.out (by omega))
      have HX52 := hide (K52.keep HX51.out (by omega))
      clear K52 P52 R52
      have q53 : u52.cell? ⟨u48.heap.size, 2, none⟩ = some (.string ⟨#[]⟩) := cell_of HX52.out 2
      have f53 : u52.frozen? ⟨u48.heap.size, 2, none⟩ = false := free_of HX52.out 2
      have HX53 : Hid ((u52.setCell ⟨u48.heap.size, 2, none⟩ (.string vv)).heap[u48.heap.size]? = some (.cells #[.int .i64 4, .string nn, .string vv, .string ⟨#[]⟩] 28)) := set_of HX52.out 2 (.string vv)
      have HK53 := hide (HK52.out.put ⟨u48.heap.size, 2, none⟩ (.string vv) (by show w.heap.size ≤ u48.heap.size; omega))
      have HP53 := hide (HP52.out.put ⟨u48.heap.size, 2, none⟩ (.string vv) (by show p ≠ u48.heap.size; omega))
      have HR53 := hide (heap_set u52 ⟨u48.heap.size, 2, none⟩ (.string vv) HR52.out (by show w.heap.size ≠ u48.heap.size; omega))
      go_wp2_with (fail)
      generalize u52.setCell ⟨u48.heap.size, 2, none⟩ (.string vv) = u53 at *
      refine (pass_rel p s mBoxD b52 m52 u53 HP53.out (by omega) hs (by decide)).mono ?_
      rintro e u54 ⟨b54, m54, rfl, K54, P54, le54, ha54, R54⟩
      have HK54 := hide (HK53.out.trans K54)
      have HP54 := hide P54
      have HL54 := hide R54
      have HR54 := hide (K54.keep HR53.out (by omega))
      have HX54 := hide (K54.keep HX53.out (by omega))
      clear K54 P54 R54
      go_wp2_with (fail)
      refine (upTo_any p s 60 b54 m54 u54 HP54.out (by omega) hs).mono ?_
      rintro e u55 ⟨lb, b55, m55, rfl, K55, P55, le55, ha55, R55⟩
      have HK55 := hide (HK54.out.trans K55)
      have HP55 := hide P55
      have HL55 := hide R55
      have HR55 := hide (K55.keep HR54.out (by omega))
      have HX55 := hide (K55.keep HX54.out (by omega))
      clear K55 P55 R55
      have q56 : u55.cell? ⟨u48.heap.size, 3, none⟩ = some (.string ⟨#[]⟩) := cell_of HX55.out 3
      have f56 : u55.frozen? ⟨u48.heap.size, 3, none⟩ = false := free_of HX55.out 3
      have HX56 : Hid ((u55.setCell ⟨u48.heap.size, 3, none⟩ (.string lb)).heap[u48.heap.size]? = some (.cells #[.int .i64 4, .string nn, .string vv, .string lb] 28)) := set_of HX55.out 3 (.string lb)
      have HK56 := hide (HK55.out.put ⟨u48.heap.size, 3, none⟩ (.string lb) (by show w.heap.size ≤ u48.heap.size; omega))
      have HP56 := hide (HP55.out.put ⟨u48.heap.size, 3, none⟩ (.string lb) (by show p ≠ u48.heap.size; omega))
      have HR56 := hide (heap_set u55 ⟨u48.heap.size, 3, none⟩ (.string lb) HR55.out (by show w.heap.size ≠ u48.heap.size; omega))
      go_wp2_with (fail)
      generalize u55.setCell ⟨u48.heap.size, 3, none⟩ (.string lb) = u56 at *
      refine (pass_rel p s mLabelEnd b55 m55 u56 HP56.out (by omega) hs (by decide)).mono ?_
      rintro e u57 ⟨b57, m57, rfl, K57, P57, le57, ha57, R57⟩
      have HK57 := hide (HK56.out.trans K57)
      have HP57 := hide P57
      have HL57 := hide R57
      have HR57 := hide (K57.keep HR56.out (by omega))
      have HX57 := hide (K57.keep HX56.out (by omega))
      clear K57 P57 R57
      have HRG := hide (range_of (l := [.int .i64 4, .string nn, .string vv, .string lb]) HX57.out)
      have r0 : u57.cell? ⟨w.heap.size, 0, none⟩ = some (.int .i64 0) := cell_of HR57.out 0
      have y0 : u57.frozen? ⟨w.heap.size, 0, none⟩ = false := free_of HR57.out 0
      have r1 : u57.cell? ⟨w.heap.size, 0 + 1, none⟩ = some (.string ⟨#[]⟩) := cell_of HR57.out 1
      have y1 : u57.frozen? ⟨w.heap.size, 0 + 1, none⟩ = false := free_of HR57.out 1
      have r2 : u57.cell? ⟨w.heap.size, 0 + 2, none⟩ = some (.string ⟨#[]⟩) := cell_of HR57.out 2
      have y2 : u57.frozen? ⟨w.heap.size, 0 + 2, none⟩ = false := free_of HR57.out 2
      have r3 : u57.cell? ⟨w.heap.size, 0 + 3, none⟩ = some (.string ⟨#[]⟩) := cell_of HR57.out 3
      have y3 : u57.frozen? ⟨w.heap.size, 0 + 3, none⟩ = false := free_of HR57.out 3
      go_wp2_with (refine wpList_load_mid rfl 28 (.tmp 5) rfl (u48.heap.size) 0 rfl _ _ HRG.out Tryd.underlying28 rfl sizeIn ?_)
      have hfin := put_four HR57.out (.int .i64 4) (.string nn) (.string vv) (.string lb)
      refine bodyPost_ret (results_c rfl _ rfl (range_of (l := [.int .i64 4, .string nn, .string vv, .string lb]) hfin) Tryd.underlying28 rfl sizeIn) rfl ?_
      exact ⟨⟨4, nn, vv, lb⟩, b57, m57, rfl, ((((HK57.out.put ⟨w.heap.size, 0, none⟩ (.int .i64 4) (Nat.le_refl _)).put ⟨w.heap.size, 1, none⟩ (.string nn) (Nat.le_refl _)).put ⟨w.heap.size, 2, none⟩ (.string vv) (Nat.le_refl _)).put ⟨w.heap.size, 3, none⟩ (.string lb) (Nat.le_refl _)), ((((HP57.out.put ⟨w.heap.size, 0, none⟩ (.int .i64 4) (Nat.ne_of_lt hpw)).put ⟨w.heap.size, 1, none⟩ (.string nn) (Nat.ne_of_lt hpw)).put ⟨w.heap.size, 2, none⟩ (.string vv) (Nat.ne_of_lt hpw)).put ⟨w.heap.size, 3, none⟩ (.string lb) (Nat.ne_of_lt hpw)), by omega, by omega, in_box HKT.out HKU.out HL48.out HL50.out HL52.out HL54.out HL55.out HL57.out⟩
    | none =>
      have HKU : Hid (skp mBoxHead.data.toList (rest s a) = none) := hk
      clear hk
      go_wp2_with (fail)
      refine (labelled_any p s a l w2 HP2.out (by omega) hs).mono ?_
      rintro e u58 ⟨x, b58, m58, rfl, K58, P58, le58, ha58, R58⟩
      have HK58 := hide (HK2.out.trans K58)
      have HP58 := hide P58
      have HL58 := hide R58
      have HR58 := hide (K58.keep HR2.out (by omega))
      clear K58 P58 R58
      unfold inV
      have r0 : u58.cell? ⟨w.heap.size, 0, none⟩ = some (.int .i64 0) := cell_of HR58.out 0
      have y0 : u58.frozen? ⟨w.heap.size, 0, none⟩ = false := free_of HR58.out 0
      have r1 : u58.cell? ⟨w.heap.size, 0 + 1, none⟩ = some (.string ⟨#[]⟩) := cell_of HR58.out 1
      have y1 : u58.frozen? ⟨w.heap.size, 0 + 1, none⟩ = false := free_of HR58.out 1
      have r2 : u58.cell? ⟨w.heap.size, 0 + 2, none⟩ = some (.string ⟨#[]⟩) := cell_of HR58.out 2
      have y2 : u58.frozen? ⟨w.heap.size, 0 + 2, none⟩ = false := free_of HR58.out 2
      have r3 : u58.cell? ⟨w.heap.size, 0 + 3, none⟩ = some (.string ⟨#[]⟩) := cell_of HR58.out 3
      have y3 : u58.frozen? ⟨w.heap.size, 0 + 3, none⟩ = false := free_of HR58.out 3
      go_wp2_with (fail)
      have hfin := put_four HR58.out (.int .i64 x.kind) (.string x.name) (.string x.value) (.string x.label)
      refine bodyPost_ret (results_c rfl _ rfl (range_of (l := [.int .i64 x.kind, .string x.name, .string x.value, .string x.label]) hfin) Tryd.underlying28 rfl sizeIn) rfl ?_
      exact ⟨x, b58, m58, rfl, ((((HK58.out.put ⟨w.heap.size, 0, none⟩ (.int .i64 x.kind) (Nat.le_refl _)).put ⟨w.heap.size, 1, none⟩ (.string x.name) (Nat.le_refl _)).put ⟨w.heap.size, 2, none⟩ (.string x.value) (Nat.le_refl _)).put ⟨w.heap.size, 3, none⟩ (.string x.label) (Nat.le_refl _)), ((((HP58.out.put ⟨w.heap.size, 0, none⟩ (.int .i64 x.kind) (Nat.ne_of_lt hpw)).put ⟨w.heap.size, 1, none⟩ (.string x.name) (Nat.ne_of_lt hpw)).put ⟨w.heap.size, 2, none⟩ (.string x.value) (Nat.ne_of_lt hpw)).put ⟨w.heap.size, 3, none⟩ (.string x.label) (Nat.ne_of_lt hpw)), by omega, by omega, in_lab HKT.out HKU.out HL58.out⟩
end Go.Proofs.YtaejlcffimkopaaDoor.pg
