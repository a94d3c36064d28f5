import Derived.Test.YtocpikgcbibcoaaGreatDoorMRcMemG
import Derived.Test.YtocpikgcbibcoaaGreatDoorMRcRows
import Derived.Test.YtocpikgcbibcoaaGreatDoorMRcUn
import Derived.Test.YtocpikgcbibcoaaGreatDoorMRcMemQ
import Derived.Test.YtocpikgcbibcoaaGreatDoorMRcUoW
import Derived.Test.YtocpikgcbibcoaaGreatDoorMRdSameD
import Derived.Test.YtocpikgcbibcoaaGreatDoorMRefScopes9
import Derived.Test.YtocpikgcbibcoaaGreatDoorMRcOnlyK
import Derived.Test.YtocpikgcbibcoaaGreatDoorMRcLoK
import Derived.Test.YtocpikgcbibcoaaGreatDoorMRcTidM
namespace Go.Proofs.YtocpikgcbibcoaaGreatDoor.rc
open Go.ChangeShapes Go.WideShapes Go.ChangeAt Go.RowKit Go.Proofs.YtocpikgcbibcoaaGreatDoor.common Go.Proofs.YtocpikgcbibcoaaGreatDoor.dk
attribute [local go_sem ↓] Go.wp_at_zero Go.wp_at_succ

set_option maxRecDepth 100000 in
set_option maxHeartbeats 3200000 in
theorem filled_rd (n : Nat) (v : Value) (c : UInt8) (w : World) (h : Rd w v (List.replicate n c)) (hn : n ≤ 4611686018427387904) :
    Calls Tryz.prog 12 #[v, .int .u8 (c.toNat : Int)] w fun e w' => e = .returned (.bool true) ∧ w' = w := by
  obtain ⟨oa, cap, hv⟩ := Rd.len h
  rw [List.length_replicate] at hv
  subst hv
  have HW := hide h
  clear h
  go_enter Tryz.func12, Tryz.ntmps12
  go_wp2_with fail
  go_loopw [5] (fun i wr => ∃ k : Nat, k ≤ n ∧ i = .int .i64 k ∧ wr = w) (fun i _ => n - (intOf i).toNat)
  case atStart => exact ⟨0, Nat.zero_le _, rfl, rfl⟩
  case round =>
    obtain ⟨k, hk, rfl, rfl⟩ := hrel
    by_cases hlt : k < n
    · have k0 : (0 : Int) ≤ (k : Int) := Int.natCast_nonneg _
      have k1 : (k : Int) < (n : Int) := by omega
      have HW2 : Hid (Rd wr (.slice oa (List.replicate n c).length cap) (List.replicate n c)) := by show Rd _ _ _; rw [List.length_replicate]; exact HW.out
      obtain ⟨g, o, rfl, h2⟩ := HW2.out.cell (by rw [List.length_replicate]; omega)
      have c0 : wr.cell? ⟨g, o + k, none⟩ = some (B c) := by
        have h3 := h2 k (by rw [List.length_replicate]; exact hlt)
        rwa [List.getElem_replicate] at h3
      clear h2
      go_wp2_with fail
      go_roundw
      case rel => exact ⟨k + 1, by omega, by go_num, by first | rfl | trivial⟩
      case measure => simp [intOf]; omega
    · obtain rfl : k = n := by omega
      have k1 : ¬ (k : Int) < (k : Int) := by omega
      go_wp2_with fail
      go_ret
      exact ⟨rfl, rfl⟩
end Go.Proofs.YtocpikgcbibcoaaGreatDoor.rc

namespace Go.Proofs.YtocpikgcbibcoaaGreatDoor.rc
open Go.ChangeShapes Go.WideShapes Go.ChangeAt Go.RowKit Go.Proofs.YtocpikgcbibcoaaGreatDoor.common Go.Proofs.YtocpikgcbibcoaaGreatDoor.dk

/-- the slices of records that lie there -/
theorem LiesR.slices {w : World} {v : Value} {l : List Rec} (h : LiesR w v l) : ∃ sl : List Value, l.length = sl.length ∧ (∀ i (hi : i < sl.length), Go.Proofs.YtocpikgcbibcoaaGreatDoor.ss.Lies w sl[i] (l[i]?.getD zR).ss) ∧ ∀ ad cap, v = .slice (some ad) l.length cap → ∀ j u, (rcc l sl)[j]? = some u → w.cell? (ad.add j) = some u := by
  obtain ⟨oa, cap, rfl, hc⟩ := h
  have hex : ∀ i : Nat, ∃ vi : Value, ∀ hi : i < l.length, ∃ b o, oa = some ⟨b, o, none⟩ ∧ w.rangeAt b (o + i * 9) (rcl9 l[i] vi) ∧ Go.Proofs.YtocpikgcbibcoaaGreatDoor.ss.Lies w vi l[i].ss := fun i => by
    by_cases hi : i < l.length
    · obtain ⟨b, o, vi, h1, _, h3, h4⟩ := hc i hi
      exact ⟨vi, fun _ => ⟨b, o, h1, h3, h4⟩⟩
    · exact ⟨.nilIface, fun h => absurd h hi⟩
  obtain ⟨f, hf⟩ := Classical.axiomOfChoice hex
  have hl : l.length = ((List.range l.length).map f).length := by simp
  refine ⟨(List.range l.length).map f, hl, fun i hi => ?_, fun ad cap' hv j u hu => ?_⟩
  · have hi' : i < l.length := by simpa using hi
    obtain ⟨_, _, _, _, h4⟩ := hf i hi'
    simp only [List.getElem_map, List.getElem_range, List.getElem?_eq_getElem hi', Option.getD_some]
    exact h4
  · cases hv
    have hj : j < l.length * 9 := by
      have := (List.getElem?_eq_some_iff.1 hu).1
      rw [rcc_len _ _ hl] at this
      exact this
    have hi : j / 9 < l.length := by omega
    obtain ⟨b, o, h1, h3, _⟩ := hf (j / 9) hi
    have h1' : ad = ⟨b, o, none⟩ := Option.some.inj h1
    have hr9 : j % 9 < (rcl9 (l[j / 9]'hi) (f (j / 9))).length := Nat.mod_lt _ (by decide)
    obtain ⟨x, hx⟩ : ∃ x, (rcl9 (l[j / 9]'hi) (f (j / 9)))[j % 9]? = some x := ⟨_, List.getElem?_eq_getElem hr9⟩
    have h5 := h3 (j % 9) x hx
    have h6 := rcc_get l _ hl (j / 9) hi (j % 9) x (by simpa using hx)
    have e : j / 9 * 9 + j % 9 = j := by omega
    rw [e, hu] at h6
    cases h6
    rw [h1', Addr.add_mid, ← h5]
    congr 2
    omega
theorem rcc_app : ∀ (l m : List Rec) (s t : List Value), l.length = s.length → rcc (l ++ m) (s ++ t) = rcc l s ++ rcc m t
  | [], m, [], t, _ => rfl
  | [], _, _ :: _, _, h => by simp at h
  | _ :: _, _, [], _, h => by simp at h
  | a :: l, m, b :: s, t, h => by
    show rcl9 a b ++ rcc (l ++ m) (s ++ t) = rcl9 a b ++ rcc l s ++ rcc m t
    rw [rcc_app l m s t (by simpa using h), List.append_assoc]
/-- records behind one another, in a row of one's own, their scopes anywhere -/
theorem liesR_of_row {base : Nat} {w : World} {v : Value} {l : List Rec} {s : List Value} (h : w.ownsRow base 26 9 v l.length (rcc l s)) (hl : l.length = s.length) (hs : ∀ i (hi : i < s.length), Go.Proofs.YtocpikgcbibcoaaGreatDoor.ss.Lies w s[i] (l[i]?.getD zR).ss) : LiesR w v l := by
  rcases h.2 with ⟨hq, h0⟩ | ⟨g, cap', cur, hq, hg, hh, _⟩
  · obtain rfl : l = [] := List.eq_nil_of_length_eq_zero h0
    rw [hq]
    exact liesR_nil w
  · have hc := h.cells (g := g) (by rw [hq]; rfl)
    rw [hq]
    refine ⟨_, cap', rfl, fun i hi => ?_⟩
    have hi2 : i < s.length := by omega
    refine ⟨g, 0, s[i], rfl, (Array.getElem?_eq_some_iff.1 hh).1, ?_, ?_⟩
    · intro j x hx
      have := hc _ _ (rcc_get l s hl i hi j x hx)
      rw [Addr.add_mid] at this
      rw [← this, Nat.zero_add, Nat.zero_add]
    · have := hs i hi2
      rwa [List.getElem?_eq_getElem hi, Option.getD_some] at this
theorem rcc_one' : ∀ (l : List Rec) (s : List Value), (∀ i (hi : i < s.length) , ∃ oa n c, s[i] = .slice oa n c) → ∀ u ∈ rcc l s, u.oneCell' = true
  | [], [], _, u, h => by cases h
  | [], _ :: _, _, u, h => by cases h
  | _ :: _, [], _, u, h => by cases h
  | r :: t, v :: s, hv, u, h => by
    obtain ⟨oa, n, c, e⟩ := hv 0 (Nat.zero_lt_succ _)
    have e : v = .slice oa n c := e
    subst e
    rcases List.mem_append.1 h with h | h
    · exact rcl_one r oa n c u h
    · exact rcc_one' t s (fun i hi => hv (i + 1) (Nat.succ_lt_succ hi)) u h
set_option maxRecDepth 100000 in
theorem append_recs (w : World) {ops : Array Oper} {rest : List Oper} {o : Oper} {a : Act} {Q : Exit → Act → World → Prop} (hgd : o.guard = none) (s x : Operand)
    (ho : o.op = .call { callee := .builtin .append, args := #[s, x], argTypes := #[22, 22] }) (base g c n : Nat) (xs : List Value) (hs : a.eval s = .slice (some ⟨g, 0, none⟩) n c) (hown : w.ownsRow base 26 9 (.slice (some ⟨g, 0, none⟩) n c) n xs) (v : Value) (l : List Rec) (sl : List Value) (hx : a.eval x = v)
    (hl : LiesR w v l) (hll : l.length = sl.length) (h1c : ∀ u ∈ rcc l sl, u.oneCell' = true) (hcl : ∀ ad cap, v = .slice (some ad) l.length cap → ∀ j u, (rcc l sl)[j]? = some u → w.cell? (ad.add j) = some u)
    (hm : n + l.length ≤ maxLen) (hb : (n + l.length) * 136 ≤ 140737488355328) (hbase : base ≤ w.heap.size)
    (h : ∀ v' w', w'.ownsRow base 26 9 v' (n + l.length) (xs ++ rcc l sl) → w.grownBy w' (some g) → wpList Tryz.prog ops Q rest (a.put o.dst v') w') : wpList Tryz.prog ops Q (o :: rest) a w := by
  obtain ⟨i0, hi, hz0, hz1, hz2⟩ := info_parts infoRc
  have hl' := hl
  obtain ⟨oa, cap, rfl, hc⟩ := hl
  cases oa with
  | some ad =>
    exact wpList_append_own w hgd s x 22 ho base 26 i0 (.agg zrec) 9 136 Tryz.underlying22 hi hz0 hz1 hz2 rfl (by decide) _ n xs hs hown ad l.length cap (rcc l sl) hx (rcc_len l sl hll) (hcl ad cap rfl) h1c hm hb hbase (fun v' w' q1 q2 _ => h v' w' q1 q2)
  | none =>
    have h0 : l = [] := by
      cases l with
      | nil => rfl
      | cons p r => obtain ⟨b, o, _, ho, _⟩ := hc 0 (by simp); cases ho
    subst h0
    have hsl : sl = [] := List.eq_nil_of_length_eq_zero hll.symm
    subst hsl
    refine wpList_plain hgd fun K' hK' => ?_
    unfold Oper.wp execOp
    simp only [ho, resolve, invoke, builtin, Sem.run_bind, Sem.run_pure, Result.andThen_ok, List.map_toArray, List.map_cons, List.map_nil, hs, hx]
    rcases hown.2 with ⟨hv, h0⟩ | ⟨g', cap', cur, hv, hg, hh, hn, _⟩
    · cases hv
    · cases hv
      simp [Builtin.append_, run_underlying Tryz.underlying22, sizeOf, typeInfo, hi, Builtin.lenOf, Builtin.firstCells, hn, storeCells]
      exact hK' _ _ (h _ _ (by simpa [rcc] using hown) ⟨rfl, rfl, rfl, Nat.le_refl _, fun _ _ _ => rfl⟩)
end Go.Proofs.YtocpikgcbibcoaaGreatDoor.rc

namespace Go.Proofs.YtocpikgcbibcoaaGreatDoor.rc
open Go.ChangeShapes Go.WideShapes Go.ChangeAt Go.RowKit Go.Proofs.YtocpikgcbibcoaaGreatDoor.common Go.Proofs.YtocpikgcbibcoaaGreatDoor.dk
attribute [local go_sem ↓] Go.wp_at_zero Go.wp_at_succ

set_option maxRecDepth 100000 in
set_option maxHeartbeats 6400000 in
theorem withRoom_any (l : List UInt8) (v : Value) (c : UInt8) (w : World) (hv : Rd w v l) (h0 : 0 < l.length) (hl : l.length ≤ 1048576) :
    Calls Tryz.prog 8 #[v, .int .u8 (c.toNat : Int)] w fun e w' => ∃ g cap, e = .returned (.tuple #[.slice (some ⟨g, 0, none⟩) l.length cap, .slice (some ⟨g, 0, none⟩) (l.length + 16) cap]) ∧ l.length + 16 ≤ cap ∧ Rw (fun b => w.heap.size ≤ b ∧ b < w'.heap.size) w' (.slice (some ⟨g, 0, none⟩) (l.length + 16) cap) (l ++ List.replicate 16 c) ∧ Below w.heap.size w w' := by
  obtain ⟨i0, hi, hz0, hz1, hz2⟩ := info_parts info8
  obtain ⟨ov, cv, rfl⟩ := Rd.len hv
  obtain ⟨v1, w1, hrun1, own1, fr1, at1⟩ := dr.append_rd w w.heap.size (.slice none 0 0) [] (World.ownsRow_nil _ _ _ _) ov cv l hv (by simp; omega) (Nat.le_refl _)
  have B1 : Below w.heap.size w w1 := fr1.below (fun k hk => by simp [Value.ownBlock] at hk) (Nat.le_refl _)
  have HO1 : Hid (w1.ownsRow w.heap.size 5 1 v1 (l.length + 0) ((l ++ List.replicate 0 c).map B)) := by show World.ownsRow _ _ _ _ _ _ _; simpa using own1
  have HB1 := hide B1
  clear own1 fr1 at1 B1 hv
  go_enter Tryz.func8, Tryz.ntmps8
  go_wp2_with (at_builtin; refine wpList_appendX rfl _ _ 27 27 rfl _ _ rfl rfl _ _ hrun1 ?_)
  go_loopw [6, 7] (fun u i wr => ∃ k : Nat, k ≤ 16 ∧ i = .int .i64 k ∧ wr.ownsRow w.heap.size 5 1 u (l.length + k) ((l ++ List.replicate k c).map B) ∧ Below w.heap.size w wr) (fun _ i _ => 16 - (intOf i).toNat)
  case atStart => exact ⟨0, Nat.zero_le _, rfl, HO1.out, HB1.out⟩
  case round =>
    obtain ⟨k, hk, rfl, hown, hbl⟩ := hrel
    have HO := hide hown
    have HBL := hide hbl
    have hsz := hbl.size
    by_cases hlt : k < 16
    · have k1 : (k : Int) < 16 := by omega
      obtain ⟨oo, co, rfl⟩ := own_slice hown
      have HR := hide (own_below hown ((Below.refl _ _).alloc (Nat.le_refl _) (.cells #[.int .u8 (c.toNat : Int)] 5)))
      clear hown hbl
      go_wp2_with (at_builtin; refine wpList_append_own _ rfl _ _ 27 rfl w.heap.size 5 i0 (.int .u8 0) 1 1 Tryz.underlying27 hi hz0 hz1 hz2 rfl (by decide) _ _ _ rfl HR.out ⟨wr.heap.size, 0, none⟩ 1 1 [_] rfl rfl (cell_one_new _ _ _) ?c2 ?c3 ?c4 ?c5 ?_)
      case c2 => first | rfl | (intro u hu; simp at hu; rw [hu]; rfl)
      case c3 => unfold maxLen; omega
      case c4 => omega
      case c5 => first | omega | (simp; done) | (simp; omega)
      intro v2 w2 hown2 hgrow2 _
      have HN : Hid (w2.ownsRow w.heap.size 5 1 v2 (l.length + (k + 1)) ((l ++ List.replicate (k + 1) c).map B)) := by
        show World.ownsRow _ _ _ _ _ _ _
        rw [rep_snoc, List.map_append, List.map_append, List.map_replicate, List.append_assoc]
        exact hown2
      have HB2 : Hid (Below w.heap.size w w2) := (HBL.out.alloc hsz _).grown hgrow2 (by simp; omega) (fun b hb => (HO.out.lt b hb).1)
      clear hown2 hgrow2 HR
      go_wp2_with fail
      go_roundw
      case rel => exact ⟨k + 1, by omega, by go_num, HN.out, HB2.out⟩
      case measure => simp [intOf]; omega
    · obtain rfl : k = 16 := by omega
      have hw : Rw (fun b => w.heap.size ≤ b ∧ b < wr.heap.size) wr _ (l ++ List.replicate 16 c) := rw_of (by rw [List.length_append, List.length_replicate]; exact hown)
      obtain ⟨g, cap, hv, _, hg⟩ := hw.slot (by simp)
      have hcap : l.length + 16 ≤ cap := by
        obtain ⟨g', cap', e', _, _, hc', _⟩ := row_bytes hw.1 (by simp)
        rw [hv] at e'
        cases e'
        rw [List.length_append, List.length_replicate] at hc'
        exact hc'
      rw [List.length_append, List.length_replicate] at hv
      subst hv
      have HW := hide hw
      have j0 : (0 : Int) ≤ (l.length : Int) := Int.natCast_nonneg _
      have j1 : (l.length : Int) ≤ (cap : Int) := by omega
      clear hown hbl hw
      go_wp2_with fail
      go_ret2
      exact ⟨g, cap, rfl, hcap, HW.out, HBL.out⟩
end Go.Proofs.YtocpikgcbibcoaaGreatDoor.rc

namespace Go.Proofs.YtocpikgcbibcoaaGreatDoor.rc
open Go.ChangeShapes Go.WideShapes Go.ChangeAt Go.RowKit Go.Proofs.YtocpikgcbibcoaaGreatDoor.common Go.Proofs.YtocpikgcbibcoaaGreatDoor.dk
attribute [local go_sem ↓] Go.wp_at_zero Go.wp_at_succ

theorem un_len {p : List UInt8} {o : Option (List Rec)} (h : UnR p o) : (o.getD []).length ≤ 4 ∧ ∀ r ∈ o.getD [], r.ss.length ≤ 16 := by
  cases o with
  | none => exact ⟨Nat.zero_le _, fun r hr => by cases hr⟩
  | some l => obtain ⟨_, h4, hg, _⟩ := h.is l rfl; exact ⟨h4, fun r hr => (hg r hr).2.2⟩
theorem dec_len {p : List UInt8} {o : Option Rec} (h : DecR p o) : (o.getD zR).ss.length ≤ 16 := by
  cases o with
  | none => exact Nat.zero_le _
  | some r => exact (h.is r rfl).2.2.1
set_option maxRecDepth 100000 in
set_option maxHeartbeats 12800000 in
theorem anew_any (li lo : List UInt8) (vi vo : Value) (w : World) (e : Nat → Addr) (h1 : Lo w.heap.size w vi li) (h2 : Lo w.heap.size w vo lo) (p1 : 0 < li.length) (p2 : 0 < lo.length) (n1 : li.length ≤ 1048576) (n2 : lo.length ≤ 1048576) (he : Env (e 1) (e 2) (errw.E e 0) w) (hE : errw.Errs w e) :
    Calls Tryz.prog 14 #[vi, vo] w fun x w' => x = .returned (.bool true) ∧ Below w.heap.size w w' := by
  have HENV : Hid (∀ X, Below w.heap.size w X → Env (e 1) (e 2) (errw.E e 0) X ∧ errw.Errs X e) := fun X hX => ⟨he.below hX, hE.below hX⟩
  have HVI : Hid (∀ X, Below w.heap.size w X → Lo X.heap.size X vi li) := fun X hX => h1.below hX
  have HVO : Hid (∀ X, Below w.heap.size w X → Lo X.heap.size X vo lo) := fun X hX => h2.below hX
  have HUN : Hid (∀ X v, Below w.heap.size w X → Lo X.heap.size X v li → Calls Tryz.prog 9 #[v] X (UnOut li .nilIface (errw.E e 1) X)) := fun X v hX hL => unpack_any li v (e 1) (e 2) e X hL n1 (HENV.out X hX).1 ((HENV.out X hX).2.cell 1 (by decide))
  have HDE : Hid (∀ X v, Below w.heap.size w X → Lo X.heap.size X v lo → Calls Tryz.prog 10 #[v] X (DecOut lo .nilIface (errw.E e 1) X)) := fun X v hX hL => decode_any lo v (e 1) (e 2) e X hL n2 (HENV.out X hX).1 ((HENV.out X hX).2.cell 1 (by decide))
  unfold UnOut at HUN
  unfold DecOut at HDE
  have HU1 := hide (HUN.out w vi (Below.refl _ _) h1)
  obtain ⟨oi, ci, hvi⟩ : ∃ a b, vi = .slice a li.length b := by obtain ⟨a, b, h, _⟩ := h1; exact ⟨a, b, h⟩
  obtain ⟨oo, co, hvo⟩ : ∃ a b, vo = .slice a lo.length b := by obtain ⟨a, b, h, _⟩ := h2; exact ⟨a, b, h⟩
  have HP1 := hide p1
  have HP2 := hide p2
  subst hvi hvo
  clear h1 h2 he hE p1 p2
  go_enter Tryz.func14, Tryz.ntmps14
  go_wp2_with fail
  refine HU1.out.mono ?_
  rintro x w1 ⟨o1, v1, rfl, l1, b1, hu1⟩
  have HB1 := hide b1
  have HL1 := hide l1
  have HR1 := hide hu1
  obtain ⟨E1, hE1⟩ : ∃ E1, E1 = (if o1.isSome then Value.nilIface else errw.E e 1) := ⟨_, rfl⟩
  rw [← hE1]
  have HE1 := hide hE1
  obtain ⟨a1, c1, hv1⟩ : ∃ a b, v1 = .slice a (o1.getD []).length b := by obtain ⟨a, b, h, _⟩ := l1; exact ⟨a, b, h⟩
  subst hv1
  have HC1 := hide (copy_any w1 _ li (HVI.out w1 b1).rd (by omega))
  clear l1 b1 hu1 hE1 HU1
  go_wp2_with fail
  refine HC1.out.mono ?_
  rintro x w2 ⟨vc, rfl, ownc, b2⟩
  have HB2 := hide (keepW HB1.out b2)
  have HL2 := hide (HL1.out.below b2)
  have HU2 := hide (HUN.out w2 vc HB2.out (lo_own ownc HP1.out))
  obtain ⟨ac, cc, hvc⟩ := own_slice ownc
  subst hvc
  clear ownc b2 HL1
  go_wp2_with fail
  refine HU2.out.mono ?_
  rintro x w3 ⟨o2, v2, rfl, l2, b3, hu2⟩
  have h12 : o2 = o1 := hu2.one HR1.out
  subst h12
  obtain ⟨a2, c2, hv2⟩ : ∃ a b, v2 = .slice a (o2.getD []).length b := by obtain ⟨a, b, h, _⟩ := l2; exact ⟨a, b, h⟩
  subst hv2
  rw [← HE1.out]
  have HB3 := hide (keepW HB2.out b3)
  have HLA3 := hide (HL2.out.below b3)
  have HLB3 := hide l2
  have HD1 := hide (HDE.out w3 _ HB3.out (HVO.out w3 HB3.out))
  clear l2 b3 hu2 HL2 HU2
  obtain ⟨ls, hls⟩ : ∃ ls, ls = o2.getD [] := ⟨_, rfl⟩
  have HLS := hide hls
  rw [← hls] at HLA3 HLB3
  rw [← hls]
  clear hls
  go_wp2_with fail
  refine HD1.out.mono ?_
  rintro x w4 ⟨q1, v4, rfl, own4, b4, hd1⟩
  obtain ⟨Q, hQ⟩ : ∃ Q, Q = q1.getD zR := ⟨_, rfl⟩
  obtain ⟨E2, hE2⟩ : ∃ E2, E2 = (if q1.isSome then Value.nilIface else errw.E e 1) := ⟨_, rfl⟩
  rw [← hQ] at own4
  rw [← hQ, ← hE2]
  have HE2 := hide hE2
  have HQ := hide hQ
  have HDR := hide hd1
  obtain ⟨a4, c4, hv4⟩ := own_slice own4
  subst hv4
  obtain ⟨X4, hX4⟩ : ∃ X4, X4 = w4.alloc (.cells (rcs Q (.slice a4 Q.ss.length c4)) 26) := ⟨_, rfl⟩
  have bX4 : Below w4.heap.size w4 X4 := by rw [hX4]; exact (Below.refl _ _).alloc (Nat.le_refl _) _
  have HQ4 : Hid (X4.heap[w4.heap.size]? = some (.cells (rcs Q (.slice a4 Q.ss.length c4)) 26 (0, 0))) := by show _ = _; rw [hX4]; exact heap_alloc_new w4 _
  have HB4 := hide (keepW HB3.out (keepW b4 bX4))
  have HLA4 := hide (HLA3.out.below (keepW b4 bX4))
  have HLB4 := hide (HLB3.out.below (keepW b4 bX4))
  have HLQ4 := hide ((ss.lies_of_own own4).below bX4)
  have HC2 := hide (copy_any X4 _ lo (HVO.out X4 HB4.out).rd (by omega))
  have HX4 := hide hX4
  clear own4 b4 hd1 hX4 bX4 hQ hE2 HD1 HLA3 HLB3
  go_wp2_with fail
  rw [← HX4.out]
  refine HC2.out.mono ?_
  rintro x w5 ⟨vd, rfl, ownd, b5⟩
  have HB5 := hide (keepW HB4.out b5)
  have HD2 := hide (HDE.out w5 vd HB5.out (lo_own ownd HP2.out))
  have HQ5 := hide ((b5.block _ (Array.getElem?_eq_some_iff.1 HQ4.out).1).trans HQ4.out)
  have HLA5 := hide (HLA4.out.below b5)
  have HLB5 := hide (HLB4.out.below b5)
  have HLQ5 := hide (HLQ4.out.below b5)
  obtain ⟨ad, cd, hvd⟩ := own_slice ownd
  subst hvd
  clear ownd b5 HLA4 HLB4 HLQ4 HQ4
  go_wp2_with fail
  refine HD2.out.mono ?_
  rintro x w6 ⟨q2, v6, rfl, own6, b6, hd2⟩
  have h21 : q2 = q1 := hd2.one HDR.out
  subst h21
  rw [← HQ.out] at own6
  rw [← HQ.out, ← HE2.out]
  obtain ⟨a6, c6, hv6⟩ := own_slice own6
  subst hv6
  obtain ⟨X6, hX6⟩ : ∃ X6, X6 = w6.alloc (.cells (rcs Q (.slice a6 Q.ss.length c6)) 26) := ⟨_, rfl⟩
  have bX6 : Below w6.heap.size w6 X6 := by rw [hX6]; exact (Below.refl _ _).alloc (Nat.le_refl _) _
  have HB6 := hide (keepW HB5.out (keepW b6 bX6))
  have HQ6 := hide (((keepW b6 bX6).block _ (Array.getElem?_eq_some_iff.1 HQ5.out).1).trans HQ5.out)
  have HQ7 : Hid (X6.heap[w6.heap.size]? = some (.cells (rcs Q (.slice a6 Q.ss.length c6)) 26 (0, 0))) := by show _ = _; rw [hX6]; exact heap_alloc_new w6 _
  have HLQ6 := hide (HLQ5.out.below (keepW b6 bX6))
  have HLQ7 := hide ((ss.lies_of_own own6).below bX6)
  have HLN : Hid (ls.length ≤ 4 ∧ ∀ r ∈ ls, r.ss.length ≤ 16) := by show _ ∧ _; rw [HLS.out]; exact un_len HR1.out
  have HQN : Hid (Q.ss.length ≤ 16) := by show _ ≤ _; rw [HQ.out]; exact dec_len HDR.out
  have HSR := hide (sameRecs_any ls _ _ X6 (HLA5.out.below (keepW b6 bX6)) (HLB5.out.below (keepW b6 bX6)) (fun r hr => by have := HLN.out.2 r hr; omega) (by have := HLN.out.1; omega))
  have HX6 := hide hX6
  clear own6 b6 hd2 hX6 bX6 HD2 HLA5 HLB5 HLQ5 HQ5
  go_wp2_with fail
  rw [← HX6.out]
  refine HSR.out.mono ?_
  rintro x w7 ⟨rfl, b7⟩
  have HB7 := hide (keepW HB6.out b7)
  have HRa : Hid (w7.rangeAt w4.heap.size 0 (rcs Q (.slice a4 Q.ss.length c4)).toList) := range_of (t := 26) ((b7.block _ (Array.getElem?_eq_some_iff.1 HQ6.out).1).trans HQ6.out)
  have HRb : Hid (w7.rangeAt w6.heap.size 0 (rcs Q (.slice a6 Q.ss.length c6)).toList) := range_of (t := 26) ((b7.block _ (Array.getElem?_eq_some_iff.1 HQ7.out).1).trans HQ7.out)
  have HS2 := hide (sameRec_any Q _ _ w7 (HLQ6.out.below b7) (HLQ7.out.below b7) (by have := HQN.out; omega))
  clear b7 HSR
  go_wp2_with (first
    | (refine wpList_load_mid rfl 26 (.tmp 9) rfl w4.heap.size 0 rfl _ _ HRa.out Tryz.underlying26 rfl sizeRec ?_)
    | (refine wpList_load_mid rfl 26 (.tmp 11) rfl w6.heap.size 0 rfl _ _ HRb.out Tryz.underlying26 rfl sizeRec ?_))
  refine HS2.out.mono ?_
  rintro x w8 ⟨rfl, b8⟩
  have HB8 := hide (keepW HB7.out b8)
  have HN1 : Hid (∃ n : Int, Calls Tryz.prog 28 #[E1] w8 fun x w' => x = .returned (.int .i64 n) ∧ w' = w8) := by
    rw [HE1.out]
    cases o2 with
    | none => exact ⟨2, errw.num_1 w8 e (HENV.out w8 HB8.out).2⟩
    | some _ => exact ⟨0, errw.num_nil w8⟩
  have HN2 : Hid (∃ n : Int, Calls Tryz.prog 28 #[E2] w8 fun x w' => x = .returned (.int .i64 n) ∧ w' = w8) := by
    rw [HE2.out]
    cases q2 with
    | none => exact ⟨2, errw.num_1 w8 e (HENV.out w8 HB8.out).2⟩
    | some _ => exact ⟨0, errw.num_nil w8⟩
  obtain ⟨m1, hm1⟩ := HN1.out
  obtain ⟨m2, hm2⟩ := HN2.out
  have HM1 := hide hm1
  have HM2 := hide hm2
  clear b8 HS2 HRa HRb hm1 hm2 HN1 HN2
  go_wp2_with fail
  refine HM1.out.mono ?_
  rintro x w9 ⟨rfl, h9⟩
  obtain rfl := h9.symm
  clear h9
  go_wp2_with fail
  refine HM1.out.mono ?_
  rintro x w9 ⟨rfl, h9⟩
  obtain rfl := h9.symm
  clear h9
  go_wp2_with fail
  refine HM2.out.mono ?_
  rintro x w9 ⟨rfl, h9⟩
  obtain rfl := h9.symm
  clear h9
  go_wp2_with fail
  refine HM2.out.mono ?_
  rintro x w9 ⟨rfl, h9⟩
  obtain rfl := h9.symm
  clear h9
  go_wp2_with fail
  go_ret
  exact ⟨rfl, HB8.out⟩
end Go.Proofs.YtocpikgcbibcoaaGreatDoor.rc
