import Derived.Test.YtcpflfpgnbihiaaGreatDoorMPiecesOf
import Derived.Test.YtcpflfpgnbihiaaGreatDoorMReadPiece
import Derived.Test.YtcpflfpgnbihiaaGreatDoorMByteP
namespace Go.Proofs.YtcpflfpgnbihiaaGreatDoor.pctw
open Go.ChangeShapes Go.WideShapes Go.ChangeAt Go.RowKit Go.Proofs.YtcpflfpgnbihiaaGreatDoor.common
open Go.Proofs.YtcpflfpgnbihiaaGreatDoor.lst (PB cl cl_app infoP own_below)
attribute [local go_sem ↓] Go.wp_at_zero Go.wp_at_succ

/-- the refusal of too many lies in its variable -/
def Mny (w : World) (a : Addr) : Prop := w.cell? ⟨4, 0, none⟩ = some (X a)
theorem Mny.below {w w' : World} {a : Addr} (h : Mny w a) (hb : Below w.heap.size w w') : Mny w' a := by
  unfold Mny
  rw [← h]
  exact hb.cell (World.block_lt_of_cell? w _ h)

def mk (x : Pct.Pr) : PB := (⟨x.1.toArray⟩, ⟨x.2.toArray⟩)

theorem split_le (l : List UInt8) : ∀ p ∈ Pct.split l, p.length ≤ l.length := by
  induction l with
  | nil => intro p hp; simp [Pct.split] at hp; subst hp; exact Nat.le_refl _
  | cons c r ih =>
    intro p hp
    by_cases hc : c = 38
    · subst hc
      rw [Pct.split_amp] at hp
      rcases List.mem_cons.1 hp with rfl | hp
      · simp
      · have := ih p hp; simp; omega
    · obtain ⟨h, t, e1, e2⟩ := Pct.split_other c r hc
      rw [e2] at hp
      rcases List.mem_cons.1 hp with rfl | hp
      · have := ih h (by rw [e1]; simp); simp; omega
      · have := ih p (by rw [e1]; simp [hp]); simp; omega

/-- strings that lie in a slice of one's own -/
theorem str_cell {w : World} {base : Nat} {e : TypeId} {v : Value} {q : List ByteArray} (h : w.ownsRow base e 1 v q.length (q.map Value.string)) : ∃ oa cap, v = .slice oa q.length cap ∧ ∀ i (hi : i < q.length), ∃ g, oa = some ⟨g, 0, none⟩ ∧ base ≤ g ∧ g < w.heap.size ∧ w.cell? ⟨g, i, none⟩ = some (.string q[i]) := by
  rcases h.2 with ⟨rfl, h0⟩ | ⟨g, cap, cur, rfl, hg, hh, hn, _, hsz, htk⟩
  · exact ⟨none, 0, by rw [h0], fun i hi => by omega⟩
  · refine ⟨_, cap, rfl, fun i hi => ⟨g, rfl, hg, (Array.getElem?_eq_some_iff.1 hh).1, ?_⟩⟩
    have : (cur.toList.take (q.length * 1))[i]? = (q.map Value.string)[i]? := by rw [htk]
    rw [List.getElem?_take_of_lt (by omega)] at this
    simp only [World.cell?, hh]
    simp [hi] at this
    simpa using this

theorem pairAll_take (l : List Pct.By) (k : Nat) (h : k < l.length) (x : List Pct.Pr) (hx : Pct.pairAll (l.take k) = some x) : Pct.pairAll (l.take (k + 1)) = (Pct.pair l[k]).map fun y => x ++ [y] := by
  rw [List.take_succ_eq_append_getElem h, Pct.pairAll_app, hx]
  cases hp : Pct.pair l[k] <;> simp [Pct.pairAll, hp]
theorem pairAll_none (l : List Pct.By) (k : Nat) (h : k < l.length) (hn : Pct.pair l[k] = none) : Pct.pairAll l = none := by
  have e : l = l.take k ++ (l[k] :: l.drop (k + 1)) := by rw [← List.drop_eq_getElem_cons h, List.take_append_drop]
  conv => lhs; rw [e]
  rw [Pct.pairAll_app, Pct.pairAll_cons, hn]
  cases Pct.pairAll (l.take k) <;> rfl

theorem cells_at (w : World) (l : List Value) (t : TypeId) (k : Nat) (hk : k = w.heap.size) : ∀ j u, l[j]? = some u → (w.alloc (.cells l.toArray t)).cell? ((⟨k, 0, none⟩ : Addr).add j) = some u := by
  subst hk; exact lst.cells_new w l t

set_option maxRecDepth 100000 in
set_option maxHeartbeats 3200000 in
theorem pairs_any (s : ByteArray) (w : World) (hs : s.size ≤ reachBytes) (ea em : Addr) (he : Txt w ea) (hm : Mny w em) :
    Calls Tryz.prog 24 #[.string s] w fun x w' => Below w.heap.size w w' ∧
      ((33 ≤ (Pct.pieces s.data.toList).length ∧ x = .returned (.tuple #[.slice none 0 0, X em])) ∨
        ((Pct.pieces s.data.toList).length ≤ 32 ∧ Pct.pairAll (Pct.pieces s.data.toList) = none ∧ x = .returned (.tuple #[.slice none 0 0, X ea])) ∨
        ((Pct.pieces s.data.toList).length ≤ 32 ∧ ∃ q v, Pct.pairAll (Pct.pieces s.data.toList) = some q ∧ x = .returned (.tuple #[v, .nilIface]) ∧ w'.ownsRow w.heap.size 35 2 v (q.map mk).length (cl (q.map mk)))) := by
  obtain ⟨i0, hi, hz0, hz1, hz2⟩ := info_parts infoP
  have HS := hide hs
  have HE := hide he
  have HM := hide hm
  clear hs he hm
  go_enter Tryz.func24, Tryz.ntmps24
  go_wp2_with fail
  refine (piecesOf_any s w HS.out).mono ?_
  rintro x w1 ⟨hb1, v, q, rfl, hown, hq⟩
  obtain ⟨oa, cap, rfl, hc⟩ := str_cell hown
  have HC := hide hc
  have HB1 := hide hb1
  have hplen : (Pct.pieces s.data.toList).length = (ne (parts s)).length := by rw [ne_parts, List.length_map]
  clear hown hc hb1
  rcases hq with ⟨hq, hq32⟩ | ⟨hq33, hbig⟩
  · have hql : q = (Pct.pieces s.data.toList).map fun l => (⟨l.toArray⟩ : ByteArray) := hq.trans (ne_parts s)
    have HLE : Hid ((Pct.pieces s.data.toList).length = q.length) := by show _ = _; rw [hplen, hq]
    have HQ : Hid (∀ i (h : i < q.length), ∃ h2 : i < (Pct.pieces s.data.toList).length, q[i] = ⟨((Pct.pieces s.data.toList)[i]'h2).toArray⟩ ∧ q[i].size ≤ reachBytes) := by
      intro i h
      have h2 : i < (Pct.pieces s.data.toList).length := by rw [HLE.out]; exact h
      have e : q[i] = ⟨((Pct.pieces s.data.toList)[i]'h2).toArray⟩ := by simp [hql]
      refine ⟨h2, e, ?_⟩
      rw [e, str_size]
      have hmem : (Pct.pieces s.data.toList)[i]'h2 ∈ Pct.split s.data.toList := (List.mem_filter.1 (List.getElem_mem h2)).1
      have := split_le _ _ hmem
      rw [len_list] at this
      exact Nat.le_trans this HS.out
    clear hq hql hplen
    have h32i : ¬ (32 : Int) < (q.length : Int) := by omega
    go_wp2_with (refine wpList_make_own _ rfl _ _ 22 rfl w1.heap.size 35 i0 (.agg #[.string ⟨#[]⟩, .string ⟨#[]⟩]) 2 Tryz.underlying22 hi hz0 hz1 .i64 .i64 (q.length : Int) q.length ?c1 ?c2 ?c3 ?c4 ?c5 ?c6 ?_)
    case c1 => rfl
    case c2 => rfl
    case c3 => rfl
    case c4 => rw [hz2]; omega
    case c5 => unfold maxLen; omega
    case c6 => omega
    intro w2 hown hgrow
    have hb2 := (Below.refl w1.heap.size w1).grown hgrow (Nat.le_refl _) (fun k e => by cases e)
    have HO := hide hown
    have HB2 := hide hb2
    clear hown hgrow hb2
    go_wp2_with fail
    go_loopw [5, 21] (fun v i wr => ∃ (k : Nat) (x : List Pct.Pr), k ≤ q.length ∧ i = .int .i64 k ∧ Pct.pairAll ((Pct.pieces s.data.toList).take k) = some x ∧ wr.ownsRow w1.heap.size 35 2 v (x.map mk).length (cl (x.map mk)) ∧ Below w1.heap.size w1 wr) (fun _ i _ => q.length - (intOf i).toNat)
    case atStart => exact ⟨0, [], Nat.zero_le _, rfl, rfl, HO.out, HB2.out⟩
    case round =>
      obtain ⟨k, x, hk, rfl, hx, hown, hnx⟩ := hrel
      have hxl := Pct.pairAll_len hx
      have hxl2 : x.length ≤ k := by rw [hxl, List.length_take]; exact Nat.min_le_left _ _
      have HX := hide hx
      have HO1 := hide hown
      have HN := hide hnx
      clear hx hown hnx hxl
      by_cases hlt : k < q.length
      · have hki : (k : Int) < (q.length : Int) := by omega
        obtain ⟨g, rfl, hg0, hg1, hcell⟩ := HC.out k hlt
        have hc2 : wr.cell? ⟨g, k, none⟩ = some (.string q[k]) := (HN.out.cell (p := ⟨g, k, none⟩) hg1).trans hcell
        obtain ⟨hp2, hqe, hqs⟩ := HQ.out k hlt
        have HQE := hide hqe
        have HQS := hide hqs
        clear hqe hqs hcell
        have hWT : Txt wr ea := (HE.out.below HB1.out).below HN.out
        have HWT := hide hWT
        clear hWT
        generalize q[k] = pc at *
        go_wp2_with fail
        refine (readPiece_any pc wr HQS.out ea HWT.out).mono ?_
        rintro y w3 ⟨hb3, hy⟩
        have HN3 := hide (HN.out.trans (hb3.mono HN.out.size))
        have HO3 := hide (own_below HO1.out hb3)
        clear hb3
        rcases hy with ⟨a, b, hab, rfl⟩ | ⟨hn, rfl⟩
        · have HXS : Hid (Pct.pairAll ((Pct.pieces s.data.toList).take (k + 1)) = some (x ++ [(a, b)])) := by
            show _ = _
            rw [pairAll_take _ k hp2 x HX.out]
            have : Pct.pair ((Pct.pieces s.data.toList)[k]'hp2) = some (a, b) := by rw [← hab, HQE.out]
            rw [this]; rfl
          clear hab
          go_wp2_with (at_builtin; refine wpList_append_own _ rfl _ _ 22 rfl w1.heap.size 35 i0 (.agg #[.string ⟨#[]⟩, .string ⟨#[]⟩]) 2 32 Tryz.underlying22 hi hz0 hz1 hz2 rfl (by decide) _ _ _ rfl ((HO3.out.alloc _).alloc _) ⟨w3.heap.size + 1, 0, none⟩ 1 1 [S a, S b] rfl rfl (cells_at _ _ _ _ (by simp)) ?c2 ?c3 ?c4 ?c5 ?_)
          case c2 => first | rfl | (intro u hu; simp at hu; rcases hu with rfl | rfl <;> rfl)
          case c3 => unfold maxLen; simp; omega
          case c4 => simp; omega
          case c5 => have := HN3.out.size; simp; omega
          intro v' w4 hown' hgrow _
          have HN4 := hide (((HN3.out.alloc HN3.out.size (.cells #[S a, S b] 35)).alloc (by have := HN3.out.size; simp; omega) _).grown hgrow (by have := HN3.out.size; simp; omega) (lst.own_ge HO3.out))
          have HO4 : Hid (w4.ownsRow w1.heap.size 35 2 v' ((x ++ [(a, b)]).map mk).length (cl ((x ++ [(a, b)]).map mk))) := by
            show w4.ownsRow _ _ _ _ _ _
            rw [List.map_append, List.length_append, cl_app, List.length_map]; exact hown'
          clear hown' hgrow
          go_wp2
          go_roundw
          case rel => exact ⟨k + 1, _, by omega, by go_num, HXS.out, HO4.out, HN4.out⟩
          case measure => simp [intOf]; omega
        · have HPN : Hid (Pct.pairAll (Pct.pieces s.data.toList) = none) := pairAll_none _ k hp2 (by rw [← hn, HQE.out])
          clear hn
          go_wp2_with fail
          go_ret2
          exact ⟨HB1.out.trans ((HN3.out.alloc HN3.out.size _).mono HB1.out.size), Or.inr (Or.inl ⟨by rw [HLE.out]; exact hq32, HPN.out, rfl⟩)⟩
      · obtain rfl : k = q.length := by omega
        have hx2 := HX.out
        rw [← HLE.out, List.take_length] at hx2
        have HX2 := hide hx2
        clear hx2
        go_wp2_with fail
        go_ret2
        exact ⟨HB1.out.trans (HN.out.mono HB1.out.size), Or.inr (Or.inr ⟨by rw [HLE.out]; exact hq32, x, _, HX2.out, rfl, own_mono HO1.out HB1.out.size⟩)⟩
  · have h33i : (32 : Int) < (q.length : Int) := by omega
    have ce : w1.cell? ⟨4, 0, none⟩ = some (X em) := HM.out.below HB1.out
    have HBG : Hid (33 ≤ (Pct.pieces s.data.toList).length) := by show _ ≤ _; rw [hplen]; exact hbig
    clear hi hz0 hz1 hz2 hplen hbig
    go_wp2_with fail
    go_region
    go_wp2
    go_ret2
    exact ⟨HB1.out.drew, Or.inl ⟨HBG.out, rfl⟩⟩

end Go.Proofs.YtcpflfpgnbihiaaGreatDoor.pctw

namespace Go.Proofs.YtcpflfpgnbihiaaGreatDoor.pctw
open Go.ChangeShapes Go.WideShapes Go.ChangeAt Go.RowKit Go.Proofs.YtcpflfpgnbihiaaGreatDoor.common
attribute [local go_sem ↓] Go.wp_at_zero Go.wp_at_succ

set_option maxHeartbeats 800000 in
theorem refHexValue_any (c : UInt8) (w : World) :
    Calls Tryz.prog 95 #[B c] w fun e w' => w' = w ∧ e = .returned (.int .i64 (if Pct.hexv c < 16 then (Pct.hexv c : Int) else -1)) := by
  have HC := hide (hexv_cases c)
  have hc := c.toNat_lt
  generalize Pct.hexv c = v at *
  obtain ⟨r, hr⟩ : ∃ r : Int, (if v < 16 then (v : Int) else -1) = r := ⟨_, rfl⟩
  rw [hr]
  have HR := hide hr
  clear hr
  go_enter Tryz.func95, Tryz.ntmps95
  go_wp2
  all_goals (go_ret; refine ⟨rfl, ?_⟩; have := HC.out; have hr := HR.out)
  all_goals first
    | (exfalso; omega)
    | (simp; split at hr <;> omega)

end Go.Proofs.YtcpflfpgnbihiaaGreatDoor.pctw
