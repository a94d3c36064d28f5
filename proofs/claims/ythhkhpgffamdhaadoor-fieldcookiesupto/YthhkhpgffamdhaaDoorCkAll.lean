import Derived.Test.YthhkhpgffamdhaaDoorCkPcs2
import Derived.Test.YthhkhpgffamdhaaDoorListKit0
namespace Go.Proofs.YthhkhpgffamdhaaDoor.fd
open Go.ChangeShapes Go.WideShapes Go.ChangeAt Go.RowKit Go.Proofs.YthhkhpgffamdhaaDoor.common Go.Proofs.YthhkhpgffamdhaaDoor.bk
open Go.Proofs.YthhkhpgffamdhaaDoor.lst (PB cl cl_app infoP)
attribute [local go_sem ↓] Go.wp_at_zero Go.wp_at_succ

def mkP (l : List UInt8) : PB := (⟨(pcName l).toArray⟩, ⟨(pcVal l).toArray⟩)
theorem trim_le (l : List UInt8) : (Fd.trim l).length ≤ l.length := by
  unfold Fd.trim Lib.trimS Lib.trimLeftS Lib.trimRightS
  have h1 := (List.dropWhile_suffix (l := (l.reverse.dropWhile ([32, 9].contains ·)).reverse) ([32, 9].contains ·)).length_le
  have h2 := (List.dropWhile_suffix (l := l.reverse) ([32, 9].contains ·)).length_le
  rw [List.length_reverse] at h1 h2
  exact Nat.le_trans h1 h2
theorem pcs_le : ∀ (n : Nat) (l : List UInt8) (acc : List (List UInt8)) (N : Nat), l.length ≤ N → (∀ p ∈ acc, p.length ≤ N) → ∀ p ∈ pcs n l acc, p.length ≤ N := by
  intro n
  induction n with
  | zero => intro l acc N _ h p hp; exact h p hp
  | succ n ih =>
    intro l acc N hl h p hp
    unfold pcs at hp
    split at hp
    · exact h p hp
    · rename_i hne
      cases l with
      | nil => exact absurd (Or.inl rfl) hne
      | cons x r =>
        have hr := pcRest_len x r
        rw [List.length_cons] at hl
        refine ih (pcRest (x :: r)) (pcAdd acc (x :: r)) N (by omega) ?_ p hp
        intro q hq
        unfold pcAdd at hq
        split at hq
        · exact h q hq
        · rcases List.mem_append.1 hq with hq | hq
          · exact h q hq
          · rw [List.mem_singleton] at hq
            subst hq
            have h1 := trim_le ((x :: r).takeWhile isPc)
            have h2 := (List.takeWhile_prefix (l := x :: r) isPc).length_le
            rw [List.length_cons] at h2
            omega
theorem pcsL_le (l : List UInt8) : ∀ p ∈ pcsL l [], p.length ≤ l.length := pcs_le _ l [] _ (Nat.le_refl _) (fun p hp => by cases hp)

/-- strings that lie in a slice of one's own -/
theorem str_cells {w : World} {base : Nat} {e : TypeId} {v : Value} {q : List (List UInt8)} (h : w.ownsRow base e 1 v q.length (q.map S)) : ∃ oa cap, v = .slice oa q.length cap ∧ ∀ i (hi : i < q.length), ∃ g, oa = some ⟨g, 0, none⟩ ∧ base ≤ g ∧ g < w.heap.size ∧ w.cell? ⟨g, i, none⟩ = some (S q[i]) := by
  rcases h.2 with ⟨rfl, h0⟩ | ⟨g, cap, cur, rfl, hg, hh, hn, _, hsz, htk⟩
  · exact ⟨none, 0, by rw [h0], fun i hi => by omega⟩
  · refine ⟨_, cap, rfl, fun i hi => ⟨g, rfl, hg, (Array.getElem?_eq_some_iff.1 hh).1, ?_⟩⟩
    have : (cur.toList.take (q.length * 1))[i]? = (q.map S)[i]? := by rw [htk]
    rw [List.getElem?_take_of_lt (by omega)] at this
    simp only [World.cell?, hh]
    simp [hi] at this
    simpa using this
theorem cells_atP (w : World) (l : List Value) (t : TypeId) (k : Nat) (hk : k = w.heap.size) : ∀ j u, l[j]? = some u → (w.alloc (.cells l.toArray t)).cell? ((⟨k, 0, none⟩ : Addr).add j) = some u := by
  subst hk; exact lst.cells_new w l t

theorem ck_own_mono {w : World} {b b' : Nat} {t : TypeId} {z : Nat} {v : Value} {n : Nat} {xs : List Value} (h : w.ownsRow b t z v n xs) (hb : b' ≤ b) : w.ownsRow b' t z v n xs := by
  refine ⟨h.1, ?_⟩
  rcases h.2 with hn | ⟨g, cap, cur, hv, hg, rest⟩
  · exact .inl hn
  · exact .inr ⟨g, cap, cur, hv, Nat.le_trans hb hg, rest⟩

/-- what Cookies answers, of these pieces -/
def CkOut (ps : List (List UInt8)) (ea em : Addr) (base : Nat) (x : Ending) (w' : World) : Prop :=
  (16 < ps.length ∧ x = .returned (.tuple #[.slice none 0 0, X em])) ∨
    (ps.length ≤ 16 ∧ ps.all pcOk = false ∧ x = .returned (.tuple #[.slice none 0 0, X ea])) ∨
    (ps.length ≤ 16 ∧ ps.all pcOk = true ∧ ∃ v, x = .returned (.tuple #[v, .nilIface]) ∧ w'.ownsRow base 41 2 v (ps.map mkP).length (cl (ps.map mkP)))

set_option maxRecDepth 100000 in
set_option maxHeartbeats 3200000 in
theorem cookies_any (s : ByteArray) (w : World) (hs : s.size ≤ 140737488355328) (ea em : Addr) (he : Ev 0 w (X ea)) (hm : Ev 1 w (X em)) :
    Calls Tryd.prog 19 #[.string s] w fun x w' => Below w.heap.size w w' ∧ CkOut (pcsL s.data.toList []) ea em w.heap.size x w' := by
  have hle0 := pcsL_le s.data.toList
  generalize hps : pcsL s.data.toList [] = ps at *
  have HPS0 := hide hps
  have HLE := hide hle0
  clear hps hle0
  obtain ⟨i0, hi, hz0, hz1, hz2⟩ := info_parts infoP
  have hge := he.lt
  have hgm := hm.lt
  obtain ⟨T, C, hT, hC⟩ := new_cookie s
  have HT := hide hT
  have HC := hide hC
  have HE := hide he
  have HM := hide hm
  clear hT hC he hm
  go_enter Tryd.func19, Tryd.ntmps19
  go_wp2_with fail
  refine (HT.out.made w).mono ?_
  rintro x w1 ⟨rfl, hb1⟩
  have HB := hide (keepD hb1 (putCookie_below Tryd.zeroCells74 C w1))
  have HW1 : Hid (w.heap.size ≤ w1.heap.size) := hb1.size
  have HPS : Hid (w1.heap.size < (putCookie Tryd.zeroCells74 C w1).heap.size) := World.block_lt_of_cell? _ ⟨w1.heap.size, 0, none⟩ (HC.out.at w1).2.c0
  clear hb1
  go_wp2_with (first
    | (refine wpList_build_two rfl 74 0 1 (.tmp 12) (.tmp 13) rfl _ _ rfl rfl C HC.out.built ?_)
    | (refine wpList_store_mid rfl 74 (.tmp 4) (.tmp 14) rfl w1.heap.size 0 C rfl rfl (HC.out.room w1) HC.out.size HC.out.one ?_))
  change Calls _ _ _ (putCookie Tryd.zeroCells74 C w1) _
  have HA := hide (HC.out.at w1)
  generalize hW2 : putCookie Tryd.zeroCells74 C w1 = W at *
  clear hW2 HC HT
  refine (pieces_any w1.heap.size s _ W HA.out hs).mono ?_
  rintro x w2 ⟨v, rfl, hown, htab, hb2⟩
  have HB2 : Hid (Below w.heap.size w w2) := HB.out.trans (hb2.mono HW1.out)
  have HR2 : Hid (w1.heap.size < w2.heap.size) := Nat.lt_of_lt_of_le HPS.out hb2.size
  have HTB := hide htab
  rw [HPS0.out] at hown
  have HPL : Hid (∀ p ∈ ps, p.length ≤ 140737488355328) := fun p hp => Nat.le_trans (HLE.out p hp) (by rw [len_list]; exact hs)
  clear hb2 htab HLE HA HB HPS
  obtain ⟨oa, cap, rfl, hc⟩ := str_cells hown
  have HC := hide hc
  clear hown hc
  by_cases hbig : 16 < ps.length
  · have hbi : (16 : Int) < (ps.length : Int) := by omega
    have hx : w2.cell? ⟨1, 0, none⟩ = some (X em) := HM.out.below HB2.out
    clear hi hz0 hz1 hz2
    go_wp2_with fail
    go_region
    go_wp2
    go_ret2
    exact ⟨HB2.out.drew, Or.inl ⟨hbig, rfl⟩⟩
  · have hbi : ¬ (16 : Int) < (ps.length : Int) := by omega
    have hle : ps.length ≤ 16 := by omega
    have HET : Hid (∀ X', Below w2.heap.size w2 X' → X'.cell? ⟨0, 0, none⟩ = some (X ea)) := fun X' hX => HE.out.below (keepD HB2.out hX)
    clear hbig HE HM
    go_wp2_with (refine wpList_make_own _ rfl _ _ 37 rfl w2.heap.size 41 i0 (.agg #[.string ⟨#[]⟩, .string ⟨#[]⟩]) 2 Tryd.underlying37 hi hz0 hz1 .i64 .i64 (ps.length : Int) ps.length ?c1 ?c2 ?c3 ?c4 ?c5 ?c6 ?_)
    case c1 => rfl
    case c2 => rfl
    case c3 => rfl
    case c4 => rw [hz2]; omega
    case c5 => unfold maxLen; omega
    case c6 => omega
    intro w3 hown hgrow
    have hb3 := (Below.refl w2.heap.size w2).grown hgrow (Nat.le_refl _) (fun k e => by cases e)
    have HO := hide hown
    have HB3 := hide hb3
    clear hown hgrow hb3
    go_wp2_with fail
    go_loopw [6, 25] (fun v i wr => ∃ k : Nat, k ≤ ps.length ∧ i = .int .i64 k ∧ (ps.take k).all pcOk = true ∧ wr.ownsRow w2.heap.size 41 2 v ((ps.take k).map mkP).length (cl ((ps.take k).map mkP)) ∧ Below w2.heap.size w2 wr) (fun _ i _ => ps.length - (intOf i).toNat)
    case atStart => exact ⟨0, Nat.zero_le _, rfl, rfl, HO.out, HB3.out⟩
    case round =>
      obtain ⟨k, hk, rfl, hx, hown, hnx⟩ := hrel
      have hxl : ((ps.take k).map mkP).length ≤ k := by rw [List.length_map, List.length_take]; exact Nat.min_le_left _ _
      have HX := hide hx
      have HO1 := hide hown
      have HN := hide hnx
      clear hx hown hnx
      by_cases hlt : k < ps.length
      · have hki : (k : Int) < (ps.length : Int) := by omega
        obtain ⟨g, rfl, hg0, hg1, hcell⟩ := HC.out k hlt
        have hc2 : wr.cell? ⟨g, k, none⟩ = some (S ps[k]) := (HN.out.cell (p := ⟨g, k, none⟩) hg1).trans hcell
        have HPK := hide (HPL.out ps[k] (List.getElem_mem hlt))
        have HTW : Hid (Tab wr w1.heap.size 2) := HTB.out.below HN.out
        have HTS : Hid (ps.take (k + 1) = ps.take k ++ [ps[k]]) := List.take_succ_eq_append_getElem hlt
        have HMP : Hid (mkP ps[k] = (⟨(pcName ps[k]).toArray⟩, ⟨(pcVal ps[k]).toArray⟩)) := rfl
        have HFL : Hid (pcOk ps[k] = false → ps.all pcOk = false) := fun h => by
          cases ha : ps.all pcOk with
          | false => rfl
          | true => have := List.all_eq_true.1 ha ps[k] (List.getElem_mem hlt); rw [h] at this; cases this
        clear hcell
        generalize hpe : ps[k] = pc at *
        clear hpe
        go_wp2_with fail
        have hpa := pair_any w1.heap.size ⟨pc.toArray⟩ wr HTW.out (by rw [str_size]; have := HPK.out; omega)
        rw [show (⟨pc.toArray⟩ : ByteArray).data.toList = pc from rfl] at hpa
        refine hpa.mono ?_
        rintro y w4 ⟨rfl, hb4⟩
        have HN4 := hide (HN.out.trans (hb4.mono HN.out.size))
        have HO4 := hide (lst.own_below HO1.out hb4)
        clear hb4 hpa
        cases hok : pcOk pc with
        | true =>
          have HXS : Hid ((ps.take (k + 1)).all pcOk = true) := by
            show _ = _
            rw [HTS.out, List.all_append, HX.out]
            simp [hok]
          go_wp2_with (at_builtin; refine wpList_append_own _ rfl _ _ 37 rfl w2.heap.size 41 i0 (.agg #[.string ⟨#[]⟩, .string ⟨#[]⟩]) 2 32 Tryd.underlying37 hi hz0 hz1 hz2 rfl (by decide) _ _ _ rfl ((HO4.out.alloc _).alloc _) ⟨w4.heap.size + 1, 0, none⟩ 1 1 [S (pcName pc), S (pcVal pc)] rfl rfl (cells_atP _ _ _ _ (by simp)) ?c2 ?c3 ?c4 ?c5 ?_)
          case c2 => first | rfl | (intro u hu; simp at hu; rcases hu with rfl | rfl <;> rfl)
          case c3 => unfold maxLen; omega
          case c4 => omega
          case c5 => have := HN4.out.size; simp; omega
          intro v' w5 hown' hgrow _
          have HN5 := hide (((HN4.out.alloc HN4.out.size (.cells #[S (pcName pc), S (pcVal pc)] 41)).alloc (by have := HN4.out.size; simp; omega) _).grown hgrow (by have := HN4.out.size; simp; omega) (lst.own_ge HO4.out))
          have HO5 : Hid (w5.ownsRow w2.heap.size 41 2 v' ((ps.take (k + 1)).map mkP).length (cl ((ps.take (k + 1)).map mkP))) := by
            show w5.ownsRow _ _ _ _ _ _
            rw [HTS.out, List.map_append, List.length_append, cl_app, List.map_cons, List.map_nil, HMP.out, List.length_map, List.length_take, Nat.min_eq_left hk, List.map_take]; exact hown'
          clear hown' hgrow
          go_wp2
          go_roundw
          case rel => exact ⟨k + 1, by omega, by go_num, HXS.out, HO5.out, HN5.out⟩
          case measure => simp [intOf]; omega
        | false =>
          have HPN := hide (HFL.out hok)
          have hx : ∀ X', Below w2.heap.size w2 X' → X'.cell? ⟨0, 0, none⟩ = some (X ea) := HET.out
          have hx4 := hx _ ((HN4.out.alloc HN4.out.size (.cells #[S (pcName pc), S (pcVal pc)] 41)))
          clear hx
          go_wp2_with fail
          go_region
          all_goals (try go_wp2)
          all_goals go_ret2
          all_goals exact ⟨HB2.out.trans (((HN4.out.alloc HN4.out.size _).drew).mono HB2.out.size), Or.inr (Or.inl ⟨hle, HPN.out, rfl⟩)⟩
      · have hke : k = ps.length := by omega
        have hx2 := HX.out
        have ho2 := HO1.out
        rw [hke, List.take_length] at hx2 ho2
        have HX2 := hide hx2
        have HO2 := hide ho2
        have hkn : ¬ (k : Int) < (ps.length : Int) := by omega
        clear hx2 ho2
        go_wp2_with fail
        go_ret2
        exact ⟨HB2.out.trans (HN.out.mono HB2.out.size), Or.inr (Or.inr ⟨hle, HX2.out, _, rfl, ck_own_mono HO2.out HB2.out.size⟩)⟩

end Go.Proofs.YthhkhpgffamdhaaDoor.fd
