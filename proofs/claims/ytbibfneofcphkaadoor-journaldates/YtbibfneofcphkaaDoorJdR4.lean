import Derived.Test.YtbibfneofcphkaaDoorJdW1
import Derived.Maps.AppendAt
namespace Go.Proofs.YtbibfneofcphkaaDoor.jc
open Go.ChangeShapes Go.WideShapes Go.ChangeAt Go.RowKit Go.Proofs.YtbibfneofcphkaaDoor.common Go.Proofs.YtbibfneofcphkaaDoor.Jc

abbrev B (c : UInt8) : Value := .int .u8 (c.toNat : Int)
theorem info8 : (Tryd.prog.info? 5).map (fun i => (i.zero, i.size, i.bytes)) = some (some (.int .u8 0), 1, 1) := by kernel_rfl
theorem own_geJ {w : World} {base : Nat} {e : TypeId} {size : Nat} {v : Value} {n : Nat} {xs : List Value} (h : w.ownsRow base e size v n xs) : ∀ b, v.ownBlock = some b → base ≤ b := by
  intro b hb
  rcases h.2 with ⟨h1, _⟩ | ⟨g, cap, cur, rfl, hg, _⟩
  · rcases h1 with rfl <;> cases hb
  · simp [Value.ownBlock] at hb; omega
/-- one of one's own is written -/
theorem own_upd {w : World} {base : Nat} {e : TypeId} {v : Value} {n : Nat} {xs : List Value} (h : w.ownsRow base e 1 v n xs) {g cap : Nat} (hv : v = .slice (some ⟨g, 0, none⟩) n cap) (hn : 0 < n) (j : Nat) (x : Value) : (w.setCell ⟨g, j, none⟩ x).ownsRow base e 1 v n (xs.set j x) := by
  refine ⟨by rw [List.length_set]; exact h.1, ?_⟩
  rcases h.2 with ⟨_, h0⟩ | ⟨g', cap', cur, hv', hb, hc, h1, h2, h3, h4⟩
  · omega
  · rw [hv] at hv'
    cases hv'
    refine Or.inr ⟨g, cap, cur.setIfInBounds j x, hv, hb, ?_, h1, h2, by simpa using h3, ?_⟩
    · simp [World.setCell, Array.getElem?_modify, hc]
    · rw [Array.toList_setIfInBounds, List.take_set, h4]
theorem own_at {w : World} {base : Nat} {e : TypeId} {v : Value} {n : Nat} {xs : List Value} (h : w.ownsRow base e 1 v n xs) (hn : 0 < n) : ∃ g cap, v = .slice (some ⟨g, 0, none⟩) n cap ∧ base ≤ g ∧ n ≤ cap ∧ (∀ j, j < n → ∃ u, w.cell? ⟨g, j, none⟩ = some u) ∧ ∀ j, w.frozen? ⟨g, j, none⟩ = false := by
  have hl := h.1
  rcases h.2 with ⟨_, h0⟩ | ⟨g, cap, cur, hv, hb, hc, h1, h2, h3, h4⟩
  · omega
  · refine ⟨g, cap, hv, hb, h1, fun j hj => ?_, fun j => by simp [World.frozen?, hc]⟩
    have : j < cur.size := by omega
    exact ⟨cur[j], by simp [World.cell?, hc, this]⟩
theorem rep_set (j : Nat) (suf : List UInt8) (c : UInt8) : ((List.replicate (j + 1) 48 ++ suf).map B).set j (B c) = (List.replicate j 48 ++ c :: suf).map B := by
  rw [List.replicate_succ', List.append_assoc, List.map_append, List.set_append_right _ _ (by simp)]
  simp
theorem conv_ownJ {w : World} {base : Nat} {e : TypeId} {v : Value} {l : List UInt8} {n : Nat} (h : w.ownsRow base e 1 v n (l.map B)) (hn : l.length = n) (h0 : 0 < n) :
    (convert 88 9 v).run Tryd.prog w = .ok (.string (tx l)) w := by
  subst hn
  rcases h.2 with ⟨rfl, h0'⟩ | ⟨g, cap, cur, rfl, hg, hh, hn, _, hsz, htk⟩
  · omega
  · refine run_convert_bytes_back (P := Tryd.prog) w 88 9 5 ⟨g, 0, none⟩ cap l Tryd.underlying88 Tryd.underlying5 Tryd.underlying9 ?_
    intro j hj
    rw [Addr.add_mid, Nat.zero_add]
    have : (cur.toList.take (l.length * 1))[j]? = (l.map B)[j]? := by rw [htk]
    rw [List.getElem?_take_of_lt (by omega)] at this
    simp only [World.cell?, hh]
    simp [hj] at this
    simpa using this
theorem rep_snoc (j : Nat) : (List.replicate (j + 1) (48 : UInt8)).map B = (List.replicate j (48 : UInt8)).map B ++ [.int .u8 48] := by
  rw [List.replicate_succ', List.map_append]; rfl

set_option maxRecDepth 100000 in
set_option maxHeartbeats 3200000 in
theorem refDigits_any (k n : Nat) (w : World) (k0 : 1 ≤ k) (k1 : k ≤ 8) (hn : n ≤ 1000000000) :
    Calls Tryd.prog 53 #[.int .i64 (n : Int), .int .i64 (k : Int)] w fun e w' => e = .returned (.string (tx (dg k n))) ∧ Below w.heap.size w w' := by
  obtain ⟨i0, hi, hz0, hz1, hz2⟩ := info_parts info8
  obtain ⟨R, hR⟩ : ∃ R, R = dg k n := ⟨_, rfl⟩
  rw [← hR]
  have HR := hide hR
  clear hR
  go_enter Tryd.func53, Tryd.ntmps53
  go_wp2_with fail
  go_loopw [5, 6] (fun v u wr => ∃ i : Nat, u = .int .i64 (i : Int) ∧ i ≤ k ∧ wr.ownsRow w.heap.size 5 1 v i ((List.replicate i (48 : UInt8)).map B) ∧ Below w.heap.size w wr) (fun _ u _ => 9 - (intOf u).toNat)
  case atStart => exact ⟨0, rfl, by omega, World.ownsRow_nil _ _ _ _, Below.refl _ _⟩
  case round =>
    obtain ⟨i, rfl, ik, hown, hnx⟩ := hrel
    have hsz := hnx.size
    by_cases hik : i < k
    · have hii : (i : Int) < (k : Int) := by omega
      have Hv : Hid (Value.int .i64 (wrap64 ((i : Int) + 1)) = .int .i64 ((i + 1 : Nat) : Int)) := by show _ = _; rw [wrp _ ⟨by omega, by omega⟩]; rfl
      go_wp2_with (at_builtin; refine wpList_append_own _ rfl _ _ 88 rfl w.heap.size 5 i0 (.int .u8 0) 1 1 Tryd.underlying88 hi hz0 hz1 hz2 rfl (by decide) _ _ _ rfl (hown.alloc _) ⟨wr.heap.size, 0, none⟩ 1 1 [.int .u8 48] rfl rfl ?c1 ?c2 ?c3 ?c4 ?c5 ?_)
      case c1 => exact cell_one_new _ _ _
      case c2 => intro u hu; simp at hu; subst hu; rfl
      case c3 => unfold maxLen; omega
      case c4 => omega
      case c5 => simp; omega
      intro v' w1 hown' hgrow _
      have R1 : w1.ownsRow w.heap.size 5 1 v' (i + 1) ((List.replicate (i + 1) (48 : UInt8)).map B) := by
        rw [rep_snoc, List.map_replicate]; exact hown'
      have R2 : Below w.heap.size w w1 := by
        refine (hnx.alloc hsz _).grown hgrow (by simp; omega) ?_
        exact fun b hb => (hown.lt b hb).1
      clear hown' hgrow hown hnx
      have H1 := hide R1
      have H2 := hide R2
      clear R1 R2
      go_wp2_with fail
      go_roundw
      case rel => exact ⟨i + 1, by first | exact Hv.out | go_num, by omega, H1.out, H2.out⟩
      case measure => simp [intOf]; omega
    · have ek : i = k := by omega
      subst ek
      have hii : ¬ ((i : Int) < (i : Int)) := by omega
      clear hik
      have H1 := hide hown
      have H2 := hide hnx
      obtain ⟨g, cap, hv, hg, hcap, _, _⟩ := own_at hown (by omega)
      subst hv
      have HG := hide hg
      clear hown hnx hsz hg
      have wk1 : wrap64 ((i : Int) - 1) = (i : Int) - 1 := wrp _ ⟨by omega, by omega⟩
      generalize wr = W1 at *
      go_wp2_with fail
      go_loopw [0, 7] (fun a u wr => ∃ (q j : Nat) (suf : List UInt8), a = .int .i64 (q : Int) ∧ u = .int .i64 ((j : Int) - 1) ∧ j ≤ i ∧ q ≤ 1000000000 ∧ Hid (j + suf.length = i ∧ R = dg j q ++ suf) ∧ Hid (wr.ownsRow w.heap.size 5 1 (.slice (some ⟨g, 0, none⟩) i cap) i ((List.replicate j (48 : UInt8) ++ suf).map B)) ∧ Hid (Below w.heap.size w wr)) (fun _ u _ => (intOf u + 1).toNat)
      case atStart => exact ⟨n, i, [], rfl, rfl, Nat.le_refl _, hn, ⟨rfl, by rw [HR.out]; simp⟩, by rw [List.append_nil]; exact H1, H2⟩
      case round =>
        obtain ⟨q, j, suf, rfl, rfl, ji, hq, HS, HO, HB⟩ := hrel
        by_cases hj : 0 < j
        · obtain ⟨j, rfl⟩ : ∃ j', j = j' + 1 := ⟨j - 1, by omega⟩
          obtain ⟨g2, cap2, hv2, _, _, hcell, hfz⟩ := own_at HO.out (by omega)
          cases hv2
          obtain ⟨u0, hu0⟩ := hcell j (by omega)
          have hf0 := hfz j
          have ej : ((j + 1 : Nat) : Int) - 1 = (j : Int) := by omega
          have eq10 : (q : Int).tmod 10 = ((q % 10 : Nat) : Int) := tmodN q 10
          have ed10 : (q : Int).tdiv 10 = ((q / 10 : Nat) : Int) := tdivN q 10
          have ec : (UInt8.ofNat (48 + q % 10)).toNat = 48 + q % 10 := by rw [UInt8.toNat_ofNat']; omega
          have HO2 := hide (own_upd HO.out rfl (by omega) j (B (UInt8.ofNat (48 + q % 10))))
          rw [rep_set] at HO2
          have HS2 : Hid (j + (UInt8.ofNat (48 + q % 10) :: suf).length = i ∧ R = dg j (q / 10) ++ UInt8.ofNat (48 + q % 10) :: suf) := by
            refine ⟨by have := HS.out.1; simp; omega, ?_⟩
            rw [HS.out.2, dg]; simp
          have HB2 : Hid (Below w.heap.size w (wr.setCell ⟨g, j, none⟩ (B (UInt8.ofNat (48 + q % 10))))) := HB.out.setCell (by simpa using HG.out) _
          unfold B at HO2 HB2
          have ecast : ((48 + q % 10 : Nat) : Int) = 48 + ((q % 10 : Nat) : Int) := by omega
          rw [ec, ecast] at HO2 HB2
          have q10 : q % 10 < 10 := Nat.mod_lt _ (by decide)
          have qd : q / 10 ≤ q := Nat.div_le_self _ _
          have j8 : j < i := by omega
          rw [ej]
          clear HO HS HB hcell hfz ej ec ecast
          generalize UInt8.ofNat (48 + q % 10) = ch at *
          generalize q % 10 = r at *
          generalize q / 10 = qq at *
          go_wp2_with fail
          refine ⟨⟨qq, j, ch :: suf, rfl, rfl, by omega, by omega, HS2, HO2, HB2⟩, ?_⟩
          simp [intOf]
        · obtain rfl : j = 0 := by omega
          have eR : R = suf := by rw [HS.out.2]; rfl
          have hlen : suf.length = i := by have := HS.out.1; omega
          have HC := conv_ownJ (l := suf) HO.out hlen k0
          rw [← eR] at HC
          have e0 : ((0 : Nat) : Int) - 1 = -1 := by omega
          rw [e0]
          clear HO HS hj e0 eR hlen
          go_wp2_with fail
          go_ret
          exact ⟨rfl, HB.out⟩
end Go.Proofs.YtbibfneofcphkaaDoor.jc
