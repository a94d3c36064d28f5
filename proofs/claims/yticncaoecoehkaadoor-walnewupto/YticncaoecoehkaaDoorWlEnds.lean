import Derived.Test.YticncaoecoehkaaDoorWlSound
import Derived.Maps.AppendAt
namespace Go.Proofs.YticncaoecoehkaaDoor.wl
open Go.ChangeShapes Go.WideShapes Go.ChangeAt Go.RowKit Go.Proofs.YticncaoecoehkaaDoor.common Go.Proofs.YticncaoecoehkaaDoor.dk

theorem infoI : (Tryd.prog.info? 3).map (fun i => (i.zero, i.size, i.bytes)) = some (some (.int .i64 0), 1, 8) := by kernel_rfl
/-- where frames end -/
def en (qs : List (List UInt8)) : List Nat := (List.range qs.length).map fun k => (Wl.flat (qs.take (k + 1))).length
theorem en_len (qs : List (List UInt8)) : (en qs).length = qs.length := by simp [en]
theorem en_snoc (qs : List (List UInt8)) (p : List UInt8) : en (qs ++ [p]) = en qs ++ [(Wl.flat (qs ++ [p])).length] := by
  unfold en
  rw [List.length_append, List.length_singleton, List.range_succ, List.map_append]
  congr 1
  · apply List.map_congr_left
    intro k hk
    have hk' : k < qs.length := by simpa using hk
    rw [List.take_append_of_le_length (by omega)]
  · show [(Wl.flat (List.take (qs.length + 1) (qs ++ [p]))).length] = _
    rw [List.take_of_length_le (by simp)]
theorem en_at (qs : List (List UInt8)) (k : Nat) (hk : k < qs.length) : (en qs)[k]'(by rw [en_len]; exact hk) = (Wl.flat (qs.take (k + 1))).length := by simp [en]
abbrev I (n : Nat) : Value := .int .i64 (n : Int)
theorem flat_ge (qs : List (List UInt8)) (hf : ∀ q ∈ qs, Wl.fit q.length = true) : qs.length * 9 ≤ (Wl.flat qs).length := by
  induction qs with
  | nil => simp
  | cons q qs ih =>
    have h1 := ih (fun x hx => hf x (by simp [hx]))
    have h2 := ((Wl.fit_iff _).1 (hf q (by simp))).1
    rw [Wl.flat_cons, List.length_append, Wl.fr_len, List.length_cons]
    omega

set_option maxRecDepth 100000 in
set_option maxHeartbeats 1600000 in
theorem ends_any (w : World) (v : Value) (l : List UInt8) (h : Rc w v l) (hl : l.length ≤ 4398046511104) :
    Calls Tryd.prog 48 #[v] w fun e w' => ∃ v', e = .returned v' ∧ w'.ownsRow w.heap.size 3 1 v' (en (Wl.scan l)).length ((en (Wl.scan l)).map I) ∧ Below w.heap.size w w' := by
  obtain ⟨i0, hi, hz0, hz1, hz2⟩ := info_parts infoI
  have HR := hide h
  obtain ⟨oa, cap, rfl, _, _⟩ := h
  go_enter Tryd.func48, Tryd.ntmps48
  go_wp2
  go_loopw [3, 4] (fun u i wr => ∃ (qs : List (List UInt8)) (r : List UInt8), l = Wl.flat qs ++ r ∧ (∀ q ∈ qs, Wl.fit q.length = true) ∧ i = I (Wl.flat qs).length ∧ wr.ownsRow w.heap.size 3 1 u (en qs).length ((en qs).map I) ∧ Below w.heap.size w wr) (fun _ i _ => l.length - (intOf i).toNat)
  case atStart => exact ⟨[], l, rfl, by simp, rfl, World.ownsRow_nil _ _ _ _, Below.refl _ _⟩
  case round =>
    obtain ⟨qs, r, hlr, hft, rfl, hown, hnx⟩ := hrel
    obtain ⟨e, he⟩ : ∃ e, e = (Wl.flat qs).length := ⟨_, rfl⟩
    have hel : e ≤ l.length := by rw [he, hlr, List.length_append]; omega
    have hrd : l.drop e = r := by rw [he, hlr, List.drop_left]
    have hge := flat_ge qs hft
    have hrl : r.length = l.length - e := by rw [← hrd, List.length_drop]
    have hsz := hnx.size
    rw [← he]
    by_cases hlt : e < l.length
    · have HS := hide (sound_any wr _ l (HR.out.below hnx) hl e hel)
      rw [hrd] at HS
      have k1 : (e : Int) < (l.length : Int) := by omega
      have HO := hide hown
      have HX := hide hnx
      have HLR := hide hlr
      have HFT := hide hft
      have HE := hide he
      have HGE := hide hge
      have HRL := hide hrl
      clear hown hnx hlr hft hrd he hge hrl
      go_wp2_with fail
      refine HS.out.mono ?_
      rintro r' w1 ⟨rfl, b1⟩
      cases hf : Wl.first r with
      | none =>
        have e0 : sndN r = 0 := by unfold sndN; rw [hf]
        rw [e0]
        have HO1 := hide (own_below HO.out b1)
        have HX1 := hide (keepD HX.out b1)
        have HSC : Hid (Wl.scan l = qs) := Wl.scan_eq ⟨HLR.out, HFT.out, hf⟩
        clear e0 b1 hf HS
        go_wp2
        go_ret
        exact ⟨_, rfl, by rw [HSC.out]; exact HO1.out, HX1.out⟩
      | some p =>
        have e0 : sndN r = 8 + p.length := by unfold sndN; rw [hf]
        rw [e0]
        obtain ⟨hpf, hpr⟩ := Wl.first_some hf
        have hple := Wl.first_le hf
        obtain ⟨E, hE⟩ : ∃ E, E = e + (8 + p.length) := ⟨_, rfl⟩
        obtain ⟨m, hm⟩ : ∃ m, m = 8 + p.length := ⟨_, rfl⟩
        have hEi : (e : Int) + (m : Int) = (E : Int) := by omega
        have hEl : E ≤ l.length := by have := HRL.out; omega
        have hm0 : ((m : Int) == 0) = false := by rw [beq_eq_false_iff_ne]; omega
        have hEe : e < E := by omega
        rw [← hm]
        have HO1 := hide (own_below HO.out b1)
        have HX1 := hide (keepD HX.out b1)
        have hs1 := (keepD HX.out b1).size
        have hlen : (en qs).length ≤ 4398046511104 := by rw [en_len]; have := HGE.out; have := HE.out; omega
        have HFL : Hid ((Wl.flat (qs ++ [p])).length = E) := by
          show _ = _
          rw [Wl.flat_snoc, List.length_append, Wl.fr_len, ← HE.out, hE]
        have HX2 : Hid (l = Wl.flat (qs ++ [p]) ++ r.drop (8 + p.length)) := by
          show _ = _
          rw [Wl.flat_snoc, List.append_assoc, ← hpr]; exact HLR.out
        have HFT2 : Hid (∀ q ∈ qs ++ [p], Wl.fit q.length = true) := fun q hq => by
          rcases List.mem_append.1 hq with h | h
          · exact HFT.out q h
          · rw [List.mem_singleton.1 h]; exact hpf
        clear e0 b1 hf HS hpr hpf hple hE hm HO HX HLR HFT
        go_wp2_with (at_builtin; refine wpList_append_own _ rfl _ _ 83 rfl w.heap.size 3 i0 (.int .i64 0) 1 8 Tryd.underlying83 hi hz0 hz1 hz2 rfl (by decide) _ _ _ rfl (HO1.out.alloc _) ⟨w1.heap.size, 0, none⟩ 1 1 [I E] rfl rfl ?c1 ?c2 ?c3 ?c4 ?c5 ?_)
        case c1 => exact cell_one_new _ _ _
        case c2 => intro u hu; simp at hu; subst hu; rfl
        case c3 => unfold maxLen; omega
        case c4 => omega
        case c5 => simp; omega
        intro v' w2 hown' hgrow _
        have R1 : Hid (w2.ownsRow w.heap.size 3 1 v' (en (qs ++ [p])).length ((en (qs ++ [p])).map I)) := by
          show World.ownsRow _ _ _ _ _ _ _
          rw [en_snoc, HFL.out, List.map_append, List.length_append]; exact hown'
        have R2 : Hid (Below w.heap.size w w2) := HX1.out.trans (grown_below _ hs1 HO1.out hgrow)
        clear hown' hgrow HO1
        go_wp2
        go_roundw
        case rel => exact ⟨qs ++ [p], _, HX2.out, HFT2.out, by rw [HFL.out], R1.out, R2.out⟩
        case measure => simp [intOf]; omega
    · have hr0 : r = [] := List.eq_nil_of_length_eq_zero (by omega)
      have HSC : Hid (Wl.scan l = qs) := Wl.scan_eq ⟨hlr, hft, by rw [hr0]; exact Wl.first_nil⟩
      have HO1 := hide hown
      have HX1 := hide hnx
      have k1 : ¬ (e : Int) < (l.length : Int) := by omega
      clear hown hnx hlr hft hrd he hge hrl hr0
      go_wp2
      go_ret
      exact ⟨_, rfl, by rw [HSC.out]; exact HO1.out, HX1.out⟩
end Go.Proofs.YticncaoecoehkaaDoor.wl
