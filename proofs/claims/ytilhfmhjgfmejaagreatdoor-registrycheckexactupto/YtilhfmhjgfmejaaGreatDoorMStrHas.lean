import Derived.Test.YtilhfmhjgfmejaaGreatDoorMRgCh4
import Derived.Test.YtilhfmhjgfmejaaGreatDoorMRgBase
namespace Go.Proofs.YtilhfmhjgfmejaaGreatDoor.rg
open Go.ChangeShapes Go.WideShapes Go.ChangeAt Go.RowKit Go.Proofs.YtilhfmhjgfmejaaGreatDoor.common Go.Maps
attribute [local go_sem ↓] Go.wp_at_zero Go.wp_at_succ

set_option maxRecDepth 100000 in
set_option maxHeartbeats 3200000 in
theorem allU_any (g : Nat) (p : Usr → Bool) (v : Value) (l : List Usr) (w : World) (hL : LiesU w v l) (hl : l.length ≤ 4611686018427387904) (eg : tm.Enters g) (hf : ∀ x ∈ l, ∀ W, Below w.heap.size w W → Calls Tryz.prog g #[.agg #[.string x.name, .string x.salt, .string x.dig]] W fun e w' => e = .returned (.bool (p x)) ∧ Below W.heap.size W w') :
    Calls Tryz.prog 32 #[v, .func (.func g) #[] #[]] w fun e w' => e = .returned (.bool (l.all p)) ∧ Below w.heap.size w w' := by
  obtain ⟨oa, ca, rfl, hc⟩ := hL
  have HC := hide hc
  have HF := hide hf
  have eg' : ∀ args w, (callFunc g args).run Tryz.prog w = .ok (.enter g args) w := eg
  clear hc hf eg
  go_enter Tryz.func32, Tryz.ntmps32
  go_wp2_with fail
  go_loopw [9] (fun i wr => ∃ k : Nat, k ≤ l.length ∧ i = .int .i64 k ∧ Hid ((l.take k).all p = true) ∧ Hid (Below w.heap.size w wr)) (fun i _ => l.length - (intOf i).toNat)
  case atStart => exact ⟨0, Nat.zero_le _, rfl, (by show _ = _; simp), Below.refl _ _⟩
  case round =>
    obtain ⟨k, hk, rfl, HAK, HB⟩ := hrel
    by_cases hlt : k < l.length
    · have k1 : (k : Int) < (l.length : Int) := by omega
      have k0 : (0 : Int) ≤ (k : Int) := Int.natCast_nonneg _
      obtain ⟨b, o, rfl, hb, c0, c1, c2⟩ := HC.out k hlt
      have d0 := (HB.out.cell (p := ⟨b, o + k * 3, none⟩) hb).trans c0
      have d1 := (HB.out.cell (p := ⟨b, o + k * 3 + 1, none⟩) hb).trans c1
      have d2 := (HB.out.cell (p := ⟨b, o + k * 3 + 2, none⟩) hb).trans c2
      have HTK := hide (all_take p l k hlt)
      have HSH := hide (all_short p l (k + 1))
      have HFK := hide (HF.out l[k] (List.getElem_mem hlt))
      generalize l[k] = x at *
      obtain ⟨nm, salt, dig⟩ := x
      dsimp only at d0 d1 d2 HFK
      have HRG : Hid (wr.rangeAt b (o + k * 3) [.string nm, .string salt, .string dig]) := fun j u hu => by
        match j, hu with
        | 0, hu => cases hu; exact d0
        | 1, hu => cases hu; exact d1
        | 2, hu => cases hu; exact d2
      have hX := heap_new wr (.cells #[.string nm, .string salt, .string dig] 47)
      have BX : Below wr.heap.size wr (wr.alloc (.cells #[.string nm, .string salt, .string dig] 47)) := (Below.refl _ _).alloc (Nat.le_refl _) _
      have HBX := hide (keepW HB.out BX)
      have HRX := hide (range_of (l := [.string nm, .string salt, .string dig]) hX)
      have HCL := hide (HFK.out _ HBX.out)
      clear c0 c1 c2 d0 d1 d2 hX BX
      cases hp : p ⟨nm, salt, dig⟩ with
      | true =>
        rw [hp] at HCL
        have HN : Hid ((l.take (k + 1)).all p = true) := by show _ = _; rw [HTK.out, HAK.out, hp]; rfl
        clear hp
        go_wp2_with (first
          | (refine wpList_load_mid rfl 47 _ rfl b (o + k * 3) rfl _ _ HRG.out Tryz.underlying47 rfl sizeUs ?_)
          | (refine wpList_load_mid rfl 47 _ rfl wr.heap.size 0 rfl _ _ HRX.out Tryz.underlying47 rfl sizeUs ?_)
          | (go_at_fn g; refine HCL.out.mono ?_; rintro x w2 ⟨rfl, b2⟩))
        have HB2 := hide (keepW HBX.out b2)
        clear b2
        go_roundw
        case rel => exact ⟨k + 1, by omega, by go_num, HN, HB2⟩
        case measure => simp [intOf]; omega
      | false =>
        rw [hp] at HCL
        have HR : Hid (l.all p = false) := HSH.out (by rw [HTK.out, hp, Bool.and_false])
        clear hp
        go_wp2_with (first
          | (refine wpList_load_mid rfl 47 _ rfl b (o + k * 3) rfl _ _ HRG.out Tryz.underlying47 rfl sizeUs ?_)
          | (refine wpList_load_mid rfl 47 _ rfl wr.heap.size 0 rfl _ _ HRX.out Tryz.underlying47 rfl sizeUs ?_)
          | (go_at_fn g; refine HCL.out.mono ?_; rintro x w2 ⟨rfl, b2⟩))
        have HB2 := hide (keepW HBX.out b2)
        clear b2
        go_ret
        exact ⟨by rw [HR.out] <;> rfl, HB2.out⟩
    · have k1 : ¬ (k : Int) < (l.length : Int) := by omega
      obtain rfl : k = l.length := by omega
      rw [List.take_length] at HAK
      clear hlt hk
      go_wp2_with fail
      go_ret
      exact ⟨by rw [HAK.out] <;> rfl, HB.out⟩

/-- has a client too many addresses or scopes? -/
def tmB (x : Cli) : Bool := decide (8 < x.to.length) || decide (16 < x.sc.length)
set_option maxRecDepth 100000 in
set_option maxHeartbeats 1600000 in
theorem clientHasTooMany_any (x : Cli) (vR vS : Value) (w : World) (hR : ss.Lies w vR x.to) (hS : ss.Lies w vS x.sc) : Calls Tryz.prog 27 #[.agg #[.string x.id, .bool x.pub, .string x.salt, .string x.dig, vR, vS]] w fun e w' => e = .returned (.bool (tmB x)) ∧ Below w.heap.size w w' := by
  obtain ⟨oR, cR, rfl, _⟩ := hR
  obtain ⟨oS, cS, rfl, _⟩ := hS
  obtain ⟨id, pub, salt, dig, tos, sc⟩ := x
  dsimp only
  have hb := heap_new w (cliO ⟨id, pub, salt, dig, tos, sc⟩ (.slice oR tos.length cR) (.slice oS sc.length cS))
  have HB : Hid (Below w.heap.size w (w.alloc (cliO ⟨id, pub, salt, dig, tos, sc⟩ (.slice oR tos.length cR) (.slice oS sc.length cS)))) := (Below.refl _ _).alloc (Nat.le_refl _) _
  have p4 : (w.alloc (cliO ⟨id, pub, salt, dig, tos, sc⟩ (.slice oR tos.length cR) (.slice oS sc.length cS))).cell? ⟨w.heap.size, 4, none⟩ = some (.slice oR tos.length cR) := cell_of hb 4
  have p5 : (w.alloc (cliO ⟨id, pub, salt, dig, tos, sc⟩ (.slice oR tos.length cR) (.slice oS sc.length cS))).cell? ⟨w.heap.size, 5, none⟩ = some (.slice oS sc.length cS) := cell_of hb 5
  have HQ : Hid (tmB ⟨id, pub, salt, dig, tos, sc⟩ = (decide (8 < tos.length) || decide (16 < sc.length))) := rfl
  generalize tmB ⟨id, pub, salt, dig, tos, sc⟩ = t at *
  clear hb
  by_cases h1 : 8 < tos.length
  · have e1 : (8 : Int) < (tos.length : Int) := by omega
    have HT : Hid (t = true) := by show _ = _; rw [HQ.out, decide_eq_true h1]; rfl
    clear h1
    go_enter Tryz.func27, Tryz.ntmps27
    go_wp2
    go_ret
    exact ⟨by rw [HT.out] <;> rfl, HB.out⟩
  · have e1 : ¬ (8 : Int) < (tos.length : Int) := by omega
    by_cases h2 : 16 < sc.length
    · have e2 : (16 : Int) < (sc.length : Int) := by omega
      have HT : Hid (t = true) := by show _ = _; rw [HQ.out, decide_eq_true h2, Bool.or_true]
      clear h1 h2
      go_enter Tryz.func27, Tryz.ntmps27
      go_wp2
      go_ret
      exact ⟨by rw [HT.out] <;> rfl, HB.out⟩
    · have e2 : ¬ (16 : Int) < (sc.length : Int) := by omega
      have HT : Hid (t = false) := by show _ = _; rw [HQ.out, decide_eq_false h1, decide_eq_false h2]; rfl
      clear h1 h2
      go_enter Tryz.func27, Tryz.ntmps27
      go_wp2
      go_ret
      exact ⟨by rw [HT.out] <;> rfl, HB.out⟩
end Go.Proofs.YtilhfmhjgfmejaaGreatDoor.rg

namespace Go.Proofs.YtilhfmhjgfmejaaGreatDoor.ss
open Go.ChangeShapes Go.WideShapes Go.ChangeAt Go.RowKit Go.Proofs.YtilhfmhjgfmejaaGreatDoor.common Go.Proofs.YtilhfmhjgfmejaaGreatDoor.bk
attribute [local go_sem ↓] Go.wp_at_zero Go.wp_at_succ

/-- does x stand in l? -/
def has (x : ByteArray) (l : List ByteArray) : Bool := l.any fun y => y.data.toList == x.data.toList
theorem has_iff {x : ByteArray} {l : List ByteArray} : has x l = true ↔ x ∈ l := by
  unfold has
  rw [List.any_eq_true]
  constructor
  · rintro ⟨y, hy, e⟩
    have : y = x := ba_ext (by simpa using e)
    exact this ▸ hy
  · intro h; exact ⟨x, h, by simp⟩
theorem has_no {x : ByteArray} {l : List ByteArray} (h : ∀ y ∈ l, y ≠ x) : has x l = false := by
  cases e : has x l with
  | false => rfl
  | true => exact absurd rfl (h x (has_iff.1 e))
theorem all_takeS (l : List ByteArray) (p : ByteArray → Bool) (k : Nat) (h : k < l.length) : (l.take (k + 1)).all p = ((l.take k).all p && p l[k]) := by
  rw [takeS l k h, List.all_append]; simp
theorem all_shortS (l : List ByteArray) (p : ByteArray → Bool) (k : Nat) (h : (l.take k).all p = false) : l.all p = false := by
  have e : l.all p = ((l.take k).all p && (l.drop k).all p) := by rw [← List.all_append, List.take_append_drop]
  rw [e, h]; rfl

theorem no_next {x : ByteArray} {l : List ByteArray} {k : Nat} (h : k < l.length) (h0 : ∀ y ∈ l.take k, y ≠ x) (hn : l[k] ≠ x) : ∀ y ∈ l.take (k + 1), y ≠ x := by
  rw [takeS l k h]
  intro y hy
  rcases List.mem_append.1 hy with hy | hy
  · exact h0 y hy
  · simp at hy; subst hy; exact hn

set_option maxRecDepth 100000 in
set_option maxHeartbeats 1600000 in
theorem index_any (v : Value) (l : List ByteArray) (x : ByteArray) (w : World) (hl : Lies w v l) (hs : l.length ≤ 4611686018427387904) :
    Calls Tryz.prog 74 #[v, .string x] w fun e w' => ∃ i : Int, e = .returned (.int .i64 i) ∧ decide (i ≥ 0) = has x l ∧ w' = w := by
  obtain ⟨oa, cap, rfl, hc⟩ := hl
  have HC := hide hc
  clear hc
  go_enter Tryz.func74, Tryz.ntmps74
  go_wp2_with fail
  go_loopw [8] (fun i wr => ∃ k : Nat, k ≤ l.length ∧ i = .int .i64 k ∧ Hid (∀ y ∈ l.take k, y ≠ x) ∧ wr = w) (fun i _ => l.length - (intOf i).toNat)
  case atStart => exact ⟨0, Nat.zero_le _, rfl, fun y h => by simp at h, rfl⟩
  case round =>
    obtain ⟨k, hk, rfl, HN, rfl⟩ := hrel
    by_cases hlt : k < l.length
    · have hki : (k : Int) < (l.length : Int) := by omega
      obtain ⟨b, o, rfl, hb, c0⟩ := HC.out k hlt
      by_cases he : l[k] = x
      · have HM : Hid (has x l = true) := has_iff.2 (he ▸ List.getElem_mem hlt)
        generalize l[k] = p at *
        subst he
        go_wp2_with fail
        go_ret
        exact ⟨k, rfl, by rw [HM.out]; simp, rfl⟩
      · have HN1 := hide (no_next hlt HN.out he)
        have e1 : (x.toList == l[k].toList) = false := ne_list (fun e => he e.symm)
        generalize l[k] = p at *
        go_wp2_with fail
        go_roundw
        case rel => exact ⟨k + 1, by omega, by go_num, HN1, by trivial⟩
        case measure => simp [intOf]; omega
    · obtain rfl : k = l.length := by omega
      have HM : Hid (has x l = false) := by
        have := HN.out
        rw [List.take_length] at this
        exact has_no this
      go_wp2_with fail
      go_ret
      exact ⟨-1, rfl, by rw [HM.out]; rfl, rfl⟩

set_option maxHeartbeats 800000 in
theorem contains_any (v : Value) (l : List ByteArray) (x : ByteArray) (w : World) (hl : Lies w v l) (hs : l.length ≤ 4611686018427387904) :
    Calls Tryz.prog 58 #[v, .string x] w fun e w' => e = .returned (.bool (has x l)) ∧ w' = w := by
  have HI := hide (fun W (h : Lies W v l) => index_any v l x W h hs)
  have HL := hide hl
  clear hl
  go_enter Tryz.func58, Tryz.ntmps58
  go_wp2_with fail
  refine (HI.out _ HL.out).mono ?_
  rintro e w2 ⟨i, rfl, hi, rfl⟩
  have H := hide hi
  clear hi
  by_cases hp : (0 : Int) ≤ i
  · have HR : Hid (has x l = true) := by show _ = _; rw [← H.out]; exact decide_eq_true hp
    go_wp2_with fail
    go_ret
    exact ⟨by rw [HR.out]; rfl, rfl⟩
  · have HR : Hid (has x l = false) := by show _ = _; rw [← H.out]; exact decide_eq_false hp
    go_wp2_with fail
    go_ret
    exact ⟨by rw [HR.out, decide_eq_false (show ¬ (0 : Int) ≤ i by omega)]; rfl, rfl⟩

end Go.Proofs.YtilhfmhjgfmejaaGreatDoor.ss
