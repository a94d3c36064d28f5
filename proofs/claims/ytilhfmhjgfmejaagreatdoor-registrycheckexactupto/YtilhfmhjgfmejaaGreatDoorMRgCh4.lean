import Derived.Test.YtilhfmhjgfmejaaGreatDoorMRgCh3
namespace Go.Proofs.YtilhfmhjgfmejaaGreatDoor.rg
open Go.ChangeShapes Go.WideShapes Go.ChangeAt Go.RowKit Go.Proofs.YtilhfmhjgfmejaaGreatDoor.common Go.Maps
attribute [local go_sem ↓] Go.wp_at_zero Go.wp_at_succ

/-- a function of clients that says p -/
def SaysC (g : Nat) (p : Cli → Bool) (l : List Cli) (w : World) : Prop := ∀ x ∈ l, ∀ W vR vS, Below w.heap.size w W → ss.Lies W vR x.to → ss.Lies W vS x.sc → Calls Tryz.prog g #[.agg #[.string x.id, .bool x.pub, .string x.salt, .string x.dig, vR, vS]] W fun e w' => e = .returned (.bool (p x)) ∧ Below W.heap.size W w'
/-- the same of clients whose addresses' slices are K -/
def SaysP (K : Value → Prop) (g : Nat) (p : Cli → Bool) (l : List Cli) (w : World) : Prop := ∀ x ∈ l, ∀ W vR vS, Below w.heap.size w W → ss.Lies W vR x.to → ss.Lies W vS x.sc → K vR → Calls Tryz.prog g #[.agg #[.string x.id, .bool x.pub, .string x.salt, .string x.dig, vR, vS]] W fun e w' => e = .returned (.bool (p x)) ∧ Below W.heap.size W w'
/-- the slices of the addresses of clients in a row are K -/
def KeepsC (K : Value → Prop) (w : World) (v : Value) (l : List Cli) : Prop := ∀ i, i < l.length → ∀ b o n cap vR, v = .slice (some ⟨b, o, none⟩) n cap → w.cell? ⟨b, o + i * 6 + 4, none⟩ = some vR → K vR
theorem KeepsC.below {K : Value → Prop} {w w' : World} {v : Value} {l : List Cli} (h : KeepsC K w v l) (hL : LiesC w v l) (hb : Below w.heap.size w w') : KeepsC K w' v l := by
  intro i hi b o n cap vR hv hc
  obtain ⟨oa, ca, hv', hcs⟩ := hL
  obtain ⟨b', o', vR', vS', ho, hlt, hca⟩ := hcs i hi
  have hv2 := hv
  rw [hv'] at hv2
  cases hv2
  cases ho
  exact h i hi b o _ _ vR hv ((hb.cell (p := ⟨b, o + i * 6 + 4, none⟩) hlt).symm.trans hc)
theorem all_take {α : Type} (p : α → Bool) (l : List α) (k : Nat) (h : k < l.length) : (l.take (k + 1)).all p = ((l.take k).all p && p l[k]) := by
  rw [List.take_succ_eq_append_getElem h, List.all_append]; simp
theorem all_short {α : Type} (p : α → Bool) (l : List α) (k : Nat) (h : (l.take k).all p = false) : l.all p = false := by
  have : l.all p = ((l.take k).all p && (l.drop k).all p) := by rw [← List.all_append, List.take_append_drop]
  rw [this, h]; rfl
theorem any_at {α : Type} (p : α → Bool) (l : List α) (k : Nat) (h : k < l.length) (hp : p l[k] = true) : l.any p = true := List.any_eq_true.2 ⟨_, List.getElem_mem h, hp⟩
theorem any_take {α : Type} (p : α → Bool) (l : List α) (k : Nat) (h : k < l.length) : (l.take (k + 1)).any p = ((l.take k).any p || p l[k]) := by
  rw [List.take_succ_eq_append_getElem h, List.any_append]; simp

set_option maxRecDepth 100000 in
set_option maxHeartbeats 3200000 in
theorem allC_any (g : Nat) (p : Cli → Bool) (v : Value) (l : List Cli) (w : World) (hL : LiesC w v l) (hl : l.length ≤ 4611686018427387904) (eg : tm.Enters g) (hf : SaysC g p l w) :
    Calls Tryz.prog 30 #[v, .func (.func g) #[] #[]] w fun e w' => e = .returned (.bool (l.all p)) ∧ Below w.heap.size w w' := by
  obtain ⟨oa, ca, rfl, hc⟩ := hL
  have HC := hide hc
  have HF := hide hf
  have eg' : ∀ args w, (callFunc g args).run Tryz.prog w = .ok (.enter g args) w := eg
  clear hc hf eg
  go_enter Tryz.func30, Tryz.ntmps30
  go_wp2_with fail
  go_loopw [9] (fun i wr => ∃ k : Nat, k ≤ l.length ∧ i = .int .i64 k ∧ Hid ((l.take k).all p = true) ∧ Hid (Below w.heap.size w wr)) (fun i _ => l.length - (intOf i).toNat)
  case atStart => exact ⟨0, Nat.zero_le _, rfl, (by show _ = _; simp), Below.refl _ _⟩
  case round =>
    obtain ⟨k, hk, rfl, HAK, HB⟩ := hrel
    by_cases hlt : k < l.length
    · have k1 : (k : Int) < (l.length : Int) := by omega
      have k0 : (0 : Int) ≤ (k : Int) := Int.natCast_nonneg _
      obtain ⟨b, o, vR, vS, rfl, hb, hca⟩ := HC.out k hlt
      have hcb := hca.below HB.out hb
      have HTK := hide (all_take p l k hlt)
      have HSH := hide (all_short p l (k + 1))
      have HFK := hide (HF.out l[k] (List.getElem_mem hlt))
      generalize l[k] = x at *
      obtain ⟨_, _, _, _, _, _, hlr, hls⟩ := hcb
      have HLR := hide hlr
      have HLS := hide hls
      obtain ⟨oR, cR, rfl, _⟩ := hlr
      obtain ⟨oS, cS, rfl, _⟩ := hls
      have HRG := hide (CAt.range (hca.below HB.out hb))
      obtain ⟨id, pub, salt, dig, tos, sc⟩ := x
      have hX := heap_new wr (cliO ⟨id, pub, salt, dig, tos, sc⟩ (.slice oR tos.length cR) (.slice oS sc.length cS))
      have BX : Below wr.heap.size wr (wr.alloc (cliO ⟨id, pub, salt, dig, tos, sc⟩ (.slice oR tos.length cR) (.slice oS sc.length cS))) := (Below.refl _ _).alloc (Nat.le_refl _) _
      have HBX := hide (keepW HB.out BX)
      have HRX := hide (range_of (l := [.string id, .bool pub, .string salt, .string dig, .slice oR tos.length cR, .slice oS sc.length cS]) hX)
      have HCL := hide (HFK.out _ _ _ HBX.out (HLR.out.below BX) (HLS.out.below BX))
      dsimp only [c1] at HRG HCL
      clear hca hX BX
      cases hp : p ⟨id, pub, salt, dig, tos, sc⟩ with
      | true =>
        rw [hp] at HCL
        have HN : Hid ((l.take (k + 1)).all p = true) := by show _ = _; rw [HTK.out, HAK.out, hp]; rfl
        clear hp
        go_wp2_with (first
          | (refine wpList_load_mid rfl 45 _ rfl b (o + k * 6) rfl _ _ HRG.out Tryz.underlying45 rfl sizeCl ?_)
          | (refine wpList_load_mid rfl 45 _ rfl wr.heap.size 0 rfl _ _ HRX.out Tryz.underlying45 rfl sizeCl ?_)
          | (go_at_fn g; refine HCL.out.mono ?_; rintro x w2 ⟨rfl, b2⟩))
        have HB2 := hide (keepW HBX.out b2)
        clear b2
        go_roundw
        case rel => exact ⟨k + 1, by omega, by go_num, HN, HB2⟩
        case measure => simp [intOf]; omega
      | false =>
        rw [hp] at HCL
        have HR : Hid (l.all p = false) := HSH.out (by rw [HTK.out, hp, Bool.and_false])
        clear hp
        go_wp2_with (first
          | (refine wpList_load_mid rfl 45 _ rfl b (o + k * 6) rfl _ _ HRG.out Tryz.underlying45 rfl sizeCl ?_)
          | (refine wpList_load_mid rfl 45 _ rfl wr.heap.size 0 rfl _ _ HRX.out Tryz.underlying45 rfl sizeCl ?_)
          | (go_at_fn g; refine HCL.out.mono ?_; rintro x w2 ⟨rfl, b2⟩))
        have HB2 := hide (keepW HBX.out b2)
        clear b2
        go_ret
        exact ⟨by rw [HR.out] <;> rfl, HB2.out⟩
    · have k1 : ¬ (k : Int) < (l.length : Int) := by omega
      obtain rfl : k = l.length := by omega
      rw [List.take_length] at HAK
      clear hlt hk
      go_wp2_with fail
      go_ret
      exact ⟨by rw [HAK.out] <;> rfl, HB.out⟩

def IxC (t : Bool) (n : Int) : Prop := (t = true → 0 ≤ n) ∧ (t = false → n < 0)
set_option maxRecDepth 100000 in
set_option maxHeartbeats 3200000 in
theorem containsP_any (g : Nat) (p : Cli → Bool) (K : Value → Prop) (v : Value) (l : List Cli) (w : World) (hL : LiesC w v l) (hK : KeepsC K w v l) (hl : l.length ≤ 4611686018427387904) (eg : tm.Enters g) (hf : SaysP K g p l w) :
    Calls Tryz.prog 26 #[v, .func (.func g) #[] #[]] w fun e w' => e = .returned (.bool (l.any p)) ∧ Below w.heap.size w w' := by
  have HIX : Hid (Calls Tryz.prog 50 #[v, .func (.func g) #[] #[]] w fun e w' => ∃ n : Int, e = .returned (.int .i64 n) ∧ IxC (l.any p) n ∧ Below w.heap.size w w') := by
    obtain ⟨oa, ca, rfl, hc⟩ := hL
    have HC := hide hc
    have HF := hide hf
    have HK := hide hK
    have eg' : ∀ args w, (callFunc g args).run Tryz.prog w = .ok (.enter g args) w := eg
    clear hc hf eg hK
    show Calls _ _ _ _ _
    go_enter Tryz.func50, Tryz.ntmps50
    go_wp2_with fail
    go_loopw [8] (fun i wr => ∃ k : Nat, k ≤ l.length ∧ i = .int .i64 k ∧ Hid ((l.take k).any p = false) ∧ Hid (Below w.heap.size w wr)) (fun i _ => l.length - (intOf i).toNat)
    case atStart => exact ⟨0, Nat.zero_le _, rfl, (by show _ = _; simp), Below.refl _ _⟩
    case round =>
      obtain ⟨k, hk, rfl, HAK, HB⟩ := hrel
      by_cases hlt : k < l.length
      · have k1 : (k : Int) < (l.length : Int) := by omega
        have k0 : (0 : Int) ≤ (k : Int) := Int.natCast_nonneg _
        obtain ⟨b, o, vR, vS, rfl, hb, hca⟩ := HC.out k hlt
        have hcb := hca.below HB.out hb
        have HTK := hide (any_take p l k hlt)
        have HAT := hide (any_at p l k hlt)
        have HFK := hide (HF.out l[k] (List.getElem_mem hlt))
        generalize l[k] = x at *
        obtain ⟨_, _, _, _, _, _, hlr, hls⟩ := hcb
        have HCL := hide (HFK.out wr _ _ HB.out hlr hls (HK.out k hlt b o _ _ vR rfl hca.2.2.2.2.1))
        have HRG := hide (CAt.range (hca.below HB.out hb))
        obtain ⟨oR, cR, rfl, _⟩ := hlr
        obtain ⟨oS, cS, rfl, _⟩ := hls
        obtain ⟨id, pub, salt, dig, tos, sc⟩ := x
        dsimp only [c1] at HRG HCL
        clear hca
        cases hp : p ⟨id, pub, salt, dig, tos, sc⟩ with
        | true =>
          rw [hp] at HCL
          have HR : Hid (l.any p = true) := HAT.out hp
          clear hp
          go_wp2_with (first
            | (refine wpList_load_mid rfl 45 _ rfl b (o + k * 6) rfl _ _ HRG.out Tryz.underlying45 rfl sizeCl ?_)
            | (go_at_fn g; refine HCL.out.mono ?_; rintro x w2 ⟨rfl, b2⟩))
          have HB2 := hide (keepW HB.out b2)
          clear b2
          go_ret
          exact ⟨(k : Int), rfl, by rw [HR.out]; exact ⟨fun _ => Int.natCast_nonneg _, fun h => (by cases h)⟩, HB2.out⟩
        | false =>
          rw [hp] at HCL
          have HN : Hid ((l.take (k + 1)).any p = false) := by show _ = _; rw [HTK.out, HAK.out, hp]; rfl
          clear hp
          go_wp2_with (first
            | (refine wpList_load_mid rfl 45 _ rfl b (o + k * 6) rfl _ _ HRG.out Tryz.underlying45 rfl sizeCl ?_)
            | (go_at_fn g; refine HCL.out.mono ?_; rintro x w2 ⟨rfl, b2⟩))
          have HB2 := hide (keepW HB.out b2)
          clear b2
          go_roundw
          case rel => exact ⟨k + 1, by omega, by go_num, HN, HB2⟩
          case measure => simp [intOf]; omega
      · have k1 : ¬ (k : Int) < (l.length : Int) := by omega
        obtain rfl : k = l.length := by omega
        rw [List.take_length] at HAK
        clear hlt hk
        go_wp2_with fail
        go_ret
        exact ⟨-1, rfl, by rw [HAK.out]; exact ⟨fun h => (by cases h), fun _ => (by decide)⟩, HB.out⟩
  obtain ⟨oa, ca, rfl, _⟩ := hL
  clear hf eg hK
  generalize l.any p = t at *
  go_enter Tryz.func26, Tryz.ntmps26
  go_wp2_with fail
  refine HIX.out.mono ?_
  rintro x w2 ⟨n, rfl, ⟨h1, h2⟩, b2⟩
  have HB := hide b2
  cases t with
  | true =>
    have hn : 0 ≤ n := h1 rfl
    clear h1 h2 b2
    go_wp2_with fail
    go_ret
    exact ⟨rfl, HB.out⟩
  | false =>
    have hn : decide (0 ≤ n) = false := decide_eq_false (by have := h2 rfl; omega)
    clear h1 h2 b2
    go_wp2_with fail
    go_ret
    exact ⟨by rw [← hn] <;> rfl, HB.out⟩
theorem containsC_any (g : Nat) (p : Cli → Bool) (v : Value) (l : List Cli) (w : World) (hL : LiesC w v l) (hl : l.length ≤ 4611686018427387904) (eg : tm.Enters g) (hf : SaysC g p l w) :
    Calls Tryz.prog 26 #[v, .func (.func g) #[] #[]] w fun e w' => e = .returned (.bool (l.any p)) ∧ Below w.heap.size w w' :=
  containsP_any g p (fun _ => True) v l w hL (fun _ _ _ _ _ _ _ _ _ => trivial) hl eg (fun x hx W vR vS h1 h2 h3 _ => hf x hx W vR vS h1 h2 h3)
end Go.Proofs.YtilhfmhjgfmejaaGreatDoor.rg
