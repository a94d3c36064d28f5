import Derived.Test.YtilhfmhjgfmejaaGreatDoorMRgSame
import Derived.Test.YtilhfmhjgfmejaaGreatDoorMTmNames
import Derived.Test.YtilhfmhjgfmejaaGreatDoorMTmScopes
import Derived.Test.YtilhfmhjgfmejaaGreatDoorMTmRed
import Derived.Deep.RegionHeld3
namespace Go.Proofs.YtilhfmhjgfmejaaGreatDoor.rg
open Go.ChangeShapes Go.WideShapes Go.ChangeAt Go.RowKit Go.Proofs.YtilhfmhjgfmejaaGreatDoor.common Go.Maps
attribute [local go_sem ↓] Go.wp_at_zero Go.wp_at_succ

/-- may a salt and a digest be so? -/
def seB (a b : ByteArray) : Bool := decide (a ≠ ⟨#[]⟩) && (decide (a.size ≤ 64) && decide (b.size = 32))
def nmB (s : ByteArray) : Bool := Tm.word 64 (Tm.btw 33 126) s.data.toList
def rdB (s : ByteArray) : Bool := tm.redL s.data.toList
/-- a scope, alone -/
def oneSc (s : ByteArray) : Bool := tm.areSc s && !tm.many s && decide (tm.scL s = [s])
def csB (x : Cli) : Bool := if x.pub then decide (x.salt = ⟨#[]⟩) && decide (x.dig = ⟨#[]⟩) else seB x.salt x.dig
def cliB (x : Cli) : Bool := nmB x.id && (csB x && (decide (0 < x.to.length) && (x.to.all rdB && (decide (0 < x.sc.length) && (x.sc.all oneSc && rc.risB x.sc)))))
def usrB (u : Usr) : Bool := nmB u.name && seB u.salt u.dig
theorem emp_f {s : ByteArray} (h : s ≠ ⟨#[]⟩) : s.toList.isEmpty = false := (tm.word_ne h).2.2
theorem emp_t {s : ByteArray} (h : s = ⟨#[]⟩) : s.toList.isEmpty = true := by rw [h, ByteArray.toList_eq]; rfl

set_option maxRecDepth 100000 in
set_option maxHeartbeats 1600000 in
theorem isSecret_any (a b : ByteArray) (w : World) : Calls Tryz.prog 57 #[.agg #[.string a, .string b]] w fun e w' => e = .returned (.bool (seB a b)) ∧ Below w.heap.size w w' := by
  have HB : Hid (Below w.heap.size w (w.alloc (.cells #[.string a, .string b] 42))) := (Below.refl _ _).alloc (Nat.le_refl _) _
  have HS : Hid (seB a b = (decide (a ≠ ⟨#[]⟩) && (decide (a.size ≤ 64) && decide (b.size = 32)))) := rfl
  generalize seB a b = t at *
  by_cases h0 : a = ⟨#[]⟩
  · have e0 := emp_t h0
    have HT : Hid (t = false) := by show t = false; rw [HS.out, decide_eq_false (fun h => h h0)]; rfl
    clear h0
    go_enter Tryz.func57, Tryz.ntmps57
    go_wp2
    go_ret
    exact ⟨by rw [HT.out] <;> rfl, HB.out⟩
  · have e0 := emp_f h0
    have HD : Hid (decide (a ≠ ⟨#[]⟩) = true) := decide_eq_true h0
    clear h0
    by_cases h1 : a.size ≤ 64
    · have e1 : (a.size : Int) ≤ 64 := by omega
      by_cases h2 : b.size = 32
      · have e2 : ((b.size : Int) == 32) = true := by rw [h2]; rfl
        have HT : Hid (t = true) := by show t = true; rw [HS.out, HD.out, decide_eq_true h1, decide_eq_true h2]; rfl
        clear h2
        go_enter Tryz.func57, Tryz.ntmps57
        go_wp2
        go_ret
        exact ⟨by rw [HT.out] <;> rfl, HB.out⟩
      · have e2 : ((b.size : Int) == 32) = false := beq_false_of_ne (by omega)
        have HT : Hid (t = false) := by show t = false; rw [HS.out, HD.out, decide_eq_true h1, decide_eq_false h2]; rfl
        clear h2
        go_enter Tryz.func57, Tryz.ntmps57
        go_wp2
        go_ret
        exact ⟨by rw [HT.out] <;> rfl, HB.out⟩
    · have e1 : ¬ (a.size : Int) ≤ 64 := by omega
      have HT : Hid (t = false) := by show t = false; rw [HS.out, HD.out, decide_eq_false h1]; rfl
      go_enter Tryz.func57, Tryz.ntmps57
      go_wp2
      go_ret
      exact ⟨by rw [HT.out] <;> rfl, HB.out⟩

set_option maxRecDepth 100000 in
set_option maxHeartbeats 3200000 in
/-- all of a list of texts pass -/
theorem allS_any (g : Nat) (p : ByteArray → Bool) (v : Value) (l : List ByteArray) (w : World) (hL : ss.Lies w v l) (hl : l.length ≤ 4611686018427387904) (eg : tm.Enters g) (hf : ∀ s ∈ l, ∀ W, Below w.heap.size w W → Calls Tryz.prog g #[.string s] W fun e w' => e = .returned (.bool (p s)) ∧ Below W.heap.size W w') :
    Calls Tryz.prog 53 #[v, .func (.func g) #[] #[]] w fun e w' => e = .returned (.bool (l.all p)) ∧ Below w.heap.size w w' := by
  obtain ⟨oa, ca, rfl, hc⟩ := hL
  have HC := hide hc
  have HF := hide hf
  have eg' : ∀ args w, (callFunc g args).run Tryz.prog w = .ok (.enter g args) w := eg
  have HT : Hid (∀ k (h : k < l.length), (l.take (k + 1)).all p = ((l.take k).all p && p l[k])) := fun k h => by show _ = _; rw [List.take_succ_eq_append_getElem h, List.all_append]; simp
  have HA : Hid (∀ k, (l.take k).all p = false → l.all p = false) := fun k h => by
    have : l.all p = ((l.take k).all p && (l.drop k).all p) := by rw [← List.all_append, List.take_append_drop]
    rw [this, h]; rfl
  clear hc hf eg
  go_enter Tryz.func53, Tryz.ntmps53
  go_wp2_with fail
  go_loopw [9] (fun i wr => ∃ k : Nat, k ≤ l.length ∧ i = .int .i64 k ∧ Hid ((l.take k).all p = true) ∧ Hid (Below w.heap.size w wr)) (fun i _ => l.length - (intOf i).toNat)
  case atStart => exact ⟨0, Nat.zero_le _, rfl, (by show _ = _; simp), Below.refl _ _⟩
  case round =>
    obtain ⟨k, hk, rfl, HAK, HB⟩ := hrel
    by_cases hlt : k < l.length
    · have k1 : (k : Int) < (l.length : Int) := by omega
      have k0 : (0 : Int) ≤ (k : Int) := Int.natCast_nonneg _
      obtain ⟨b, o, rfl, hb, c0⟩ := HC.out k hlt
      have d0 := (HB.out.cell (p := ⟨b, o + k, none⟩) hb).trans c0
      have HTK := hide (HT.out k hlt)
      have HFK := hide (HF.out l[k] (List.getElem_mem hlt) wr HB.out)
      generalize l[k] = s at *
      clear c0
      cases hp : p s with
      | true =>
        have HP := hide hp
        have HN : Hid ((l.take (k + 1)).all p = true) := by show _ = _; rw [HTK.out, HAK.out, hp]; rfl
        clear hp
        go_wp2_with (go_at_fn g; refine HFK.out.mono ?_; rintro x w2 ⟨rfl, b2⟩; rw [HP.out])
        have HB2 := hide (HB.out.trans (b2.mono HB.out.size))
        clear b2
        go_roundw
        case rel => exact ⟨k + 1, by omega, by go_num, HN, HB2⟩
        case measure => simp [intOf]; omega
      | false =>
        have HP := hide hp
        have HR : Hid (l.all p = false) := HA.out (k + 1) (by rw [HTK.out, hp, Bool.and_false])
        clear hp
        go_wp2_with (go_at_fn g; refine HFK.out.mono ?_; rintro x w2 ⟨rfl, b2⟩; rw [HP.out])
        have HB2 := hide (HB.out.trans (b2.mono HB.out.size))
        clear b2
        go_ret
        exact ⟨by rw [HR.out] <;> rfl, HB2.out⟩
    · have k1 : ¬ (k : Int) < (l.length : Int) := by omega
      obtain rfl : k = l.length := by omega
      rw [List.take_length] at HAK
      clear hlt hk
      go_wp2_with fail
      go_ret
      exact ⟨by rw [HAK.out] <;> rfl, HB.out⟩

set_option maxRecDepth 100000 in
set_option maxHeartbeats 1600000 in
theorem isScope_any (eT eM : Addr) (s : ByteArray) (w : World) (he : tm.SEnv (.iface 200 (.pointer (some eT))) (.iface 200 (.pointer (some eM))) w) (hs : s.size ≤ 4294967200) :
    Calls Tryz.prog 55 #[.string s] w fun e w' => e = .returned (.bool (oneSc s)) ∧ Below w.heap.size w w' := by
  have HU := hide (tm.scopes_any _ _ s w he hs)
  have HLL : Hid ((tm.scL s).length ≤ 4611686018427387904) := by
    show _ ≤ _
    unfold tm.scL tm.many
    split
    · rename_i h
      simp at h
      omega
    · simp
  have HO : Hid (oneSc s = (tm.areSc s && !tm.many s && decide (tm.scL s = [s]))) := rfl
  generalize oneSc s = t at *
  clear he
  cases ha : tm.areSc s with
  | false =>
    have hE : tm.scE (.iface 200 (.pointer (some eT))) (.iface 200 (.pointer (some eM))) s = .iface 200 (.pointer (some eT)) := by unfold tm.scE; rw [ha]; rfl
    rw [hE] at HU
    have HT : Hid (t = false) := by show t = false; rw [HO.out, ha]; rfl
    clear hE ha
    go_enter Tryz.func55, Tryz.ntmps55
    go_wp2_with fail
    refine HU.out.mono ?_
    rintro x w2 ⟨v, rfl, _, b2⟩
    have HB := hide b2
    clear b2
    go_wp2_with fail
    go_ret
    exact ⟨by rw [HT.out] <;> rfl, HB.out⟩
  | true =>
    cases hm : tm.many s with
    | true =>
      have hE : tm.scE (.iface 200 (.pointer (some eT))) (.iface 200 (.pointer (some eM))) s = .iface 200 (.pointer (some eM)) := by unfold tm.scE; rw [ha, hm]; rfl
      rw [hE] at HU
      have HT : Hid (t = false) := by show t = false; rw [HO.out, ha, hm]; rfl
      clear hE ha hm
      go_enter Tryz.func55, Tryz.ntmps55
      go_wp2_with fail
      refine HU.out.mono ?_
      rintro x w2 ⟨v, rfl, _, b2⟩
      have HB := hide b2
      clear b2
      go_wp2_with fail
      go_ret
      exact ⟨by rw [HT.out] <;> rfl, HB.out⟩
    | false =>
      have hE : tm.scE (.iface 200 (.pointer (some eT))) (.iface 200 (.pointer (some eM))) s = .nilIface := by unfold tm.scE; rw [ha, hm]; rfl
      rw [hE] at HU
      have HT : Hid (t = decide (tm.scL s = [s])) := by show t = _; rw [HO.out, ha, hm]; simp
      clear hE ha hm
      generalize tm.scL s = L at *
      go_enter Tryz.func55, Tryz.ntmps55
      go_wp2_with fail
      refine HU.out.mono ?_
      rintro x w2 ⟨v, rfl, ho, b2⟩
      have HB := hide b2
      have HL := hide (ss.lies_of_own ho)
      have HEQ := hide (rc.equalOne_any v L s w2.heap.size (w2.alloc (.cells #[.string s] 9)) (HL.out.below ((Below.refl _ _).alloc (Nat.le_refl _) _)) HLL.out (by have h := heap_alloc_new w2 (.cells #[.string s] 9); simp only [World.cell?, h]; rfl))
      clear b2 ho
      go_wp2_with (go_at_call 73; refine HEQ.out.mono ?_; rintro x w3 ⟨rfl, b3⟩)
      go_ret
      refine ⟨by rw [HT.out] <;> simp, ?_⟩
      exact HB.out.trans ((((Below.refl w2.heap.size w2).alloc (Nat.le_refl _) _).trans (b3.mono (by simp))).mono HB.out.size)
end Go.Proofs.YtilhfmhjgfmejaaGreatDoor.rg

namespace Go.Proofs.YtilhfmhjgfmejaaGreatDoor.rg
open Go.ChangeShapes Go.WideShapes Go.ChangeAt Go.RowKit Go.Proofs.YtilhfmhjgfmejaaGreatDoor.common Go.Maps
attribute [local go_sem ↓] Go.wp_at_zero Go.wp_at_succ

theorem sizeSe : (Tryz.prog.info? 42).map (·.size) = some 2 := by kernel_rfl
/-- a client in its box -/
abbrev cliO (x : Cli) (vR vS : Value) : Obj := .cells #[.string x.id, .bool x.pub, .string x.salt, .string x.dig, vR, vS] 45
theorem rg_of {w : World} {F o : Nat} {A : Array Value} {t : TypeId} (l : List Value) (h : w.heap[F]? = some (.cells A t)) (hl : ∀ j u, l[j]? = some u → A[o + j]? = some u) : w.rangeAt F o l := fun j u hu => by
  simp only [World.cell?, h]
  exact hl j u hu
theorem l2 {A : Array Value} {o : Nat} {a b : Value} (h0 : A[o + 0]? = some a) (h1 : A[o + 1]? = some b) : ∀ j u, [a, b][j]? = some u → A[o + j]? = some u
  | 0, _, h => by cases h; exact h0
  | 1, _, h => by cases h; exact h1
theorem sec_eql (a b : ByteArray) (w : World) : (binOp .eql 42 (.agg #[.string a, .string b]) (.agg #[.string ⟨#[]⟩, .string ⟨#[]⟩])).run Tryz.prog w = .ok (.bool (a.toList.isEmpty && b.toList.isEmpty)) w := by
  have u := Tryz.underlying9
  have ag := Tryz.isAgg9
  have z := Tryz.sizeOf9
  have h : (Op.equalIn 10000 42 (.agg #[.string a, .string b]) (.agg #[.string ⟨#[]⟩, .string ⟨#[]⟩])).run Tryz.prog w = .ok (a.toList.isEmpty && b.toList.isEmpty) w := by
    rw [show (10000 : Nat) = 9999 + 1 from rfl, Op.equalIn]
    simp only [Sem.run_bind, run_underlying Tryz.underlying42, Result.andThen_ok]
    go_simp
    by_cases ha : a.toList = [] <;> by_cases hb : b.toList = [] <;> simp [ha, hb]
  simp [binOp, Op.equal, show Op.maxDepth = 10000 from rfl, h]

set_option maxRecDepth 100000 in
set_option maxHeartbeats 1600000 in
theorem isClientSecret_any (x : Cli) (vR vS : Value) (w : World) (hR : ss.Lies w vR x.to) (hS : ss.Lies w vS x.sc) : Calls Tryz.prog 52 #[.agg #[.string x.id, .bool x.pub, .string x.salt, .string x.dig, vR, vS]] w fun e w' => e = .returned (.bool (csB x)) ∧ Below w.heap.size w w' := by
  obtain ⟨oR, cR, rfl, _⟩ := hR
  obtain ⟨oS, cS, rfl, _⟩ := hS
  obtain ⟨id, pub, salt, dig, tos, sc⟩ := x
  have hb := heap_new w (cliO ⟨id, pub, salt, dig, tos, sc⟩ (.slice oR tos.length cR) (.slice oS sc.length cS))
  have HB : Hid (Below w.heap.size w (w.alloc (cliO ⟨id, pub, salt, dig, tos, sc⟩ (.slice oR tos.length cR) (.slice oS sc.length cS)))) := (Below.refl _ _).alloc (Nat.le_refl _) _
  have HR := hide (rg_of (o := 2) [.string salt, .string dig] hb (l2 rfl rfl))
  have p1 : (w.alloc (cliO ⟨id, pub, salt, dig, tos, sc⟩ (.slice oR tos.length cR) (.slice oS sc.length cS))).cell? ⟨w.heap.size, 1, none⟩ = some (.bool pub) := cell_of hb 1
  have HS := hide (isSecret_any salt dig (w.alloc (cliO ⟨id, pub, salt, dig, tos, sc⟩ (.slice oR tos.length cR) (.slice oS sc.length cS))))
  have HQ : Hid (csB ⟨id, pub, salt, dig, tos, sc⟩ = if pub then decide (salt = ⟨#[]⟩) && decide (dig = ⟨#[]⟩) else seB salt dig) := rfl
  generalize csB ⟨id, pub, salt, dig, tos, sc⟩ = t at *
  clear hb
  cases pub with
  | true =>
    have HEQ := hide (sec_eql salt dig)
    have HT : Hid (t = (salt.toList.isEmpty && dig.toList.isEmpty)) := by
      show _ = _
      rw [HQ.out, if_pos rfl]
      congr 1
      · by_cases h : salt = ⟨#[]⟩
        · rw [decide_eq_true h, emp_t h]
        · rw [decide_eq_false h, emp_f h]
      · by_cases h : dig = ⟨#[]⟩
        · rw [decide_eq_true h, emp_t h]
        · rw [decide_eq_false h, emp_f h]
    have hq := HEQ.out
    go_enter Tryz.func52, Tryz.ntmps52
    go_wp2_with (refine wpList_load_mid rfl 42 _ rfl w.heap.size 2 rfl _ _ HR.out Tryz.underlying42 rfl sizeSe ?_)
    go_ret
    exact ⟨by rw [HT.out] <;> rfl, HB.out⟩
  | false =>
    have HT : Hid (t = seB salt dig) := by show _ = _; rw [HQ.out, if_neg (by decide)]
    rw [← HT.out] at HS
    go_enter Tryz.func52, Tryz.ntmps52
    go_wp2_with (refine wpList_load_mid rfl 42 _ rfl w.heap.size 2 rfl _ _ HR.out Tryz.underlying42 rfl sizeSe ?_)
    refine HS.out.mono ?_
    rintro e w2 ⟨rfl, b2⟩
    have HB2 := hide (HB.out.trans (b2.mono HB.out.size))
    clear b2
    go_wp2_with fail
    go_ret
    exact ⟨rfl, HB2.out⟩
end Go.Proofs.YtilhfmhjgfmejaaGreatDoor.rg

namespace Go.Proofs.YtilhfmhjgfmejaaGreatDoor.rc
open Go.ChangeShapes Go.WideShapes Go.ChangeAt Go.RowKit Go.Proofs.YtilhfmhjgfmejaaGreatDoor.common Go.Proofs.YtilhfmhjgfmejaaGreatDoor.bk Go.Proofs.YtilhfmhjgfmejaaGreatDoor.ss Go.Proofs.YtilhfmhjgfmejaaGreatDoor.tm
attribute [local go_sem ↓] Go.wp_at_zero Go.wp_at_succ

theorem bdNr {b : Nat} {a c : World} (h : Below b a c) (n : Nat) : Below b a (c.drewN n) := ⟨h.1, h.2, h.3, h.4, h.5⟩
theorem getD_atR (l : List ByteArray) (i : Nat) (h : i < l.length) : l.getD i ByteArray.empty = l[i] := by simp [List.getD, h]
set_option maxRecDepth 100000 in
set_option maxHeartbeats 1600000 in
theorem isRisingR_any (v : Value) (l : List ByteArray) (w : World) (hL : Lies w v l) (hl : l.length ≤ 4611686018427387904) :
    Calls Tryz.prog 56 #[v] w fun e w' => e = .returned (.bool (risB l)) ∧ Below w.heap.size w w' := by
  have HL := hide hL
  obtain ⟨oa, cap, rfl⟩ := Lies.len hL
  clear hL
  have HT : Hid (ris l (l.length - 1) → risB l = true) := fun h => decide_eq_true (fun i h1 h2 => h i (by omega) h2)
  have HN : Hid (∀ i, i + 1 < l.length → ¬ (l.getD i ByteArray.empty).data.toList < (l.getD (i + 1) ByteArray.empty).data.toList → risB l = false) := fun i h1 h2 => decide_eq_false (fun h => h2 (h i (by omega) h1))
  go_enter Tryz.func56, Tryz.ntmps56
  go_wp2
  go_loopw [7] (fun i wr => ∃ k : Nat, (k = 0 ∨ k < l.length) ∧ i = .int .i64 k ∧ ris l k ∧ Below w.heap.size w wr) (fun i _ => l.length - (intOf i).toNat)
  case atStart => exact ⟨0, Or.inl rfl, rfl, fun i h => absurd h (Nat.not_lt_zero _), Below.refl _ _⟩
  case round =>
    obtain ⟨k, hk, rfl, hr, hnx⟩ := hrel
    have HR := hide hr
    have HX := hide hnx
    by_cases hlt : k + 1 < l.length
    · have k1 : (k : Int) < (l.length : Int) - 1 := by omega
      have k0 : (0 : Int) ≤ (k : Int) := Int.natCast_nonneg _
      have k2 : (k : Int) < (l.length : Int) := by omega
      have k3 : (k : Int) + 1 < (l.length : Int) := by omega
      have k4 : (0 : Int) ≤ (k : Int) + 1 := by omega
      obtain ⟨_, _, hv, hc⟩ := HL.out.below hnx
      cases hv
      obtain ⟨b, o, rfl, hb, c0⟩ := hc k (by omega)
      obtain ⟨b', o', he, hb', c1⟩ := hc (k + 1) hlt
      cases he
      have HNK := hide (HN.out k hlt)
      rw [getD_atR l k (by omega), getD_atR l (k + 1) hlt] at HNK
      have HRS : Hid (l[k].data.toList < l[k + 1].data.toList → ris l (k + 1)) := fun h i h1 h2 => by
        by_cases hik : i < k
        · exact HR.out i hik h2
        · obtain rfl : i = k := by omega
          rw [getD_atR l i (by omega), getD_atR l (i + 1) hlt]; exact h
      have hg := lessB l[k] l[k + 1]
      generalize l[k] = s at *
      generalize l[k + 1] = t at *
      have c2 := c1
      rw [← Nat.add_assoc] at c2
      have hw : IntKind.i64.wrap ((k : Int) + 1) = (k : Int) + 1 := by unfold IntKind.wrap; simp [IntKind.signed, IntKind.bits]; omega
      clear hr hnx hc HN
      by_cases hst : s.data.toList < t.data.toList
      · rw [decide_eq_true hst] at hg
        have HS := hide hst
        clear hst
        go_wp2_with fail
        go_quiet (fail)
        go_wp2_with fail
        go_roundw
        case rel => exact ⟨k + 1, Or.inr hlt, by go_num, HRS.out HS.out, bdNr HX.out nq⟩
        case measure => simp [intOf]; omega
      · rw [decide_eq_false hst] at hg
        have HS := hide (HNK.out hst)
        clear hst
        go_wp2_with fail
        go_quiet (fail)
        go_wp2_with fail
        go_ret
        exact ⟨by rw [HS.out]; rfl, bdNr HX.out nq⟩
    · have k1 : ¬ ((k : Int) < (l.length : Int) - 1) := by omega
      have HS : Hid (risB l = true) := HT.out (fun i h1 h2 => hr i (by omega) h2)
      clear hr hnx
      go_wp2_with fail
      go_ret
      exact ⟨by rw [HS.out]; rfl, HX.out⟩

end Go.Proofs.YtilhfmhjgfmejaaGreatDoor.rc
