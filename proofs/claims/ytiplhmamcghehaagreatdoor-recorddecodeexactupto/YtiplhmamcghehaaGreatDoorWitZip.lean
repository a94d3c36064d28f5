import Derived.Test.YtiplhmamcghehaaGreatDoorRcRefB
import Derived.Test.YtiplhmamcghehaaGreatDoorRcLent
import Derived.BigQuiet
import Derived.Test.YtiplhmamcghehaaGreatDoorRcDqA
import Derived.Test.YtiplhmamcghehaaGreatDoorRcDqB
import Derived.Test.YtiplhmamcghehaaGreatDoorRcDqC
import Derived.Test.YtiplhmamcghehaaGreatDoorRcDqD
import Derived.Test.YtiplhmamcghehaaGreatDoorRefUnUrl
import Derived.Test.YtiplhmamcghehaaGreatDoorStrBase
import Derived.Lay
import Derived.Deep.DeepWitnessRowRef
namespace Go.Proofs.YtiplhmamcghehaaGreatDoor.rc
open Go.ChangeShapes Go.WideShapes Go.ChangeAt Go.RowKit Go.Proofs.YtiplhmamcghehaaGreatDoor.common Go.Proofs.YtiplhmamcghehaaGreatDoor.dk Go.Proofs.YtiplhmamcghehaaGreatDoor.ss

theorem doc_rec (r : Rec) (h0 : 0 < r.k) (h1 : r.k < 12) : docL r = recL r := by
  rcases kindsI r.k h0 h1 with h | h | h | h | h | h | h | h | h | h | h <;>
    (unfold docL recL prts idL midL endL
     rw [h]
     simp [show nm 1 1 = true by decide, show nm 1 2 = true by decide, show nm 1 4 = false by decide, show nm 1 8 = false by decide, show nm 1 32 = false by decide, show nm 1 64 = false by decide, show nm 1 128 = true by decide]
     try simp (config := { decide := true }))

/-- what the document answers -/
def REncOut (r : Rec) (w : World) (x : Ending) (w' : World) : Prop :=
  ∃ v', x = .returned (.tuple #[v', .int .i64 (chN r)]) ∧ (∃ n, w.heap.size ≤ n ∧ w'.ownsRow n 5 1 v' (if mayB r then recL r else []).length ((if mayB r then recL r else []).map B)) ∧ Below w.heap.size w w'

set_option maxRecDepth 100000 in
set_option maxHeartbeats 3200000 in
theorem refEncode_any (r : Rec) (v : Value) (w : World) (hv : Lies w v r.ss) (hz : r.Small) (hl : r.Low) (ht : HTab w) :
    Calls Tryz.prog 18 #[.agg (rcs r v)] w (REncOut r w) := by
  obtain ⟨W0, hW0⟩ : ∃ W0, W0 = w.alloc (.cells (rcs r v) 26) := ⟨_, rfl⟩
  have hb0 : Below w.heap.size w W0 := by rw [hW0]; exact (Below.refl _ _).alloc (Nat.le_refl _) _
  have HM := hide (refCheck_any r v W0 (hv.below hb0) hz ⟨hl.id, hl.cd⟩ (ht.below hb0))
  have HB0 := hide hb0
  have HR : Hid (∀ X, Below W0.heap.size W0 X → X.rangeAt w.heap.size 0 [.int .i64 r.k, .string r.id, .string r.us, .string r.cl, .string r.rd, .string r.ch, .string r.cd, v, .int .i64 r.at_]) := fun X hX => by
    refine range_of ((hX.block _ ?_).trans (?_ : W0.heap[w.heap.size]? = some (.cells (rcs r v) 26 (0, 0))))
    · rw [hW0]; simp
    · rw [hW0]; exact heap_alloc_new w _
  have HR0 := hide (HR.out W0 (Below.refl _ _))
  rw [hW0] at HR0
  have HW0 := hide hW0
  have HV : Hid (∀ X, Below w.heap.size w X → Lies X v r.ss ∧ HTab X) := fun X hX => ⟨hv.below hX, ht.below hX⟩
  clear hv ht hb0 hW0
  unfold REncOut
  cases hm : mayB r with
  | false =>
    have hc : chN r = 1 := by unfold chN; rw [hm]; rfl
    rw [hc] at HM
    rw [hc]
    simp only [Bool.false_eq_true, if_false]
    clear hm hc
    go_enter Tryz.func18, Tryz.ntmps18
    go_wp2_with (refine wpList_load_mid rfl 26 (.tmp 1) rfl w.heap.size 0 rfl _ _ HR0.out Tryz.underlying26 rfl sizeRec ?_)
    rw [← HW0.out]
    refine HM.out.mono ?_
    rintro x w2 ⟨rfl, b2⟩
    have HB := hide (keepW HB0.out b2)
    clear b2
    go_wp2_with fail
    go_ret2
    exact ⟨_, rfl, ⟨_, Nat.le_refl _, World.ownsRow_nil _ _ _ _⟩, HB.out⟩
  | true =>
    have hc : chN r = 0 := by unfold chN; rw [hm]; rfl
    rw [hc] at HM
    rw [hc]
    obtain ⟨k0, k1, hF⟩ := fine_of hm hl
    have HD := hide (doc_rec r k0 k1)
    simp only [if_true]
    have HBO : Hid (∀ X, Below w.heap.size w X → Calls Tryz.prog 38 #[.agg (rcs r v)] X fun e w' => ∃ v', e = .returned v' ∧ w'.ownsRow (X.heap.size + 1) 5 1 v' (recL r).length ((recL r).map B) ∧ Below X.heap.size X w') := fun X hX => by
      have h := bytesOf_any r v X (HV.out X hX).1 k0 k1 hl hF (HV.out X hX).2
      rw [HD.out] at h
      exact h
    clear hm hc k0 k1 hF
    go_enter Tryz.func18, Tryz.ntmps18
    go_wp2_with (refine wpList_load_mid rfl 26 (.tmp 1) rfl w.heap.size 0 rfl _ _ HR0.out Tryz.underlying26 rfl sizeRec ?_)
    rw [← HW0.out]
    refine HM.out.mono ?_
    rintro x w2 ⟨rfl, b2⟩
    have HB := hide (keepW HB0.out b2)
    have HR2 := hide (HR.out w2 b2)
    have HBY := hide (HBO.out w2 HB.out)
    clear b2
    go_wp2_with (refine wpList_load_mid rfl 26 (.tmp 1) rfl w.heap.size 0 rfl _ _ HR2.out Tryz.underlying26 rfl sizeRec ?_)
    refine HBY.out.mono ?_
    rintro x w3 ⟨v3, rfl, hown, b3⟩
    have HO := hide hown
    have HB3 := hide (keepW HB.out b3)
    clear hown b3
    go_wp2_with fail
    go_ret2
    exact ⟨_, rfl, ⟨_, Nat.le_succ_of_le HB.out.size, HO.out⟩, HB3.out⟩
end Go.Proofs.YtiplhmamcghehaaGreatDoor.rc

namespace Go.Proofs.YtiplhmamcghehaaGreatDoor.dk
open Go.ChangeShapes Go.WideShapes Go.ChangeAt Go.RowKit Go.Proofs.YtiplhmamcghehaaGreatDoor.common
set_option maxRecDepth 100000 in
set_option maxHeartbeats 1600000 in
theorem sameBytes_eq (w : World) (va vb : Value) (l : List UInt8) (ha : Rd w va l) (hb : Rd w vb l) (hl : l.length ≤ 4611686018427387904) :
    Calls Tryz.prog 19 #[va, vb] w fun r' w' => r' = .returned (.bool true) ∧ Below w.heap.size w w' := by
  obtain ⟨oa, ca, rfl⟩ := ha.len
  obtain ⟨ob, cb, rfl⟩ := hb.len
  have HA := hide ha
  have HB := hide hb
  clear ha hb
  go_enter Tryz.func19, Tryz.ntmps19
  go_wp2
  go_loopw [5] (fun i wr => ∃ k : Nat, k ≤ l.length ∧ i = .int .i64 k ∧ ∃ n, wr = w.drewN n) (fun i _ => l.length - (intOf i).toNat)
  case atStart => exact ⟨0, Nat.zero_le _, rfl, 0, rfl⟩
  case round =>
    obtain ⟨k, hk, rfl, n, rfl⟩ := hrel
    by_cases hlt : k < l.length
    · obtain ⟨ga, o1, rfl, h1⟩ := HA.out.cell (by omega)
      obtain ⟨gb, o2, rfl, h2⟩ := HB.out.cell (by omega)
      have c1 : w.cell? ⟨ga, o1 + k, none⟩ = some (B l[k]) := h1 k hlt
      have c2 : w.cell? ⟨gb, o2 + k, none⟩ = some (B l[k]) := h2 k hlt
      have k0 : (0 : Int) ≤ (k : Int) := Int.natCast_nonneg _
      have k1 : (k : Int) < (l.length : Int) := by omega
      clear h1 h2
      generalize l[k] = x at *
      go_wp2_with fail
      go_quiet (fail)
      go_wp2
      go_roundw
      case rel => exact ⟨k + 1, by omega, by go_num, _, rfl⟩
      case measure => simp [intOf]; omega
    · obtain rfl : k = l.length := by omega
      go_wp2
      go_ret
      exact ⟨rfl, bdN (Below.refl _ _) _⟩

end Go.Proofs.YtiplhmamcghehaaGreatDoor.dk

namespace Go.Proofs.YtiplhmamcghehaaGreatDoor.dk
open Go.ChangeShapes Go.WideShapes Go.ChangeAt Go.RowKit Go.Proofs.YtiplhmamcghehaaGreatDoor.common

theorem take_same {α : Type} {l m : List α} {k : Nat} (h : l.take k = m.take k) (hl : k < l.length) (hm : k < m.length) (he : l[k] = m[k]) : l.take (k + 1) = m.take (k + 1) := by
  rw [List.take_succ_eq_append_getElem hl, List.take_succ_eq_append_getElem hm, h, he]
theorem take_diff {α : Type} {l m : List α} {k : Nat} (hl : k < l.length) (hm : k < m.length) (he : l[k] ≠ m[k]) : l ≠ m := fun e => by subst e; exact he rfl

set_option maxRecDepth 100000 in
set_option maxHeartbeats 1600000 in
theorem sameBytes_dec (w : World) (va vb : Value) (l m : List UInt8) (ha : Rd w va l) (hb : Rd w vb m) (hl : l.length ≤ 4611686018427387904) (_ : m.length ≤ 4611686018427387904) :
    Calls Tryz.prog 19 #[va, vb] w fun r' w' => r' = .returned (.bool (decide (l = m))) ∧ Below w.heap.size w w' := by
  obtain ⟨oa, ca, rfl⟩ := ha.len
  obtain ⟨ob, cb, rfl⟩ := hb.len
  have HA := hide ha
  have HB := hide hb
  clear ha hb
  by_cases hlen : l.length = m.length
  · rw [hlen] at HA hl ⊢
    have HLEN := hide hlen
    clear hlen
    go_enter Tryz.func19, Tryz.ntmps19
    go_wp2
    go_loopw [5] (fun i wr => ∃ k : Nat, k ≤ m.length ∧ i = .int .i64 k ∧ l.take k = m.take k ∧ ∃ n, wr = w.drewN n) (fun i _ => m.length - (intOf i).toNat)
    case atStart => exact ⟨0, Nat.zero_le _, rfl, rfl, 0, rfl⟩
    case round =>
      obtain ⟨k, hk, rfl, htk, n, rfl⟩ := hrel
      have HTK := hide htk
      clear htk
      by_cases hlt : k < m.length
      · have HL1 : Hid (k < l.length) := by show _ < _; rw [HLEN.out]; exact hlt
        have HA' : Hid (Rd w (.slice oa l.length ca) l) := by rw [HLEN.out]; exact HA.out
        obtain ⟨ga, o1, rfl, h1⟩ := HA'.out.cell (Nat.lt_of_le_of_lt (Nat.zero_le _) HL1.out)
        obtain ⟨gb, o2, rfl, h2⟩ := HB.out.cell (by omega)
        have c1 : w.cell? ⟨ga, o1 + k, none⟩ = some (B (l[k]'HL1.out)) := h1 k HL1.out
        have c2 : w.cell? ⟨gb, o2 + k, none⟩ = some (B m[k]) := h2 k hlt
        have k0 : (0 : Int) ≤ (k : Int) := Int.natCast_nonneg _
        have k1 : (k : Int) < (m.length : Int) := by omega
        clear h1 h2 HA'
        by_cases he : l[k]'HL1.out = m[k]
        · have HN := hide (take_same HTK.out HL1.out hlt he)
          rw [he] at c1
          clear he
          generalize m[k] = x at *
          go_wp2_with fail
          go_quiet (fail)
          go_wp2
          go_roundw
          case rel => exact ⟨k + 1, by omega, by go_num, HN.out, _, rfl⟩
          case measure => simp [intOf]; omega
        · have HN : Hid (decide (l = m) = false) := decide_eq_false (take_diff HL1.out hlt he)
          generalize l[k]'HL1.out = x at *
          generalize m[k] = y at *
          have q : ((x.toNat : Int) != (y.toNat : Int)) = true := by
            rw [bne_iff_ne]
            intro e
            exact he (UInt8.toNat_inj.1 (by omega))
          clear he
          go_wp2_with fail
          go_quiet (fail)
          go_wp2
          go_ret
          exact ⟨by rw [HN.out]; rfl, by first | exact bdN (bdN (Below.refl _ _) _) _ | exact bdN (Below.refl _ _) _⟩
      · obtain rfl : k = m.length := by omega
        have HN : Hid (decide (l = m) = true) := decide_eq_true (by
          have h := HTK.out
          rw [List.take_of_length_le (by rw [HLEN.out]; exact Nat.le_refl _), List.take_length] at h
          exact h)
        go_wp2
        go_ret
        exact ⟨by rw [HN.out]; rfl, bdN (Below.refl _ _) _⟩
  · have HN : Hid (decide (l = m) = false) := decide_eq_false (fun e => hlen (by rw [e]))
    have q : ((l.length : Int) != (m.length : Int)) = true := by rw [bne_iff_ne]; omega
    clear hlen
    go_enter Tryz.func19, Tryz.ntmps19
    go_wp2
    go_ret
    exact ⟨by rw [HN.out]; rfl, Below.refl _ _⟩
end Go.Proofs.YtiplhmamcghehaaGreatDoor.dk

namespace Go.Proofs.YtiplhmamcghehaaGreatDoor.rc
open Go.ChangeShapes Go.WideShapes Go.ChangeAt Go.RowKit Go.Proofs.YtiplhmamcghehaaGreatDoor.common Go.Proofs.YtiplhmamcghehaaGreatDoor.dk
attribute [local go_sem ↓] Go.wp_at_zero Go.wp_at_succ

set_option maxRecDepth 100000 in
set_option maxHeartbeats 6400000 in
theorem drec_bad (K p : Nat) (v : Value) (l : List UInt8) (w : World) (hb : ∀ b r, l = b :: r → 11 < b.toNat) (hp : Pl K p v l w 0 false) (hK : K ≤ p) :
    Calls Tryz.prog 17 #[.pointer (some ⟨p, 0, none⟩)] w (DrOut K p v l w) := by
  have hpw : p < w.heap.size := (Array.getElem?_eq_some_iff.1 hp.1).1
  obtain ⟨ov, cv, hvv⟩ : ∃ ov cv, v = .slice ov l.length cv := by obtain ⟨x, y, h, _⟩ := hp.2.1; exact ⟨x, y, h⟩
  have hb1 : Below w.heap.size w (w.alloc (.cells zrec 26)) := (Below.refl _ _).alloc (Nat.le_refl _) _
  have hP1 := hp.low hb1 hpw hK
  have p0 : (w.alloc (.cells zrec 26)).cell? ⟨p, 0, none⟩ = some v := cell_of hP1.1 0
  have p2 : (w.alloc (.cells zrec 26)).cell? ⟨p, 2, none⟩ = some (.bool false) := cell_of hP1.1 2
  have pf : (w.alloc (.cells zrec 26)).frozen? ⟨p, 2, none⟩ = false := free_of hP1.1 2
  have HFN : Hid (Pl K p v l ((w.setCell ⟨p, 2, none⟩ (.bool true)).alloc (.cells zrec 26)) 0 true ∧ Fr [p] w ((w.setCell ⟨p, 2, none⟩ (.bool true)).alloc (.cells zrec 26)) ∧ ((w.setCell ⟨p, 2, none⟩ (.bool true)).alloc (.cells zrec 26)).rangeAt w.heap.size 0 zrec.toList) := by
    have e0 : (w.setCell ⟨p, 2, none⟩ (.bool true)).heap.size = w.heap.size := size_set _ _ _
    have t0 := hp.lost hK
    have f0 := fr_sets (Fr.refl [p] w) 2 (.bool true)
    generalize w.setCell ⟨p, 2, none⟩ (.bool true) = w0 at *
    have b1 : Below w0.heap.size w0 (w0.alloc (.cells zrec 26)) := (Below.refl _ _).alloc (Nat.le_refl _) _
    refine ⟨t0.low b1 (by rw [e0]; exact hpw) hK, f0.next b1, ?_⟩
    rw [← e0]
    exact range_of (t := 26) (heap_alloc_new w0 _)
  have HON : Hid (∀ y : Rec, mayB y = true → y.Low → l = recL y → zR = y ∧ true = false) := fun y hm _ e => by
    have hf := hm
    cases l with
    | nil => exact (fin_none e).elim
    | cons b r =>
      have h := kind_of hm e
      have := hb b r rfl
      omega
  cases l with
  | nil =>
    subst hvv
    clear hb hp hP1 hb1
    go_enter Tryz.func17, Tryz.ntmps17
    go_wp2_with fail
    refine bodyPost_ret (results_c rfl _ rfl HFN.out.2.2 Tryz.underlying26 rfl sizeRec) rfl ?_
    unfold DrOut
    exact ⟨zR, .slice none 0 0, 0, true, rfl, HFN.out.1, HFN.out.2.1, World.ownsRow_nil _ _ _ _, ⟨⟨e_low, e_low, e_low, e_low, e_low, e_low, fun s hs => (by cases hs)⟩, Nat.zero_le _⟩, HON.out⟩
  | cons b r =>
    obtain ⟨g, o, hov, hcell⟩ := Rd.cell (oa := ov) (c := cv) (by rw [← hvv]; exact hp.2.1.rd) (by simp)
    have h11 := hb b r rfl
    have cb : w.cell? ⟨g, o, none⟩ = some (.int .u8 ((b.toNat : Nat) : Int)) := by
      have h := hcell 0 (by simp)
      rw [Nat.add_zero] at h
      exact h
    have cb1 : (w.alloc (.cells zrec 26)).cell? ⟨g, o, none⟩ = some (.int .u8 ((b.toNat : Nat) : Int)) := (hb1.cell (p := ⟨g, o, none⟩) (World.block_lt_of_cell? w _ cb)).trans cb
    subst hvv hov
    obtain ⟨L, hL⟩ : ∃ L, L = (b :: r).length := ⟨_, rfl⟩
    have hL0 : ¬ (L : Int) = 0 := by rw [hL, List.length_cons]; omega
    have hL0b : ((L : Int) == 0) = false := beq_false_of_ne hL0
    have hL1 : (0 : Int) < (L : Int) := by rw [hL, List.length_cons]; omega
    rw [← hL] at p0
    have k1 : (11 : Int) < ((b.toNat : Nat) : Int) := by omega
    have k2 : decide ((11 : Int) < ((b.toNat : Nat) : Int)) = true := decide_eq_true k1
    clear hb hp hP1 hb1 cb hcell hL
    go_enter Tryz.func17, Tryz.ntmps17
    go_wp2_with fail
    refine bodyPost_ret (results_c rfl _ rfl HFN.out.2.2 Tryz.underlying26 rfl sizeRec) rfl ?_
    unfold DrOut
    exact ⟨zR, .slice none 0 0, 0, true, rfl, HFN.out.1, HFN.out.2.1, World.ownsRow_nil _ _ _ _, ⟨⟨e_low, e_low, e_low, e_low, e_low, e_low, fun s hs => (by cases hs)⟩, Nat.zero_le _⟩, HON.out⟩

theorem drec_any (K p : Nat) (v : Value) (l : List UInt8) (w : World) (hp : Pl K p v l w 0 false) (HTB : ∀ X, Fr [p] w X → HTab X) (hK : K ≤ p) :
    Calls Tryz.prog 17 #[.pointer (some ⟨p, 0, none⟩)] w (DrOut K p v l w) := by
  cases l with
  | nil => exact drec_bad K p v [] w (fun b r h => (by cases h)) hp hK
  | cons b r =>
    by_cases h : 11 < b.toNat
    · exact drec_bad K p v (b :: r) w (fun b' r' e => by cases e; exact h) hp hK
    · have hc : b.toNat = 0 ∨ b.toNat = 1 ∨ b.toNat = 2 ∨ b.toNat = 3 ∨ b.toNat = 4 ∨ b.toNat = 5 ∨ b.toNat = 6 ∨ b.toNat = 7 ∨ b.toNat = 8 ∨ b.toNat = 9 ∨ b.toNat = 10 ∨ b.toNat = 11 := by omega
      rcases hc with h | h | h | h | h | h | h | h | h | h | h | h
      · exact drec_0 K p v b r w h hp HTB hK
      · exact drec_1 K p v b r w h hp HTB hK
      · exact drec_2 K p v b r w h hp HTB hK
      · exact drec_3 K p v b r w h hp HTB hK
      · exact drec_4 K p v b r w h hp HTB hK
      · exact drec_5 K p v b r w h hp HTB hK
      · exact drec_6 K p v b r w h hp HTB hK
      · exact drec_7 K p v b r w h hp HTB hK
      · exact drec_8 K p v b r w h hp HTB hK
      · exact drec_9 K p v b r w h hp HTB hK
      · exact drec_10 K p v b r w h hp HTB hK
      · exact drec_11 K p v b r w h hp HTB hK

set_option maxRecDepth 100000 in
set_option maxHeartbeats 12800000 in
theorem refDecode_any (l : List UInt8) (v : Value) (w : World) (hv : Lo w.heap.size w v l) (hl : l.length ≤ 1048576) (ht : HTab w) :
    Calls Tryz.prog 7 #[v] w (DecOut l (.int .i64 0) (.int .i64 2) w) := by
  obtain ⟨ov, cv, hvv⟩ : ∃ ov cv, v = .slice ov l.length cv := by obtain ⟨a, b, h, _⟩ := hv; exact ⟨a, b, h⟩
  obtain ⟨W, hW⟩ : ∃ W, W = (w.alloc (.cells zrec 26)).alloc (.cells #[v, .int .i64 0, .bool false] 52) := ⟨_, rfl⟩
  have hbW : Below w.heap.size w W := by rw [hW]; exact ((Below.refl _ _).alloc (Nat.le_refl _) _).alloc (by simp) _
  have hzW : W.heap.size = w.heap.size + 2 := by rw [hW]; simp
  have h0 : W.heap[w.heap.size]? = some (.cells zrec 26 (0, 0)) := by
    rw [hW]
    exact (heap_alloc_old _ _ (by simp)).trans (heap_alloc_new w _)
  have h1 : W.heap[w.heap.size + 1]? = some (.cells #[v, .int .i64 0, .bool false] 52 (0, 0)) := by
    rw [hW]
    have := heap_alloc_new (w.alloc (.cells zrec 26)) (.cells #[v, .int .i64 0, .bool false] 52 (0, 0))
    rw [World.size_alloc] at this
    exact this
  have hpl : Pl w.heap.size (w.heap.size + 1) v l W 0 false := ⟨h1, hv.keep (fun g hg _ => hbW.block g hg) hbW.size, Nat.zero_le _, hl⟩
  have HFB : Hid (∀ X, Fr [w.heap.size + 1] W X → Below w.heap.size w X) := fun X hX => hbW.trans (hX.below (fun k hk => by rw [List.mem_singleton.1 hk]; omega) hbW.size)
  have HDR := hide (drec_any w.heap.size (w.heap.size + 1) v l W hpl (fun X hX => ht.below (HFB.out X hX)) (by omega))
  have HT := hide ht
  have HV := hide hv
  have HH0 := hide h0
  have HZW := hide hzW
  have HW := hide hW
  subst hvv
  clear hv ht h0 h1 hW hzW hpl hbW
  unfold DecOut
  go_enter Tryz.func7, Tryz.ntmps7
  go_wp2_with fail
  rw [← HW.out]
  refine HDR.out.mono ?_
  rintro x w1 ⟨r, vr, a1, b1, rfl, hpl, hfr, hown, hlow, hon⟩
  obtain ⟨osl, csl, rfl⟩ := own_slice hown
  have HB1 := hide (HFB.out w1 hfr)
  obtain ⟨X, hX⟩ : ∃ X, X = w1.alloc (.cells (rcs r (.slice osl r.ss.length csl)) 26) := ⟨_, rfl⟩
  have bX : Below w1.heap.size w1 X := by rw [hX]; exact (Below.refl _ _).alloc (Nat.le_refl _) _
  have hQ : X.heap[w1.heap.size]? = some (.cells (rcs r (.slice osl r.ss.length csl)) 26 (0, 0)) := by rw [hX]; exact heap_alloc_new w1 _
  have HRX : Hid (X.rangeAt w1.heap.size 0 (rcl9 r (.slice osl r.ss.length csl))) := range_of (t := 26) hQ
  have hsm : r.Small := by
    have := hlow.1
    have hr : 1048576 ≤ reachBytes := by unfold reachBytes; decide
    exact ⟨Nat.le_trans this.id hr, Nat.le_trans this.us hr, Nat.le_trans this.cl hr, Nat.le_trans this.rd hr, Nat.le_trans this.ch hr, Nat.le_trans this.cd hr, by have := hlow.2; omega, fun s hs => by have := hlow.1.ss s hs; omega⟩
  have HEN := hide (refEncode_any r (.slice osl r.ss.length csl) X ((ss.lies_of_own hown).below bX) hsm hlow.1 (HT.out.below (keepW HB1.out bX)))
  unfold REncOut at HEN
  obtain ⟨A, hA⟩ : ∃ A, A = (if mayB r then recL r else []) := ⟨_, rfl⟩
  have hAl : A.length ≤ 30000000 := by
    rw [hA]
    cases hm : mayB r with
    | false => simp
    | true => exact recL_len hlow.1 hlow.2
  obtain ⟨N, hN⟩ : ∃ N, N = chN r := ⟨_, rfl⟩
  rw [← hA, ← hN] at HEN
  have HX := hide hX
  rw [hX] at HRX
  have HA := hide hA
  have HN := hide hN
  have HQ := hide hQ
  have HBX := hide bX
  have HPL := hide hpl
  have HLOW := hide hlow
  have HON := hide hon
  have HOW : Hid (w1.ownsRow W.heap.size 9 1 (.slice osl r.ss.length csl) r.ss.length (r.ss.map Value.string)) := hown
  have HH1 : Hid (w1.heap[w.heap.size]? = some (.cells zrec 26 (0, 0))) := (hfr.block _ (by have := HZW.out; omega) (fun hm => by have := List.mem_singleton.1 hm; omega)).trans HH0.out
  have HLT : Hid (w.heap.size + 1 < w1.heap.size) := by have := hfr.size; have := HZW.out; show _ < _; omega
  clear hX hQ bX hpl hfr hown hlow hon hA hN hsm HDR
  go_wp2_with (refine wpList_load_mid rfl 26 (.tmp 5) rfl w1.heap.size 0 rfl _ _ HRX.out Tryz.underlying26 rfl sizeRec ?_)
  rw [← HX.out]
  refine HEN.out.mono ?_
  rintro x y1 ⟨vq, rfl, ⟨nq, -, ownq⟩, c1⟩
  obtain ⟨oq, cq, rfl⟩ := own_slice ownq
  have HC1 := hide (keepW HBX.out c1)
  have HSB := hide (sameBytes_dec y1 (.slice ov l.length cv) _ l A (HV.out.rd.below (keepW HB1.out HC1.out)) (rd_own ownq) (by omega) (by omega))
  have HQ1 : Hid (y1.heap[w1.heap.size]? = some (.cells (rcs r (.slice osl r.ss.length csl)) 26 (0, 0))) := (c1.block _ (Array.getElem?_eq_some_iff.1 HQ.out).1).trans HQ.out
  obtain ⟨D, hD⟩ : ∃ D, D = decide (l = A) := ⟨_, rfl⟩
  rw [← hD] at HSB
  have HD := hide hD
  clear ownq c1 hD HEN
  go_wp2_with fail
  refine HSB.out.mono ?_
  rintro x y2 ⟨rfl, c2⟩
  have HC2 := hide (keepW HC1.out c2)
  have HQ2 : Hid (y2.heap[w1.heap.size]? = some (.cells (rcs r (.slice osl r.ss.length csl)) 26 (0, 0))) := (c2.block _ (Array.getElem?_eq_some_iff.1 HQ1.out).1).trans HQ1.out
  have HR2 : Hid (y2.rangeAt w1.heap.size 0 (rcl9 r (.slice osl r.ss.length csl))) := range_of (t := 26) HQ2.out
  have HP2 : Hid (y2.heap[w.heap.size + 1]? = some (.cells #[.slice ov l.length cv, .int .i64 (a1 : Int), .bool b1] 52 (0, 0))) := (HC2.out.block _ HLT.out).trans HPL.out.1
  have p2 : y2.cell? ⟨w.heap.size + 1, 2, none⟩ = some (.bool b1) := cell_of HP2.out 2
  have HT2 : Hid (y2.there w.heap.size 0 9) := there_of (cur := zrec.toList) ((HC2.out.block _ (by have := HLT.out; omega)).trans HH1.out) 0 9 (by simp)
  have HBY := hide (keepW HB1.out HC2.out)
  have HOY := hide (own_below HOW.out HC2.out)
  clear c2 HSB HQ1
  have HFB2 : Hid (∀ cs : List Value, Below w.heap.size w (y2.setCells w.heap.size 0 cs)) := fun cs => HBY.out.trans (((Fr.refl [w.heap.size] y2).sets w.heap.size 0 _ (Or.inl (List.mem_singleton.2 rfl))).below (fun k hk => by rw [List.mem_singleton.1 hk]; exact Nat.le_refl _) HBY.out.size)
  by_cases hyes : b1 = false ∧ mayB r = true ∧ l = recL r
  · obtain ⟨rfl, hm, hlr⟩ := hyes
    have HDY : Hid (DecR l (some r)) := ⟨fun y hy => (by cases hy; exact ⟨hm, HLOW.out.1, HLOW.out.2, hlr.symm⟩), fun y a b c => (by rw [(HON.out y a b c.symm).1])⟩
    have hN0 : N = 0 := by rw [HN.out]; unfold chN; rw [hm]; rfl
    have hDt : D = true := by rw [HD.out, HA.out, hm]; exact decide_eq_true hlr
    subst hN0 hDt
    clear hm hlr
    go_wp2_with (first
      | (refine wpList_load_mid rfl 26 (.tmp 5) rfl w1.heap.size 0 rfl _ _ HR2.out Tryz.underlying26 rfl sizeRec ?_)
      | (refine wpList_store_mid rfl 26 (.tmp 2) (.tmp 35) rfl w.heap.size 0 (rcs r (.slice osl r.ss.length csl)) rfl rfl HT2.out sizeRec (rcs_one _ _ _ _) ?_))
    refine bodyPost_ret (results_ct rfl _ rfl rfl (World.rangeAt_setCells_same _ w.heap.size 0 (rcs r (.slice osl r.ss.length csl)).toList HT2.out) Tryz.underlying26 rfl sizeRec) rfl ?_
    exact ⟨some r, .slice osl r.ss.length csl, rfl, own_least (own_at HOY.out (fun g hg => sets_other _ _ _ _ _ (by have := HZW.out; omega))) (by have := HZW.out; omega), HFB2.out _, HDY.out⟩
  · have HDN : Hid (DecR l none) := ⟨fun y hy => (by cases hy), fun y a b c => (hyes (by
      obtain ⟨h1, h2⟩ := HON.out y a b c.symm
      rw [h1]
      exact ⟨h2, a, c.symm⟩)).elim⟩
    have hcs : b1 = true ∨ (b1 = false ∧ N = 1) ∨ (b1 = false ∧ N = 0 ∧ D = false) := by
      cases b1 with
      | true => exact Or.inl rfl
      | false =>
        cases hm : mayB r with
        | false => exact Or.inr (Or.inl ⟨rfl, by rw [HN.out]; unfold chN; rw [hm]; rfl⟩)
        | true =>
          refine Or.inr (Or.inr ⟨rfl, by rw [HN.out]; unfold chN; rw [hm]; rfl, ?_⟩)
          rw [HD.out, HA.out, hm]
          exact decide_eq_false (fun h => hyes ⟨rfl, hm, h⟩)
    clear hyes
    have hz9 : zrec.all (·.oneCell') = true := rcs_one zR none 0 0
    rcases hcs with rfl | ⟨rfl, rfl⟩ | ⟨rfl, rfl, rfl⟩
    all_goals
      go_wp2_with (refine wpList_store_mid rfl 26 (.tmp 2) (.tmp 34) rfl w.heap.size 0 zrec rfl rfl HT2.out sizeRec hz9 ?_)
      refine bodyPost_ret (results_ct rfl _ rfl rfl (World.rangeAt_setCells_same _ w.heap.size 0 zrec.toList HT2.out) Tryz.underlying26 rfl sizeRec) rfl ?_
      exact ⟨none, .slice none 0 0, rfl, World.ownsRow_nil _ _ _ _, HFB2.out _, HDN.out⟩
end Go.Proofs.YtiplhmamcghehaaGreatDoor.rc

namespace Go.Proofs.YtiplhmamcghehaaGreatDoor.rc
open Go.ChangeShapes Go.WideShapes Go.ChangeAt Go.RowKit Go.Proofs.YtiplhmamcghehaaGreatDoor.common Go.Proofs.YtiplhmamcghehaaGreatDoor.dk
attribute [local go_sem ↓] Go.wp_at_zero Go.wp_at_succ

abbrev m77 : List UInt8 := [77, 77, 77, 77]
abbrev c77b : Array Value := #[.int .u8 77, .int .u8 77, .int .u8 77, .int .u8 77]
theorem rd_m77 (w : World) : Rd (w.alloc (.cells c77b 5)) (.slice (some ⟨w.heap.size, 0, none⟩) 4 4) m77 := by
  refine ⟨_, 4, rfl, fun _ => ⟨w.heap.size, 0, rfl, by simp, range_of (t := 5) (heap_alloc_new w _)⟩⟩
set_option maxRecDepth 100000 in
set_option maxHeartbeats 3200000 in
theorem lentBytes_any (l : List UInt8) (v : Value) (w : World) (hv : Rd w v l) (hl : l.length ≤ 1048576) :
    Calls Tryz.prog 5 #[v] w fun e w' => ∃ v', e = .returned v' ∧ w'.ownsRow w.heap.size 5 1 v' (l ++ m77).length ((l ++ m77).map B) ∧ Below w.heap.size w w' := by
  obtain ⟨ov, cv, rfl⟩ := Rd.len hv
  obtain ⟨v1, w1, hrun1, own1, fr1, at1⟩ := dr.append_rd w w.heap.size (.slice none 0 0) [] (World.ownsRow_nil _ _ _ _) ov cv l hv (by simp; omega) (Nat.le_refl _)
  have B1 : Below w.heap.size w w1 := fr1.below (fun k hk => by simp [Value.ownBlock] at hk) (Nat.le_refl _)
  obtain ⟨o1, c1, hv1⟩ := own_slice own1
  have own1' := own1.alloc (.cells c77b 5)
  have hb2 : Below w1.heap.size w1 (w1.alloc (.cells c77b 5)) := (Below.refl _ _).alloc (Nat.le_refl _) _
  obtain ⟨v2, w2, hrun2, own2, fr2, at2⟩ := dr.append_rd (w1.alloc (.cells c77b 5)) w.heap.size v1 _ own1' (some ⟨w1.heap.size, 0, none⟩) 4 m77 (rd_m77 w1) (by simp; omega) (keepW B1 hb2).size
  have B2 : Below w.heap.size w w2 := (keepW B1 hb2).trans (fr2.below (fun k hk => by have := own1'.lt k (by simpa using hk); omega) (keepW B1 hb2).size)
  have HO2 := hide own2
  have HB2 := hide B2
  subst hv1
  clear own1 own1' fr1 at1 fr2 at2 own2 B1 B2 hb2 hv
  go_enter Tryz.func5, Tryz.ntmps5
  go_wp2_with (at_builtin; first
    | (refine wpList_appendX rfl _ _ 22 22 rfl _ _ rfl rfl _ _ hrun1 ?_)
    | (refine wpList_appendX rfl _ _ 22 22 rfl _ _ rfl rfl _ _ hrun2 ?_))
  go_ret
  exact ⟨_, rfl, by simpa using HO2.out, HB2.out⟩

theorem row_bytes {w : World} {base : Nat} {v : Value} {l : List UInt8} (h : w.ownsRow base 5 1 v l.length (l.map B)) (h0 : 0 < l.length) : ∃ g cap, v = .slice (some ⟨g, 0, none⟩) l.length cap ∧ base ≤ g ∧ g < w.heap.size ∧ l.length ≤ cap ∧ w.rangeAt g 0 (l.map B) := by
  rcases h.2 with ⟨_, h1⟩ | ⟨g, cap, cur, rfl, hg, hh, hn, _, hsz, htk⟩
  · omega
  · refine ⟨g, cap, rfl, hg, (Array.getElem?_eq_some_iff.1 hh).1, hn, fun j u hu => ?_⟩
    rw [← htk, List.getElem?_take] at hu
    split at hu
    · rw [Nat.zero_add]
      simp only [World.cell?, hh]
      simpa using hu
    · cases hu
theorem rd_part {w : World} {g k n cap : Nat} {l : List UInt8} (h : w.rangeAt g 0 (l.map B)) (hg : g < w.heap.size) (hk : k + n ≤ l.length) : Rd w (.slice (some ⟨g, k, none⟩) n cap) ((l.drop k).take n) := by
  have hl : ((l.drop k).take n).length = n := by rw [List.length_take, List.length_drop]; omega
  refine ⟨_, cap, by rw [hl], fun _ => ⟨g, k, rfl, hg, fun j u hu => ?_⟩⟩
  rw [List.map_take, List.map_drop, List.getElem?_take] at hu
  split at hu
  · rw [List.getElem?_drop] at hu
    have := h (k + j) u hu
    rwa [Nat.zero_add] at this
  · cases hu
set_option maxRecDepth 100000 in
set_option maxHeartbeats 3200000 in
theorem whole_any (l : List UInt8) (g cap base : Nat) (vp : Value) (w : World) (ha : w.ownsRow base 5 1 (.slice (some ⟨g, 0, none⟩) (l.length + 4) cap) (l ++ m77).length ((l ++ m77).map B)) (hp : Rd w vp l) (hl : l.length ≤ 1048576) :
    Calls Tryz.prog 10 #[.slice (some ⟨g, 0, none⟩) (l.length + 4) cap, vp] w fun e w' => e = .returned (.bool true) ∧ Below w.heap.size w w' := by
  obtain ⟨op, cp, rfl⟩ := Rd.len hp
  obtain ⟨g', cap', hq, _, hg, hc, hr⟩ := row_bytes ha (by simp)
  have hlen : (l ++ m77).length = l.length + 4 := by simp
  rw [hlen] at hq hc
  cases hq
  have h1 : Rd w (.slice (some ⟨g, 0, none⟩) l.length cap) l := by
    have := rd_part (k := 0) (n := l.length) (cap := cap) hr hg (by rw [hlen]; omega)
    rwa [List.drop_zero, List.take_left] at this
  have h2 : Rd w (.slice (some ⟨g, l.length, none⟩) 4 (cap - l.length)) m77 := by
    have := rd_part (k := l.length) (n := 4) (cap := cap - l.length) hr hg (by rw [hlen]; omega)
    rwa [List.drop_left] at this
  have HS1 := hide (dk.sameBytes_eq w _ _ l h1 hp (by omega))
  have HS2 : Hid (∀ X, Below w.heap.size w X → Calls Tryz.prog 19 #[.slice (some ⟨g, l.length, none⟩) 4 (cap - l.length), .slice (some ⟨X.heap.size, 0, none⟩) 4 4] (X.alloc (.cells c77b 5)) fun r' w' => r' = .returned (.bool true) ∧ Below (X.alloc (.cells c77b 5)).heap.size (X.alloc (.cells c77b 5)) w') := fun X hX =>
    dk.sameBytes_eq (X.alloc (.cells c77b 5)) _ _ m77 (h2.below (keepW hX ((Below.refl _ _).alloc (Nat.le_refl _) _))) (rd_m77 X) (by decide)
  have k0 : (0 : Int) ≤ (l.length : Int) := Int.natCast_nonneg _
  have k1 : (l.length : Int) ≤ (cap : Int) := by omega
  have k2 : (l.length : Int) ≤ (l.length : Int) + 4 := by omega
  have k3 : ((l.length + 4 : Nat) : Int) ≤ (cap : Int) := by omega
  have k4 : ¬ cap - l.length = 0 := by omega
  have k5 : l.length + 4 - l.length = 4 := by omega
  clear ha hp hr h1 h2
  go_enter Tryz.func10, Tryz.ntmps10
  go_wp2_with fail
  refine HS1.out.mono ?_
  rintro x w1 ⟨rfl, b1⟩
  have HB1 := hide b1
  clear b1
  go_wp2_with fail
  refine (HS2.out _ HB1.out).mono ?_
  rintro x w2 ⟨rfl, b2⟩
  have HB2 := hide (keepW (keepW HB1.out ((Below.refl _ _).alloc (Nat.le_refl _) _)) b2)
  clear b2
  go_wp2_with fail
  go_ret
  exact ⟨rfl, HB2.out⟩

set_option maxRecDepth 100000 in
set_option maxHeartbeats 12800000 in
theorem lawDecode (l : List UInt8) (v : Value) (w : World) (e : Nat → Addr) (hv : Lo w.heap.size w v l) (hl : l.length ≤ 1048576) (he : Env (e 1) (e 2) (errw.E e 0) w) (hE : errw.Errs w e) (ht : HTab w) :
    Calls Tryz.prog 3 #[v] w fun x w' => x = .returned (.bool true) ∧ Below w.heap.size w w' := by
  have HENV : Hid (∀ X, Below w.heap.size w X → Env (e 1) (e 2) (errw.E e 0) X ∧ errw.Errs X e ∧ HTab X) := fun X hX => ⟨he.below hX, hE.below hX, ht.below hX⟩
  have HV := hide hv
  have HLB := hide (lentBytes_any l v w hv.rd hl)
  obtain ⟨ov, cv, hvv⟩ : ∃ ov cv, v = .slice ov l.length cv := by obtain ⟨a, b, h, _⟩ := hv; exact ⟨a, b, h⟩
  subst hvv
  clear hv he hE ht
  go_enter Tryz.func3, Tryz.ntmps3
  go_wp2_with fail
  refine HLB.out.mono ?_
  rintro x w1 ⟨va, rfl, owna, b1⟩
  have hlen : (l ++ m77).length = l.length + 4 := by simp
  obtain ⟨g, cap, rfl, hg0, hg, hc, hr⟩ := row_bytes owna (by simp)
  rw [hlen] at hc
  have hlo : Lo w1.heap.size w1 (.slice (some ⟨g, 0, none⟩) l.length cap) l := by
    have h1 := rd_part (k := 0) (n := l.length) (cap := cap) hr hg (by rw [hlen]; omega)
    rw [List.drop_zero, List.take_left] at h1
    obtain ⟨oa, c, hq, h2⟩ := h1
    cases hq
    exact ⟨_, cap, rfl, by omega, fun h0 => by obtain ⟨g', o', e1, e2, e3⟩ := h2 h0; exact ⟨g', o', e1, e2, e2, e3⟩⟩
  have HOA : Hid (w1.ownsRow w.heap.size 5 1 (.slice (some ⟨g, 0, none⟩) (l.length + 4) cap) (l ++ m77).length ((l ++ m77).map B)) := by
    show World.ownsRow _ _ _ _ _ _ _
    rw [hlen] at owna ⊢
    exact owna
  have HB1 := hide b1
  have HDE := hide (decode_any l _ (e 1) (e 2) e w1 hlo hl (HENV.out w1 b1).1 ((HENV.out w1 b1).2.1.cell 1 (by decide)))
  unfold DecOut at HDE
  rw [hlen]
  have k0 : (0 : Int) ≤ (l.length : Int) := Int.natCast_nonneg _
  have k1 : (l.length : Int) ≤ (cap : Int) := by omega
  clear owna b1 hlen hc hr hlo HLB
  go_wp2_with fail
  refine HDE.out.mono ?_
  rintro x w2 ⟨o1, v1, rfl, own1, b2, hd1⟩
  obtain ⟨oo1, cc1, rfl⟩ := own_slice own1
  obtain ⟨R1, hR1⟩ : ∃ R1, R1 = o1.getD zR := ⟨_, rfl⟩
  obtain ⟨E1, hE1⟩ : ∃ E1, E1 = (if o1.isSome then Value.nilIface else errw.E e 1) := ⟨_, rfl⟩
  rw [← hR1] at own1
  rw [← hR1, ← hE1]
  obtain ⟨X2, hX2⟩ : ∃ X2, X2 = w2.alloc (.cells (rcs R1 (.slice oo1 R1.ss.length cc1)) 26) := ⟨_, rfl⟩
  have bX : Below w2.heap.size w2 X2 := by rw [hX2]; exact (Below.refl _ _).alloc (Nat.le_refl _) _
  have HQ2 : Hid (X2.heap[w2.heap.size]? = some (.cells (rcs R1 (.slice oo1 R1.ss.length cc1)) 26 (0, 0))) := by show _ = _; rw [hX2]; exact heap_alloc_new w2 _
  have HB2 := hide (keepW (keepW HB1.out b2) bX)
  have HLS1 := hide ((ss.lies_of_own own1).below bX)
  have HOA2 := hide (own_below (own_below HOA.out b2) bX)
  have HDF := hide (refDecode_any l (.slice ov l.length cv) X2 (by
    obtain ⟨oa, c, hq, hcap, h2⟩ := HV.out
    cases hq
    exact ⟨_, _, rfl, hcap, fun h0 => by obtain ⟨g', o', e1, e2, e3, e4⟩ := h2 h0; exact ⟨g', o', e1, Nat.lt_of_lt_of_le e2 HB2.out.size, Nat.lt_of_lt_of_le e3 HB2.out.size, range_block e4 (HB2.out.block g' e3)⟩⟩) hl (HENV.out X2 HB2.out).2.2)
  unfold DecOut at HDF
  have HX2 := hide hX2
  have HD1 := hide hd1
  have HR1 := hide hR1
  have HE1 := hide hE1
  clear own1 b2 hd1 hX2 bX hR1 hE1 HDE HOA
  go_wp2_with fail
  rw [← HX2.out]
  refine HDF.out.mono ?_
  rintro x w3 ⟨o2, v2, rfl, own2, b3, hd2⟩
  have h12 : o2 = o1 := hd2.one HD1.out
  subst h12
  rw [← HR1.out] at own2
  rw [← HR1.out]
  obtain ⟨oo2, cc2, rfl⟩ := own_slice own2
  obtain ⟨E2, hE2⟩ : ∃ E2 : Int, E2 = (if o2.isSome then 0 else 2) := ⟨_, rfl⟩
  have hE2v : (if o2.isSome then Value.int .i64 0 else .int .i64 2) = .int .i64 E2 := by rw [hE2]; cases o2 <;> rfl
  rw [hE2v]
  obtain ⟨X3, hX3⟩ : ∃ X3, X3 = w3.alloc (.cells (rcs R1 (.slice oo2 R1.ss.length cc2)) 26) := ⟨_, rfl⟩
  have bX : Below w3.heap.size w3 X3 := by rw [hX3]; exact (Below.refl _ _).alloc (Nat.le_refl _) _
  have HRA : Hid (X3.rangeAt w2.heap.size 0 (rcl9 R1 (.slice oo1 R1.ss.length cc1))) := range_of (t := 26) (((keepW b3 bX).block _ (Array.getElem?_eq_some_iff.1 HQ2.out).1).trans HQ2.out)
  have HRB : Hid (X3.rangeAt w3.heap.size 0 (rcl9 R1 (.slice oo2 R1.ss.length cc2))) := by
    show World.rangeAt _ _ _ _
    rw [hX3]; exact range_of (t := 26) (heap_alloc_new w3 _)
  have hn16 : R1.ss.length ≤ 16 := by
    rw [HR1.out]
    cases o2 with
    | none => exact Nat.zero_le _
    | some r => exact (HD1.out.is r rfl).2.2.1
  have HB3 := hide (keepW HB2.out (keepW b3 bX))
  have HSR := hide (sameRec_any R1 _ _ X3 (HLS1.out.below (keepW b3 bX)) ((ss.lies_of_own own2).below bX) (by omega))
  have HOA3 := hide (own_below HOA2.out (keepW b3 bX))
  have HX3 := hide hX3
  have HE2 := hide hE2
  rw [hX3] at HRA HRB
  clear own2 b3 hd2 hX3 bX hE2 hE2v HDF HQ2 HLS1 HOA2
  go_wp2_with (first
    | (refine wpList_load_mid rfl 26 (.tmp 4) rfl w2.heap.size 0 rfl _ _ HRA.out Tryz.underlying26 rfl sizeRec ?_)
    | (refine wpList_load_mid rfl 26 (.tmp 6) rfl w3.heap.size 0 rfl _ _ HRB.out Tryz.underlying26 rfl sizeRec ?_))
  rw [← HX3.out]
  refine HSR.out.mono ?_
  rintro x w4 ⟨rfl, b4⟩
  have HB4 := hide (keepW HB3.out b4)
  have HNU : Hid (Calls Tryz.prog 9 #[E1] w4 fun x w' => x = .returned (.int .i64 E2) ∧ w' = w4) := by
    show Calls _ _ _ _ _
    rw [HE1.out, HE2.out]
    cases o2 with
    | none => exact errw.num_1 w4 e (HENV.out w4 HB4.out).2.1
    | some r => exact errw.num_nil w4
  have HWH := hide (whole_any l g cap w.heap.size (.slice ov l.length cv) w4 (own_below HOA3.out b4) (HV.out.rd.below HB4.out) hl)
  clear b4 HSR HOA3
  go_wp2_with (first
    | (go_at_call 9; refine HNU.out.mono ?_; rintro x w9 ⟨rfl, h9⟩; obtain rfl := h9.symm)
    | (go_at_call 10; refine HWH.out.mono ?_; rintro x w5 ⟨rfl, b5⟩))
  go_ret
  exact ⟨by simp, keepW HB4.out b5⟩
theorem lo_of {w : World} {v : Value} {l : List UInt8} (h : Rd w v l) (hc : ∀ oa m c, v = .slice oa m c → m ≤ c) : Lo w.heap.size w v l := by
  obtain ⟨oa, cap, rfl, h2⟩ := h
  exact ⟨oa, cap, rfl, hc _ _ _ rfl, fun h0 => by obtain ⟨g, o, e1, e2, e3⟩ := h2 h0; exact ⟨g, o, e1, e2, e2, e3⟩⟩
end Go.Proofs.YtiplhmamcghehaaGreatDoor.rc

namespace Go.Proofs.YtiplhmamcghehaaGreatDoor.fd
open Go
section
variable {H : Type} {enc : TypeId × Value → H}
/-- there is an input that fits, at a world whose shape is told in one pass -/
theorem witness_row_zip {C : Checked} {os : Os} {f : FuncId} {fn : Func} {s : OpenSpec} {conds : List PathCond} {apart : Bool} {laid : List (String × DataW Unit)} (modest : Bool) (w0 : World) (args : Array Value) (hos : w0.os = os)
    (hv : (w0.forCall (fun _ _ => 0) ⟨#[], args, []⟩).variablesZipB C.prog = true)
    (hr : ((w0.forCall (fun _ _ => 0) ⟨#[], args, []⟩).heap.toList.drop C.prog.globals.size).take ((begin C.prog (fun _ _ => 0) default).world.heap.size - C.prog.globals.size) =
      (begin C.prog (fun _ _ => 0) default).world.heap.toList.drop C.prog.globals.size)
    (hok : Input.okWideB C.prog (w0.forCall (fun _ _ => 0) ⟨#[], args, []⟩) f ⟨#[], args, []⟩ = true)
    (hrow : s.preRow enc C.prog fn conds apart laid (w0.forCall (fun _ _ => 0) ⟨#[], args, []⟩).memory args) :
    ∃ (w : World) (tape : Tape) (i : Input), w.os = os ∧ (w.forCall tape i).Shaped C.prog ∧ i.vars = [] ∧ Input.okWide C.prog (w.forCall tape i) .any w.heap.size f i ∧
      s.preRow enc C.prog fn conds apart laid (w.forCall tape i).memory i.args ∧ ({ modest := modest } : Assume).holds C.prog (lone (Frame.enter C.prog f i.args .normal) [] (w.forCall tape i)) :=
  ⟨w0, fun _ _ => 0, ⟨#[], args, []⟩, hos, World.shaped_of_ZipB hv hr, (Input.okWide_of_okWideB (base := 0) hok).1, (Input.okWide_of_okWideB hok).2, hrow, by
    simp only [Assume.holds]
    exact ⟨by simp, by simp, fun _ => Modest.zero, by simp, by simp⟩⟩
end
end Go.Proofs.YtiplhmamcghehaaGreatDoor.fd
