import Derived.Test.YtimbhneegphhbaaGreatDoorRcRefB
import Derived.Test.YtimbhneegphhbaaGreatDoorRcLent
import Derived.BigQuiet
import Derived.Test.YtimbhneegphhbaaGreatDoorRcDqA
import Derived.Test.YtimbhneegphhbaaGreatDoorRcDqB
import Derived.Test.YtimbhneegphhbaaGreatDoorRcDqC
import Derived.Test.YtimbhneegphhbaaGreatDoorRcDqD
import Derived.Test.YtimbhneegphhbaaGreatDoorRcDec
import Derived.Test.YtimbhneegphhbaaGreatDoorRcUnW
import Derived.Laws.IdiomStrings
namespace Go.Proofs.YtimbhneegphhbaaGreatDoor.rc
open Go.ChangeShapes Go.WideShapes Go.ChangeAt Go.RowKit Go.Proofs.YtimbhneegphhbaaGreatDoor.common Go.Proofs.YtimbhneegphhbaaGreatDoor.dk Go.Proofs.YtimbhneegphhbaaGreatDoor.ss

theorem doc_rec (r : Rec) (h0 : 0 < r.k) (h1 : r.k < 12) : docL r = recL r := by
  rcases kindsI r.k h0 h1 with h | h | h | h | h | h | h | h | h | h | h <;>
    (unfold docL recL prts idL midL endL
     rw [h]
     simp [show nm 1 1 = true by decide, show nm 1 2 = true by decide, show nm 1 4 = false by decide, show nm 1 8 = false by decide, show nm 1 32 = false by decide, show nm 1 64 = false by decide, show nm 1 128 = true by decide]
     try simp (config := { decide := true }))

/-- what the document answers -/
def REncOut (r : Rec) (w : World) (x : Ending) (w' : World) : Prop :=
  ∃ v', x = .returned (.tuple #[v', .int .i64 (chN r)]) ∧ (∃ n, w.heap.size ≤ n ∧ w'.ownsRow n 5 1 v' (if mayB r then recL r else []).length ((if mayB r then recL r else []).map B)) ∧ Below w.heap.size w w'

set_option maxRecDepth 100000 in
set_option maxHeartbeats 3200000 in
theorem refEncode_any (r : Rec) (v : Value) (w : World) (hv : Lies w v r.ss) (hz : r.Small) (hl : r.Low) (ht : HTab w) :
    Calls Tryz.prog 23 #[.agg (rcs r v)] w (REncOut r w) := by
  obtain ⟨W0, hW0⟩ : ∃ W0, W0 = w.alloc (.cells (rcs r v) 26) := ⟨_, rfl⟩
  have hb0 : Below w.heap.size w W0 := by rw [hW0]; exact (Below.refl _ _).alloc (Nat.le_refl _) _
  have HM := hide (refCheck_any r v W0 (hv.below hb0) hz ⟨hl.id, hl.cd⟩ (ht.below hb0))
  have HB0 := hide hb0
  have HR : Hid (∀ X, Below W0.heap.size W0 X → X.rangeAt w.heap.size 0 [.int .i64 r.k, .string r.id, .string r.us, .string r.cl, .string r.rd, .string r.ch, .string r.cd, v, .int .i64 r.at_]) := fun X hX => by
    refine range_of ((hX.block _ ?_).trans (?_ : W0.heap[w.heap.size]? = some (.cells (rcs r v) 26 (0, 0))))
    · rw [hW0]; simp
    · rw [hW0]; exact heap_alloc_new w _
  have HR0 := hide (HR.out W0 (Below.refl _ _))
  rw [hW0] at HR0
  have HW0 := hide hW0
  have HV : Hid (∀ X, Below w.heap.size w X → Lies X v r.ss ∧ HTab X) := fun X hX => ⟨hv.below hX, ht.below hX⟩
  clear hv ht hb0 hW0
  unfold REncOut
  cases hm : mayB r with
  | false =>
    have hc : chN r = 1 := by unfold chN; rw [hm]; rfl
    rw [hc] at HM
    rw [hc]
    simp only [Bool.false_eq_true, if_false]
    clear hm hc
    go_enter Tryz.func23, Tryz.ntmps23
    go_wp2_with (refine wpList_load_mid rfl 26 (.tmp 1) rfl w.heap.size 0 rfl _ _ HR0.out Tryz.underlying26 rfl sizeRec ?_)
    rw [← HW0.out]
    refine HM.out.mono ?_
    rintro x w2 ⟨rfl, b2⟩
    have HB := hide (keepW HB0.out b2)
    clear b2
    go_wp2_with fail
    go_ret2
    exact ⟨_, rfl, ⟨_, Nat.le_refl _, World.ownsRow_nil _ _ _ _⟩, HB.out⟩
  | true =>
    have hc : chN r = 0 := by unfold chN; rw [hm]; rfl
    rw [hc] at HM
    rw [hc]
    obtain ⟨k0, k1, hF⟩ := fine_of hm hl
    have HD := hide (doc_rec r k0 k1)
    simp only [if_true]
    have HBO : Hid (∀ X, Below w.heap.size w X → Calls Tryz.prog 36 #[.agg (rcs r v)] X fun e w' => ∃ v', e = .returned v' ∧ w'.ownsRow (X.heap.size + 1) 5 1 v' (recL r).length ((recL r).map B) ∧ Below X.heap.size X w') := fun X hX => by
      have h := bytesOf_any r v X (HV.out X hX).1 k0 k1 hl hF (HV.out X hX).2
      rw [HD.out] at h
      exact h
    clear hm hc k0 k1 hF
    go_enter Tryz.func23, Tryz.ntmps23
    go_wp2_with (refine wpList_load_mid rfl 26 (.tmp 1) rfl w.heap.size 0 rfl _ _ HR0.out Tryz.underlying26 rfl sizeRec ?_)
    rw [← HW0.out]
    refine HM.out.mono ?_
    rintro x w2 ⟨rfl, b2⟩
    have HB := hide (keepW HB0.out b2)
    have HR2 := hide (HR.out w2 b2)
    have HBY := hide (HBO.out w2 HB.out)
    clear b2
    go_wp2_with (refine wpList_load_mid rfl 26 (.tmp 1) rfl w.heap.size 0 rfl _ _ HR2.out Tryz.underlying26 rfl sizeRec ?_)
    refine HBY.out.mono ?_
    rintro x w3 ⟨v3, rfl, hown, b3⟩
    have HO := hide hown
    have HB3 := hide (keepW HB.out b3)
    clear hown b3
    go_wp2_with fail
    go_ret2
    exact ⟨_, rfl, ⟨_, Nat.le_succ_of_le HB.out.size, HO.out⟩, HB3.out⟩
end Go.Proofs.YtimbhneegphhbaaGreatDoor.rc

namespace Go.Proofs.YtimbhneegphhbaaGreatDoor.dk
open Go.ChangeShapes Go.WideShapes Go.ChangeAt Go.RowKit Go.Proofs.YtimbhneegphhbaaGreatDoor.common
set_option maxRecDepth 100000 in
set_option maxHeartbeats 1600000 in
theorem sameBytes_eq (w : World) (va vb : Value) (l : List UInt8) (ha : Rd w va l) (hb : Rd w vb l) (hl : l.length ≤ 4611686018427387904) :
    Calls Tryz.prog 9 #[va, vb] w fun r' w' => r' = .returned (.bool true) ∧ Below w.heap.size w w' := by
  obtain ⟨oa, ca, rfl⟩ := ha.len
  obtain ⟨ob, cb, rfl⟩ := hb.len
  have HA := hide ha
  have HB := hide hb
  clear ha hb
  go_enter Tryz.func9, Tryz.ntmps9
  go_wp2
  go_loopw [5] (fun i wr => ∃ k : Nat, k ≤ l.length ∧ i = .int .i64 k ∧ ∃ n, wr = w.drewN n) (fun i _ => l.length - (intOf i).toNat)
  case atStart => exact ⟨0, Nat.zero_le _, rfl, 0, rfl⟩
  case round =>
    obtain ⟨k, hk, rfl, n, rfl⟩ := hrel
    by_cases hlt : k < l.length
    · obtain ⟨ga, o1, rfl, h1⟩ := HA.out.cell (by omega)
      obtain ⟨gb, o2, rfl, h2⟩ := HB.out.cell (by omega)
      have c1 : w.cell? ⟨ga, o1 + k, none⟩ = some (B l[k]) := h1 k hlt
      have c2 : w.cell? ⟨gb, o2 + k, none⟩ = some (B l[k]) := h2 k hlt
      have k0 : (0 : Int) ≤ (k : Int) := Int.natCast_nonneg _
      have k1 : (k : Int) < (l.length : Int) := by omega
      clear h1 h2
      generalize l[k] = x at *
      go_wp2_with fail
      go_quiet (fail)
      go_wp2
      go_roundw
      case rel => exact ⟨k + 1, by omega, by go_num, _, rfl⟩
      case measure => simp [intOf]; omega
    · obtain rfl : k = l.length := by omega
      go_wp2
      go_ret
      exact ⟨rfl, bdN (Below.refl _ _) _⟩

end Go.Proofs.YtimbhneegphhbaaGreatDoor.dk

namespace Go.Proofs.YtimbhneegphhbaaGreatDoor.dk
open Go.ChangeShapes Go.WideShapes Go.ChangeAt Go.RowKit Go.Proofs.YtimbhneegphhbaaGreatDoor.common

theorem take_same {α : Type} {l m : List α} {k : Nat} (h : l.take k = m.take k) (hl : k < l.length) (hm : k < m.length) (he : l[k] = m[k]) : l.take (k + 1) = m.take (k + 1) := by
  rw [List.take_succ_eq_append_getElem hl, List.take_succ_eq_append_getElem hm, h, he]
theorem take_diff {α : Type} {l m : List α} {k : Nat} (hl : k < l.length) (hm : k < m.length) (he : l[k] ≠ m[k]) : l ≠ m := fun e => by subst e; exact he rfl

set_option maxRecDepth 100000 in
set_option maxHeartbeats 1600000 in
theorem sameBytes_dec (w : World) (va vb : Value) (l m : List UInt8) (ha : Rd w va l) (hb : Rd w vb m) (hl : l.length ≤ 4611686018427387904) (_ : m.length ≤ 4611686018427387904) :
    Calls Tryz.prog 9 #[va, vb] w fun r' w' => r' = .returned (.bool (decide (l = m))) ∧ Below w.heap.size w w' := by
  obtain ⟨oa, ca, rfl⟩ := ha.len
  obtain ⟨ob, cb, rfl⟩ := hb.len
  have HA := hide ha
  have HB := hide hb
  clear ha hb
  by_cases hlen : l.length = m.length
  · rw [hlen] at HA hl ⊢
    have HLEN := hide hlen
    clear hlen
    go_enter Tryz.func9, Tryz.ntmps9
    go_wp2
    go_loopw [5] (fun i wr => ∃ k : Nat, k ≤ m.length ∧ i = .int .i64 k ∧ l.take k = m.take k ∧ ∃ n, wr = w.drewN n) (fun i _ => m.length - (intOf i).toNat)
    case atStart => exact ⟨0, Nat.zero_le _, rfl, rfl, 0, rfl⟩
    case round =>
      obtain ⟨k, hk, rfl, htk, n, rfl⟩ := hrel
      have HTK := hide htk
      clear htk
      by_cases hlt : k < m.length
      · have HL1 : Hid (k < l.length) := by show _ < _; rw [HLEN.out]; exact hlt
        have HA' : Hid (Rd w (.slice oa l.length ca) l) := by rw [HLEN.out]; exact HA.out
        obtain ⟨ga, o1, rfl, h1⟩ := HA'.out.cell (Nat.lt_of_le_of_lt (Nat.zero_le _) HL1.out)
        obtain ⟨gb, o2, rfl, h2⟩ := HB.out.cell (by omega)
        have c1 : w.cell? ⟨ga, o1 + k, none⟩ = some (B (l[k]'HL1.out)) := h1 k HL1.out
        have c2 : w.cell? ⟨gb, o2 + k, none⟩ = some (B m[k]) := h2 k hlt
        have k0 : (0 : Int) ≤ (k : Int) := Int.natCast_nonneg _
        have k1 : (k : Int) < (m.length : Int) := by omega
        clear h1 h2 HA'
        by_cases he : l[k]'HL1.out = m[k]
        · have HN := hide (take_same HTK.out HL1.out hlt he)
          rw [he] at c1
          clear he
          generalize m[k] = x at *
          go_wp2_with fail
          go_quiet (fail)
          go_wp2
          go_roundw
          case rel => exact ⟨k + 1, by omega, by go_num, HN.out, _, rfl⟩
          case measure => simp [intOf]; omega
        · have HN : Hid (decide (l = m) = false) := decide_eq_false (take_diff HL1.out hlt he)
          generalize l[k]'HL1.out = x at *
          generalize m[k] = y at *
          have q : ((x.toNat : Int) != (y.toNat : Int)) = true := by
            rw [bne_iff_ne]
            intro e
            exact he (UInt8.toNat_inj.1 (by omega))
          clear he
          go_wp2_with fail
          go_quiet (fail)
          go_wp2
          go_ret
          exact ⟨by rw [HN.out]; rfl, by first | exact bdN (bdN (Below.refl _ _) _) _ | exact bdN (Below.refl _ _) _⟩
      · obtain rfl : k = m.length := by omega
        have HN : Hid (decide (l = m) = true) := decide_eq_true (by
          have h := HTK.out
          rw [List.take_of_length_le (by rw [HLEN.out]; exact Nat.le_refl _), List.take_length] at h
          exact h)
        go_wp2
        go_ret
        exact ⟨by rw [HN.out]; rfl, bdN (Below.refl _ _) _⟩
  · have HN : Hid (decide (l = m) = false) := decide_eq_false (fun e => hlen (by rw [e]))
    have q : ((l.length : Int) != (m.length : Int)) = true := by rw [bne_iff_ne]; omega
    clear hlen
    go_enter Tryz.func9, Tryz.ntmps9
    go_wp2
    go_ret
    exact ⟨by rw [HN.out]; rfl, Below.refl _ _⟩
end Go.Proofs.YtimbhneegphhbaaGreatDoor.dk

namespace Go.Proofs.YtimbhneegphhbaaGreatDoor.rc
open Go.ChangeShapes Go.WideShapes Go.ChangeAt Go.RowKit Go.Proofs.YtimbhneegphhbaaGreatDoor.common Go.Proofs.YtimbhneegphhbaaGreatDoor.dk
attribute [local go_sem ↓] Go.wp_at_zero Go.wp_at_succ

set_option maxRecDepth 100000 in
set_option maxHeartbeats 6400000 in
theorem drec_bad (K p : Nat) (v : Value) (l : List UInt8) (w : World) (hb : ∀ b r, l = b :: r → 11 < b.toNat) (hp : Pl K p v l w 0 false) (hK : K ≤ p) :
    Calls Tryz.prog 28 #[.pointer (some ⟨p, 0, none⟩)] w (DrOut K p v l w) := by
  have hpw : p < w.heap.size := (Array.getElem?_eq_some_iff.1 hp.1).1
  obtain ⟨ov, cv, hvv⟩ : ∃ ov cv, v = .slice ov l.length cv := by obtain ⟨x, y, h, _⟩ := hp.2.1; exact ⟨x, y, h⟩
  have hb1 : Below w.heap.size w (w.alloc (.cells zrec 26)) := (Below.refl _ _).alloc (Nat.le_refl _) _
  have hP1 := hp.low hb1 hpw hK
  have p0 : (w.alloc (.cells zrec 26)).cell? ⟨p, 0, none⟩ = some v := cell_of hP1.1 0
  have p2 : (w.alloc (.cells zrec 26)).cell? ⟨p, 2, none⟩ = some (.bool false) := cell_of hP1.1 2
  have pf : (w.alloc (.cells zrec 26)).frozen? ⟨p, 2, none⟩ = false := free_of hP1.1 2
  have HFN : Hid (Pl K p v l ((w.setCell ⟨p, 2, none⟩ (.bool true)).alloc (.cells zrec 26)) 0 true ∧ Fr [p] w ((w.setCell ⟨p, 2, none⟩ (.bool true)).alloc (.cells zrec 26)) ∧ ((w.setCell ⟨p, 2, none⟩ (.bool true)).alloc (.cells zrec 26)).rangeAt w.heap.size 0 zrec.toList) := by
    have e0 : (w.setCell ⟨p, 2, none⟩ (.bool true)).heap.size = w.heap.size := size_set _ _ _
    have t0 := hp.lost hK
    have f0 := fr_sets (Fr.refl [p] w) 2 (.bool true)
    generalize w.setCell ⟨p, 2, none⟩ (.bool true) = w0 at *
    have b1 : Below w0.heap.size w0 (w0.alloc (.cells zrec 26)) := (Below.refl _ _).alloc (Nat.le_refl _) _
    refine ⟨t0.low b1 (by rw [e0]; exact hpw) hK, f0.next b1, ?_⟩
    rw [← e0]
    exact range_of (t := 26) (heap_alloc_new w0 _)
  have HON : Hid (∀ y : Rec, mayB y = true → y.Low → l = recL y → zR = y ∧ true = false) := fun y hm _ e => by
    have hf := hm
    cases l with
    | nil => exact (fin_none e).elim
    | cons b r =>
      have h := kind_of hm e
      have := hb b r rfl
      omega
  cases l with
  | nil =>
    subst hvv
    clear hb hp hP1 hb1
    go_enter Tryz.func28, Tryz.ntmps28
    go_wp2_with fail
    refine bodyPost_ret (results_c rfl _ rfl HFN.out.2.2 Tryz.underlying26 rfl sizeRec) rfl ?_
    unfold DrOut
    exact ⟨zR, .slice none 0 0, 0, true, rfl, HFN.out.1, HFN.out.2.1, World.ownsRow_nil _ _ _ _, ⟨⟨e_low, e_low, e_low, e_low, e_low, e_low, fun s hs => (by cases hs)⟩, Nat.zero_le _⟩, HON.out⟩
  | cons b r =>
    obtain ⟨g, o, hov, hcell⟩ := Rd.cell (oa := ov) (c := cv) (by rw [← hvv]; exact hp.2.1.rd) (by simp)
    have h11 := hb b r rfl
    have cb : w.cell? ⟨g, o, none⟩ = some (.int .u8 ((b.toNat : Nat) : Int)) := by
      have h := hcell 0 (by simp)
      rw [Nat.add_zero] at h
      exact h
    have cb1 : (w.alloc (.cells zrec 26)).cell? ⟨g, o, none⟩ = some (.int .u8 ((b.toNat : Nat) : Int)) := (hb1.cell (p := ⟨g, o, none⟩) (World.block_lt_of_cell? w _ cb)).trans cb
    subst hvv hov
    obtain ⟨L, hL⟩ : ∃ L, L = (b :: r).length := ⟨_, rfl⟩
    have hL0 : ¬ (L : Int) = 0 := by rw [hL, List.length_cons]; omega
    have hL0b : ((L : Int) == 0) = false := beq_false_of_ne hL0
    have hL1 : (0 : Int) < (L : Int) := by rw [hL, List.length_cons]; omega
    rw [← hL] at p0
    have k1 : (11 : Int) < ((b.toNat : Nat) : Int) := by omega
    have k2 : decide ((11 : Int) < ((b.toNat : Nat) : Int)) = true := decide_eq_true k1
    clear hb hp hP1 hb1 cb hcell hL
    go_enter Tryz.func28, Tryz.ntmps28
    go_wp2_with fail
    refine bodyPost_ret (results_c rfl _ rfl HFN.out.2.2 Tryz.underlying26 rfl sizeRec) rfl ?_
    unfold DrOut
    exact ⟨zR, .slice none 0 0, 0, true, rfl, HFN.out.1, HFN.out.2.1, World.ownsRow_nil _ _ _ _, ⟨⟨e_low, e_low, e_low, e_low, e_low, e_low, fun s hs => (by cases hs)⟩, Nat.zero_le _⟩, HON.out⟩

theorem drec_any (K p : Nat) (v : Value) (l : List UInt8) (w : World) (hp : Pl K p v l w 0 false) (HTB : ∀ X, Fr [p] w X → HTab X) (hK : K ≤ p) :
    Calls Tryz.prog 28 #[.pointer (some ⟨p, 0, none⟩)] w (DrOut K p v l w) := by
  cases l with
  | nil => exact drec_bad K p v [] w (fun b r h => (by cases h)) hp hK
  | cons b r =>
    by_cases h : 11 < b.toNat
    · exact drec_bad K p v (b :: r) w (fun b' r' e => by cases e; exact h) hp hK
    · have hc : b.toNat = 0 ∨ b.toNat = 1 ∨ b.toNat = 2 ∨ b.toNat = 3 ∨ b.toNat = 4 ∨ b.toNat = 5 ∨ b.toNat = 6 ∨ b.toNat = 7 ∨ b.toNat = 8 ∨ b.toNat = 9 ∨ b.toNat = 10 ∨ b.toNat = 11 := by omega
      rcases hc with h | h | h | h | h | h | h | h | h | h | h | h
      · exact drec_0 K p v b r w h hp HTB hK
      · exact drec_1 K p v b r w h hp HTB hK
      · exact drec_2 K p v b r w h hp HTB hK
      · exact drec_3 K p v b r w h hp HTB hK
      · exact drec_4 K p v b r w h hp HTB hK
      · exact drec_5 K p v b r w h hp HTB hK
      · exact drec_6 K p v b r w h hp HTB hK
      · exact drec_7 K p v b r w h hp HTB hK
      · exact drec_8 K p v b r w h hp HTB hK
      · exact drec_9 K p v b r w h hp HTB hK
      · exact drec_10 K p v b r w h hp HTB hK
      · exact drec_11 K p v b r w h hp HTB hK

set_option maxRecDepth 100000 in
set_option maxHeartbeats 12800000 in
theorem refDecode_any (l : List UInt8) (v : Value) (w : World) (hv : Lo w.heap.size w v l) (hl : l.length ≤ 1048576) (ht : HTab w) :
    Calls Tryz.prog 14 #[v] w (DecOut l (.int .i64 0) (.int .i64 2) w) := by
  obtain ⟨ov, cv, hvv⟩ : ∃ ov cv, v = .slice ov l.length cv := by obtain ⟨a, b, h, _⟩ := hv; exact ⟨a, b, h⟩
  obtain ⟨W, hW⟩ : ∃ W, W = (w.alloc (.cells zrec 26)).alloc (.cells #[v, .int .i64 0, .bool false] 63) := ⟨_, rfl⟩
  have hbW : Below w.heap.size w W := by rw [hW]; exact ((Below.refl _ _).alloc (Nat.le_refl _) _).alloc (by simp) _
  have hzW : W.heap.size = w.heap.size + 2 := by rw [hW]; simp
  have h0 : W.heap[w.heap.size]? = some (.cells zrec 26 (0, 0)) := by
    rw [hW]
    exact (heap_alloc_old _ _ (by simp)).trans (heap_alloc_new w _)
  have h1 : W.heap[w.heap.size + 1]? = some (.cells #[v, .int .i64 0, .bool false] 63 (0, 0)) := by
    rw [hW]
    have := heap_alloc_new (w.alloc (.cells zrec 26)) (.cells #[v, .int .i64 0, .bool false] 63 (0, 0))
    rw [World.size_alloc] at this
    exact this
  have hpl : Pl w.heap.size (w.heap.size + 1) v l W 0 false := ⟨h1, hv.keep (fun g hg _ => hbW.block g hg) hbW.size, Nat.zero_le _, hl⟩
  have HFB : Hid (∀ X, Fr [w.heap.size + 1] W X → Below w.heap.size w X) := fun X hX => hbW.trans (hX.below (fun k hk => by rw [List.mem_singleton.1 hk]; omega) hbW.size)
  have HDR := hide (drec_any w.heap.size (w.heap.size + 1) v l W hpl (fun X hX => ht.below (HFB.out X hX)) (by omega))
  have HT := hide ht
  have HV := hide hv
  have HH0 := hide h0
  have HZW := hide hzW
  have HW := hide hW
  subst hvv
  clear hv ht h0 h1 hW hzW hpl hbW
  unfold DecOut
  go_enter Tryz.func14, Tryz.ntmps14
  go_wp2_with fail
  rw [← HW.out]
  refine HDR.out.mono ?_
  rintro x w1 ⟨r, vr, a1, b1, rfl, hpl, hfr, hown, hlow, hon⟩
  obtain ⟨osl, csl, rfl⟩ := own_slice hown
  have HB1 := hide (HFB.out w1 hfr)
  obtain ⟨X, hX⟩ : ∃ X, X = w1.alloc (.cells (rcs r (.slice osl r.ss.length csl)) 26) := ⟨_, rfl⟩
  have bX : Below w1.heap.size w1 X := by rw [hX]; exact (Below.refl _ _).alloc (Nat.le_refl _) _
  have hQ : X.heap[w1.heap.size]? = some (.cells (rcs r (.slice osl r.ss.length csl)) 26 (0, 0)) := by rw [hX]; exact heap_alloc_new w1 _
  have HRX : Hid (X.rangeAt w1.heap.size 0 (rcl9 r (.slice osl r.ss.length csl))) := range_of (t := 26) hQ
  have hsm : r.Small := by
    have := hlow.1
    have hr : 1048576 ≤ reachBytes := by unfold reachBytes; decide
    exact ⟨Nat.le_trans this.id hr, Nat.le_trans this.us hr, Nat.le_trans this.cl hr, Nat.le_trans this.rd hr, Nat.le_trans this.ch hr, Nat.le_trans this.cd hr, by have := hlow.2; omega, fun s hs => by have := hlow.1.ss s hs; omega⟩
  have HEN := hide (refEncode_any r (.slice osl r.ss.length csl) X ((ss.lies_of_own hown).below bX) hsm hlow.1 (HT.out.below (keepW HB1.out bX)))
  unfold REncOut at HEN
  obtain ⟨A, hA⟩ : ∃ A, A = (if mayB r then recL r else []) := ⟨_, rfl⟩
  have hAl : A.length ≤ 30000000 := by
    rw [hA]
    cases hm : mayB r with
    | false => simp
    | true => exact recL_len hlow.1 hlow.2
  obtain ⟨N, hN⟩ : ∃ N, N = chN r := ⟨_, rfl⟩
  rw [← hA, ← hN] at HEN
  have HX := hide hX
  rw [hX] at HRX
  have HA := hide hA
  have HN := hide hN
  have HQ := hide hQ
  have HBX := hide bX
  have HPL := hide hpl
  have HLOW := hide hlow
  have HON := hide hon
  have HOW : Hid (w1.ownsRow W.heap.size 9 1 (.slice osl r.ss.length csl) r.ss.length (r.ss.map Value.string)) := hown
  have HH1 : Hid (w1.heap[w.heap.size]? = some (.cells zrec 26 (0, 0))) := (hfr.block _ (by have := HZW.out; omega) (fun hm => by have := List.mem_singleton.1 hm; omega)).trans HH0.out
  have HLT : Hid (w.heap.size + 1 < w1.heap.size) := by have := hfr.size; have := HZW.out; show _ < _; omega
  clear hX hQ bX hpl hfr hown hlow hon hA hN hsm HDR
  go_wp2_with (refine wpList_load_mid rfl 26 (.tmp 5) rfl w1.heap.size 0 rfl _ _ HRX.out Tryz.underlying26 rfl sizeRec ?_)
  rw [← HX.out]
  refine HEN.out.mono ?_
  rintro x y1 ⟨vq, rfl, ⟨nq, -, ownq⟩, c1⟩
  obtain ⟨oq, cq, rfl⟩ := own_slice ownq
  have HC1 := hide (keepW HBX.out c1)
  have HSB := hide (sameBytes_dec y1 (.slice ov l.length cv) _ l A (HV.out.rd.below (keepW HB1.out HC1.out)) (rd_own ownq) (by omega) (by omega))
  have HQ1 : Hid (y1.heap[w1.heap.size]? = some (.cells (rcs r (.slice osl r.ss.length csl)) 26 (0, 0))) := (c1.block _ (Array.getElem?_eq_some_iff.1 HQ.out).1).trans HQ.out
  obtain ⟨D, hD⟩ : ∃ D, D = decide (l = A) := ⟨_, rfl⟩
  rw [← hD] at HSB
  have HD := hide hD
  clear ownq c1 hD HEN
  go_wp2_with fail
  refine HSB.out.mono ?_
  rintro x y2 ⟨rfl, c2⟩
  have HC2 := hide (keepW HC1.out c2)
  have HQ2 : Hid (y2.heap[w1.heap.size]? = some (.cells (rcs r (.slice osl r.ss.length csl)) 26 (0, 0))) := (c2.block _ (Array.getElem?_eq_some_iff.1 HQ1.out).1).trans HQ1.out
  have HR2 : Hid (y2.rangeAt w1.heap.size 0 (rcl9 r (.slice osl r.ss.length csl))) := range_of (t := 26) HQ2.out
  have HP2 : Hid (y2.heap[w.heap.size + 1]? = some (.cells #[.slice ov l.length cv, .int .i64 (a1 : Int), .bool b1] 63 (0, 0))) := (HC2.out.block _ HLT.out).trans HPL.out.1
  have p2 : y2.cell? ⟨w.heap.size + 1, 2, none⟩ = some (.bool b1) := cell_of HP2.out 2
  have HT2 : Hid (y2.there w.heap.size 0 9) := there_of (cur := zrec.toList) ((HC2.out.block _ (by have := HLT.out; omega)).trans HH1.out) 0 9 (by simp)
  have HBY := hide (keepW HB1.out HC2.out)
  have HOY := hide (own_below HOW.out HC2.out)
  clear c2 HSB HQ1
  have HFB2 : Hid (∀ cs : List Value, Below w.heap.size w (y2.setCells w.heap.size 0 cs)) := fun cs => HBY.out.trans (((Fr.refl [w.heap.size] y2).sets w.heap.size 0 _ (Or.inl (List.mem_singleton.2 rfl))).below (fun k hk => by rw [List.mem_singleton.1 hk]; exact Nat.le_refl _) HBY.out.size)
  by_cases hyes : b1 = false ∧ mayB r = true ∧ l = recL r
  · obtain ⟨rfl, hm, hlr⟩ := hyes
    have HDY : Hid (DecR l (some r)) := ⟨fun y hy => (by cases hy; exact ⟨hm, HLOW.out.1, HLOW.out.2, hlr.symm⟩), fun y a b c => (by rw [(HON.out y a b c.symm).1])⟩
    have hN0 : N = 0 := by rw [HN.out]; unfold chN; rw [hm]; rfl
    have hDt : D = true := by rw [HD.out, HA.out, hm]; exact decide_eq_true hlr
    subst hN0 hDt
    clear hm hlr
    go_wp2_with (first
      | (refine wpList_load_mid rfl 26 (.tmp 5) rfl w1.heap.size 0 rfl _ _ HR2.out Tryz.underlying26 rfl sizeRec ?_)
      | (refine wpList_store_mid rfl 26 (.tmp 2) (.tmp 35) rfl w.heap.size 0 (rcs r (.slice osl r.ss.length csl)) rfl rfl HT2.out sizeRec (rcs_one _ _ _ _) ?_))
    refine bodyPost_ret (results_ct rfl _ rfl rfl (World.rangeAt_setCells_same _ w.heap.size 0 (rcs r (.slice osl r.ss.length csl)).toList HT2.out) Tryz.underlying26 rfl sizeRec) rfl ?_
    exact ⟨some r, .slice osl r.ss.length csl, rfl, own_least (own_at HOY.out (fun g hg => sets_other _ _ _ _ _ (by have := HZW.out; omega))) (by have := HZW.out; omega), HFB2.out _, HDY.out⟩
  · have HDN : Hid (DecR l none) := ⟨fun y hy => (by cases hy), fun y a b c => (hyes (by
      obtain ⟨h1, h2⟩ := HON.out y a b c.symm
      rw [h1]
      exact ⟨h2, a, c.symm⟩)).elim⟩
    have hcs : b1 = true ∨ (b1 = false ∧ N = 1) ∨ (b1 = false ∧ N = 0 ∧ D = false) := by
      cases b1 with
      | true => exact Or.inl rfl
      | false =>
        cases hm : mayB r with
        | false => exact Or.inr (Or.inl ⟨rfl, by rw [HN.out]; unfold chN; rw [hm]; rfl⟩)
        | true =>
          refine Or.inr (Or.inr ⟨rfl, by rw [HN.out]; unfold chN; rw [hm]; rfl, ?_⟩)
          rw [HD.out, HA.out, hm]
          exact decide_eq_false (fun h => hyes ⟨rfl, hm, h⟩)
    clear hyes
    have hz9 : zrec.all (·.oneCell') = true := rcs_one zR none 0 0
    rcases hcs with rfl | ⟨rfl, rfl⟩ | ⟨rfl, rfl, rfl⟩
    all_goals
      go_wp2_with (refine wpList_store_mid rfl 26 (.tmp 2) (.tmp 34) rfl w.heap.size 0 zrec rfl rfl HT2.out sizeRec hz9 ?_)
      refine bodyPost_ret (results_ct rfl _ rfl rfl (World.rangeAt_setCells_same _ w.heap.size 0 zrec.toList HT2.out) Tryz.underlying26 rfl sizeRec) rfl ?_
      exact ⟨none, .slice none 0 0, rfl, World.ownsRow_nil _ _ _ _, HFB2.out _, HDN.out⟩
end Go.Proofs.YtimbhneegphhbaaGreatDoor.rc

namespace Go.Proofs.YtimbhneegphhbaaGreatDoor.rc
open Go.ChangeShapes Go.WideShapes Go.ChangeAt Go.RowKit Go.Proofs.YtimbhneegphhbaaGreatDoor.common Go.Proofs.YtimbhneegphhbaaGreatDoor.dk Go.Proofs.YtimbhneegphhbaaGreatDoor.ss

set_option maxRecDepth 100000 in
set_option maxHeartbeats 6400000 in
theorem refPack_any (l : List Rec) (v : Value) (w : World) (hv : LiesR w v l) (hz : ∀ r ∈ l, r.Small ∧ r.Low) (ht : HTab w) :
    Calls Tryz.prog 8 #[v] w (PackOut l (fun n => .int .i64 (n : Int)) w) := by
  obtain ⟨ov, cv, hvv⟩ : ∃ ov cv, v = .slice ov l.length cv := by obtain ⟨a, b, h, _⟩ := hv; exact ⟨a, b, h⟩
  unfold PackOut
  by_cases h4 : 4 < l.length
  · have hE : pkE l = 3 := by unfold pkE; rw [if_pos h4]
    have hL : pkL l = [] := by unfold pkL; rw [if_pos h4]
    rw [hE, hL]
    have k1 : (4 : Int) < (l.length : Int) := by omega
    subst hvv
    clear hv hz ht hE hL
    go_enter Tryz.func8, Tryz.ntmps8
    go_wp2_with fail
    go_ret2
    exact ⟨_, rfl, World.ownsRow_nil _ _ _ _, Below.refl _ _⟩
  by_cases h0 : l.length = 0
  · have hE : pkE l = 1 := by unfold pkE; rw [if_neg h4, if_pos h0]
    have hL : pkL l = [] := by unfold pkL; rw [if_neg h4, if_pos h0]
    rw [hE, hL]
    rw [h0] at hvv
    subst hvv
    clear hv hz ht hE hL
    go_enter Tryz.func8, Tryz.ntmps8
    go_wp2_with fail
    go_ret2
    exact ⟨_, rfl, World.ownsRow_nil _ _ _ _, Below.refl _ _⟩
  have hn4 : l.length ≤ 4 := by omega
  have HE3 : Hid (pkE l = if pkOk l then 0 else 1) := by show _ = _; unfold pkE; rw [if_neg h4, if_neg h0]
  have HL3 : Hid (pkL l = if pkOk l then numL l.length ++ l.flatMap oneL else []) := by show _ = _; unfold pkL; rw [if_neg h4, if_neg h0]
  show Calls _ _ _ _ (fun x w' => ∃ v', x = .returned (.tuple #[v', .int .i64 ((pkE l : Nat) : Int)]) ∧ w'.ownsRow w.heap.size 5 1 v' (pkL l).length ((pkL l).map B) ∧ Below w.heap.size w w')
  obtain ⟨Ev, hEv⟩ : ∃ Ev : Value, Ev = .int .i64 ((pkE l : Nat) : Int) := ⟨_, rfl⟩
  rw [← hEv]
  have HEV : Hid (Ev = if pkOk l then .int .i64 0 else .int .i64 1) := by
    show Ev = _
    rw [hEv, HE3.out]
    cases pkOk l <;> rfl
  clear hEv
  have k1 : ¬ (4 : Int) < (l.length : Int) := by omega
  have k2 : ¬ (l.length : Int) = 0 := by omega
  have k2b : ((l.length : Int) == 0) = false := beq_false_of_ne k2
  have HV : Hid (∀ X, Below w.heap.size w X → LiesR X v l) := fun X hX => hv.below hX
  have HEN : Hid (∀ X, Below w.heap.size w X → HTab X) := fun X hX => ht.below hX
  have HZ := hide hz
  have hnl : (numL l.length).length ≤ 10 := (numF_len 9 l.length).2
  have HNUM := hide (refNumber_any l.length w (by omega))
  clear hv hz ht
  subst hvv
  go_enter Tryz.func8, Tryz.ntmps8
  go_wp2_with fail
  refine HNUM.out.mono ?_
  rintro x w1 ⟨v1, rfl, hown, hb1⟩
  have HB1 := hide hb1
  have HO1 := hide hown
  clear hown hb1 HNUM
  go_wp2_with fail
  go_loopw [4, 5] (fun vo i wr => ∃ j : Nat, j ≤ l.length ∧ i = .int .i64 j ∧ (∀ r ∈ l.take j, mayB r = true) ∧ wr.ownsRow w.heap.size 5 1 vo (numL l.length ++ (l.take j).flatMap oneL).length ((numL l.length ++ (l.take j).flatMap oneL).map B) ∧ Below w.heap.size w wr) (fun _ i _ => l.length - (intOf i).toNat)
  case atStart => exact ⟨0, Nat.zero_le _, rfl, by simp, by simpa using HO1.out, HB1.out⟩
  case round =>
    obtain ⟨j, hj, rfl, hall, hown, hbl⟩ := hrel
    have HALL := hide hall
    have HBL := hide hbl
    have hlj : (numL l.length ++ (l.take j).flatMap oneL).length ≤ 200000000 := by
      have h1 := flat_one (l.take j) (fun r hr => by
        have hm := hall r hr
        have hlo := (HZ.out r (List.mem_of_mem_take hr)).2
        exact ⟨hlo, (fine_of hm hlo).2.2.len⟩)
      have h2 : (l.take j).length ≤ 4 := by rw [List.length_take]; omega
      have h3 := Nat.mul_le_mul_right 30000010 h2
      rw [List.length_append]
      omega
    obtain ⟨lj, hljE⟩ : ∃ lj, lj = numL l.length ++ (l.take j).flatMap oneL := ⟨_, rfl⟩
    rw [← hljE] at hown hlj
    obtain ⟨oj, cj, rfl⟩ := own_slice hown
    have HO := hide hown
    have HLJ := hide hljE
    by_cases hlt : j < l.length
    · have j0 : (0 : Int) ≤ (j : Int) := Int.natCast_nonneg _
      have j1 : (j : Int) < (l.length : Int) := by omega
      obtain ⟨_, _, hq, hcc⟩ := HV.out wr hbl
      cases hq
      obtain ⟨g, o, vi, rfl, hg, hrg, hli⟩ := hcc j hlt
      obtain ⟨os, cs, rfl⟩ := Lies.len hli
      have hsm := HZ.out _ (List.getElem_mem hlt)
      have HTK : Hid (numL l.length ++ (l.take (j + 1)).flatMap oneL = lj ++ oneL l[j]) := by
        show _ = _
        rw [List.take_succ_eq_append_getElem hlt, List.flatMap_append, hljE]
        simp
      have HAL2 : Hid (mayB l[j] = true → ∀ r ∈ l.take (j + 1), mayB r = true) := fun hm r hr => by
        rw [List.take_succ_eq_append_getElem hlt] at hr
        rcases List.mem_append.1 hr with h | h
        · exact hall r h
        · rw [List.mem_singleton.1 h]; exact hm
      have HNO : Hid (mayB l[j] = false → pkOk l = false) := fun hm => by
        unfold pkOk
        rw [List.all_eq_false]
        exact ⟨_, List.getElem_mem hlt, by simp [hm]⟩
      generalize l[j]'hlt = r at *
      have HENC := hide (refEncode_any r (.slice os r.ss.length cs) wr hli hsm.1 hsm.2 (HEN.out wr hbl))
      unfold REncOut at HENC
      have HRG := hide hrg
      have HLOW := hide hsm.2
      clear hown hljE hcc hli hsm hall hbl hrg
      go_wp2_with (refine wpList_load_mid rfl 26 (.tmp 27) rfl g (o + j * 9) rfl _ _ HRG.out Tryz.underlying26 rfl sizeRec ?_)
      refine HENC.out.mono ?_
      rintro x y ⟨vp, rfl, ⟨n, hn, ownp⟩, by1⟩
      obtain ⟨op, cp, hvp⟩ := own_slice ownp
      have HBY := hide by1
      cases hm : mayB r with
      | false =>
        rw [hm] at ownp hvp
        simp only [Bool.false_eq_true, if_false] at ownp hvp
        have hc : chN r = 1 := by unfold chN; rw [hm]; rfl
        rw [hc]
        have HOKF : Hid (pkOk l = false) := HNO.out hm
        subst hvp
        clear ownp hm hn by1 hc
        go_wp2_with fail
        go_ret2
        exact ⟨_, by rw [HEV.out, HOKF.out]; rfl, by rw [HL3.out, HOKF.out]; exact World.ownsRow_nil _ _ _ _, keepW HBL.out HBY.out⟩
      | true =>
        rw [hm] at ownp hvp
        simp only [if_true] at ownp hvp
        have hc : chN r = 0 := by unfold chN; rw [hm]; rfl
        rw [hc]
        have HALN := hide (HAL2.out hm)
        have hrl := recL_len HLOW.out (fine_of hm HLOW.out).2.2.len
        have HOY := hide (own_below HO.out HBY.out)
        have HOP := hide ownp
        have HN2 := hide hn
        have hwy : w.heap.size ≤ y.heap.size := (keepW HBL.out HBY.out).size
        have HAN := hide (refNumber_any (recL r).length y (by omega))
        subst hvp
        clear ownp hm hn by1 hc
        go_wp2_with fail
        refine HAN.out.mono ?_
        rintro x z ⟨vn, rfl, ownn, bz⟩
        obtain ⟨on, cn, rfl⟩ := own_slice ownn
        have hnb : (numL (recL r).length).length ≤ 10 := (numF_len 9 _).2
        have hwz : w.heap.size ≤ z.heap.size := Nat.le_trans hwy bz.size
        have HOZ := hide (own_below HOY.out bz)
        have hopz := own_below HOP.out bz
        obtain ⟨v3, Z1, hrun1, own3, fr3, at3⟩ := dr.append_rd z w.heap.size _ lj HOZ.out on cn _ (rd_own ownn) (by omega) hwz
        have gr3 := gr_of fr3 at3
        have hop2 := own_fr hopz gr3.fr (fun k hk hm => far_off HO.out hopz HN2.out k (by simpa using hm) hk)
        obtain ⟨o3, n3, c3, rfl⟩ : ∃ o3 n3 c3, v3 = .slice o3 n3 c3 := by obtain ⟨a, b, h⟩ := own_slice own3; exact ⟨a, _, b, h⟩
        have hwz1 : w.heap.size ≤ Z1.heap.size := Nat.le_trans hwz gr3.fr.size
        obtain ⟨v4, Z, hrun, own4, fr4, at4⟩ := dr.append_rd Z1 w.heap.size _ _ own3 op cp (recL r) (rd_own hop2) (by rw [List.length_append]; omega) hwz1
        have gr4 := gr3.trans (gr_of fr4 at4)
        have HZ4 : Hid (Z.ownsRow w.heap.size 5 1 v4 (numL l.length ++ (l.take (j + 1)).flatMap oneL).length ((numL l.length ++ (l.take (j + 1)).flatMap oneL).map B)) := by
          show World.ownsRow _ _ _ _ _ _ _
          rw [HTK.out]
          unfold oneL
          rw [← List.append_assoc]
          exact own4
        have HBZ : Hid (Below w.heap.size w Z) := ((keepW (keepW HBL.out HBY.out) bz)).trans (gr4.below (own_ge HOZ.out) hwz)
        clear ownn bz own3 gr3 fr3 at3 hop2 hopz own4 fr4 at4 gr4
        go_wp2_with (at_builtin; first | (refine wpList_appendX rfl _ _ 27 27 rfl _ _ rfl rfl _ _ hrun1 ?_) | (refine wpList_appendX rfl _ _ 27 27 rfl _ _ rfl rfl _ _ hrun ?_))
        go_roundw
        case rel => exact ⟨j + 1, by omega, by go_num, HALN.out, HZ4.out, HBZ.out⟩
        case measure => simp [intOf]; omega
    · have j1 : ¬ (j : Int) < (l.length : Int) := by omega
      have HOK : Hid (pkOk l = true) := by
        show pkOk l = true
        unfold pkOk
        rw [List.all_eq_true]
        rw [List.take_of_length_le (by omega)] at hall
        exact hall
      have HLE : Hid (lj = pkL l) := by
        show lj = _
        rw [HL3.out, HOK.out, hljE, List.take_of_length_le (by omega)]
        rfl
      clear hown hljE hall hbl
      go_wp2_with fail
      go_ret2
      exact ⟨_, by rw [HEV.out, HOK.out]; rfl, by rw [← HLE.out]; exact HO.out, HBL.out⟩
end Go.Proofs.YtimbhneegphhbaaGreatDoor.rc

namespace Go.Proofs.YtimbhneegphhbaaGreatDoor.rc
open Go.ChangeShapes Go.WideShapes Go.ChangeAt Go.RowKit Go.Proofs.YtimbhneegphhbaaGreatDoor.common Go.Proofs.YtimbhneegphhbaaGreatDoor.dk
attribute [local go_sem ↓] Go.wp_at_zero Go.wp_at_succ

theorem OwnR.fr {base P : Nat} {w w' : World} {v : Value} {l : List Rec} {s : List Value} (h : OwnR base w v l s) (hf : Fr [P] w w') (hP : P < base) : OwnR base w' v l s :=
  have hf2 : Fr [P, P] w w' := hf.mono (fun k hk => by rw [List.mem_singleton.1 hk]; exact List.mem_cons_self ..)
  ⟨h.len, own_pq h.row hf2 hP hP, fun i hi => own_pq (h.each i hi) hf2 hP hP⟩
theorem d_on {l : List UInt8} {a : Nat} {b : Bool} {x : ByteArray} {s' : St} (h : TOn (stP l a b) x s') (hl : l.length ≤ 1048576) : ∀ y t, y.size ≤ 30000000 → stP l a b = some (txL y ++ t) → x = y ∧ s' = some t := fun y t _ e => by
  refine h y t ?_ e
  cases b with
  | true => cases e
  | false =>
    have e : some (l.drop a) = some (txL y ++ t) := e
    have h1 := congrArg List.length (Option.some.inj e)
    rw [List.length_drop, List.length_append] at h1
    unfold txL at h1
    rw [List.length_append] at h1
    have h2 : y.data.toList.length = y.size := by simp
    show _ ≤ _
    omega
theorem dnum_on {p : List UInt8} {n : Nat} {s : St} (h : On numL (fun y => y < 72057594037927936) (some p) n s) : ∀ y : List Rec, 0 < y.length → y.length ≤ 4 → GoodL y → numL y.length ++ y.flatMap oneL = p → n = y.length ∧ s = some (y.flatMap oneL ++ []) := fun y _ h4 _ e => by
  have := h y.length (y.flatMap oneL) (by show _ < _; omega) (by rw [e])
  rw [List.append_nil]
  exact this
theorem un_lostN {p : List UInt8} {n : Nat} {s : St} (h : On numL (fun y => y < 72057594037927936) (some p) n s) (hs : s = none ∨ 4 < n) : UnR p none :=
  ⟨fun l hl => (by cases hl), fun y h0 h4 hy e => (by
    obtain ⟨h1, h2⟩ := dnum_on h y h0 h4 hy e
    rcases hs with hs | hs
    · rw [hs] at h2; cases h2
    · omega)⟩
theorem un_lostT {i n : Nat} {p : List UInt8} {s1 s2 : St} {xs : List Rec} {x : ByteArray} (hn : ∀ y, 0 < y.length → y.length ≤ 4 → GoodL y → numL y.length ++ y.flatMap oneL = p → n = y.length ∧ s1 = some (y.flatMap oneL ++ []))
    (h : UOn i s1 xs s2) (hi : i < n) (hx : ∀ y l, y.size ≤ 30000000 → s2 = some (txL y ++ l) → x = y ∧ (none : St) = some l) : UnR p none := by
  refine ⟨fun l hl => (by cases hl), fun y h0 h4 hy e => ?_⟩
  obtain ⟨h1, h2⟩ := hn y h0 h4 hy e
  have hs1 := uon_head h hy (by omega) h2
  have hg := hy y[i] (List.getElem_mem (by omega))
  have hsz : (rtx y[i]).size ≤ 30000000 := by
    have h1 : (rtx y[i]).size = (recL y[i]).length := by unfold rtx; show (recL y[i]).toArray.size = _; simp
    rw [h1]
    exact recL_len hg.2.1 hg.2.2
  have := (hx _ _ hsz hs1).2
  cases this
theorem good_small {l : List Rec} (h : GoodL l) : ∀ r ∈ l, r.Small ∧ r.Low := fun r hr => by
  obtain ⟨_, hl, h16⟩ := h r hr
  have hb : 1048576 ≤ reachBytes := by unfold reachBytes; decide
  exact ⟨⟨Nat.le_trans hl.id hb, Nat.le_trans hl.us hb, Nat.le_trans hl.cl hb, Nat.le_trans hl.rd hb, Nat.le_trans hl.ch hb, Nat.le_trans hl.cd hb, by omega, fun s hs => by have := hl.ss s hs; omega⟩, hl⟩
theorem pk_good {y : List Rec} (hy : GoodL y) (h0 : 0 < y.length) (h4 : y.length ≤ 4) : pkE y = 0 ∧ pkL y = numL y.length ++ y.flatMap oneL := by
  have hok : pkOk y = true := by unfold pkOk; rw [List.all_eq_true]; exact fun r hr => (hy r hr).1
  refine ⟨?_, ?_⟩
  · unfold pkE
    rw [if_neg (by omega), if_neg (by omega), hok]
    rfl
  · unfold pkL
    rw [if_neg (by omega), if_neg (by omega), hok]
    rfl
theorem pk_zero {y : List Rec} (h : pkE y = 0) : 0 < y.length ∧ y.length ≤ 4 ∧ pkL y = numL y.length ++ y.flatMap oneL := by
  unfold pkE at h
  by_cases h4 : 4 < y.length
  · rw [if_pos h4] at h; cases h
  rw [if_neg h4] at h
  by_cases h0 : y.length = 0
  · rw [if_pos h0] at h; cases h
  rw [if_neg h0] at h
  cases hok : pkOk y with
  | false => rw [hok] at h; cases h
  | true =>
    refine ⟨by omega, by omega, ?_⟩
    unfold pkL
    rw [if_neg h4, if_neg h0, hok]
    rfl
theorem un_dyes {p : List UInt8} {n : Nat} {s1 s : St} {xs : List Rec} (hn : On numL (fun y => y < 72057594037927936) (some p) n s1) (ho : UOn n s1 xs s) (hg : GoodL xs) (he : pkE xs = 0) (hp : p = pkL xs) : UnR p (some xs) := by
  obtain ⟨h0, h4, hL⟩ := pk_zero he
  refine ⟨fun l hl => ?_, fun y y0 y4 hy e => ?_⟩
  · cases hl
    exact ⟨h0, h4, hg, by rw [hp, hL]⟩
  · obtain ⟨e1, e2⟩ := dnum_on hn y y0 y4 hy e
    rw [(ho y [] hy (by omega) e2).1, List.take_of_length_le (by omega)]
theorem un_dno {p : List UInt8} {n : Nat} {s1 s : St} {xs : List Rec} (hn : On numL (fun y => y < 72057594037927936) (some p) n s1) (ho : UOn n s1 xs s) (hno : ¬ (pkE xs = 0 ∧ p = pkL xs)) : UnR p none := by
  refine ⟨fun l hl => (by cases hl), fun y y0 y4 hy e => ?_⟩
  obtain ⟨e1, e2⟩ := dnum_on hn y y0 y4 hy e
  have hxy : xs = y := by rw [(ho y [] hy (by omega) e2).1, List.take_of_length_le (by omega)]
  obtain ⟨a1, a2⟩ := pk_good hy y0 y4
  exact (hno (by rw [hxy]; exact ⟨a1, by rw [a2, e]⟩)).elim
end Go.Proofs.YtimbhneegphhbaaGreatDoor.rc
