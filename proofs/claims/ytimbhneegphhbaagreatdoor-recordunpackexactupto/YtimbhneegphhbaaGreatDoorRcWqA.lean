import Derived.Test.YtimbhneegphhbaaGreatDoorRcWkA
import Derived.Test.YtimbhneegphhbaaGreatDoorRcFin
import Derived.Test.YtimbhneegphhbaaGreatDoorRcLent
namespace Go.Proofs.YtimbhneegphhbaaGreatDoor.rc
open Go.ChangeShapes Go.WideShapes Go.ChangeAt Go.RowKit Go.Proofs.YtimbhneegphhbaaGreatDoor.common Go.Proofs.YtimbhneegphhbaaGreatDoor.dk

theorem rnil_kind (a : Addr) (W : World) : (nilAhead 329 58 (.pointer (some a)) "usher/record.kind").run Tryz.prog W = .ok (some false) W := by kernel_rfl
theorem rmet_kind (a : Addr) (W : World) : (method 329 58 (.pointer (some a)) "usher/record.kind").run Tryz.prog W = .ok (222, .pointer (some a)) W := by kernel_rfl
theorem rnil_text (a : Addr) (W : World) : (nilAhead 329 58 (.pointer (some a)) "usher/record.text").run Tryz.prog W = .ok (some false) W := by kernel_rfl
theorem rmet_text (a : Addr) (W : World) : (method 329 58 (.pointer (some a)) "usher/record.text").run Tryz.prog W = .ok (224, .pointer (some a)) W := by kernel_rfl
theorem rnil_list (a : Addr) (W : World) : (nilAhead 329 58 (.pointer (some a)) "usher/record.list").run Tryz.prog W = .ok (some false) W := by kernel_rfl
theorem rmet_list (a : Addr) (W : World) : (method 329 58 (.pointer (some a)) "usher/record.list").run Tryz.prog W = .ok (223, .pointer (some a)) W := by kernel_rfl
theorem rnil_number (a : Addr) (W : World) : (nilAhead 329 58 (.pointer (some a)) "usher/record.number").run Tryz.prog W = .ok (some false) W := by kernel_rfl
theorem rmet_number (a : Addr) (W : World) : (method 329 58 (.pointer (some a)) "usher/record.number").run Tryz.prog W = .ok (30, .pointer (some a)) W := by kernel_rfl
theorem Rs.drew {K p : Nat} {w : World} {s : St} (h : Rs K p w s) : Rs K p w.drew s := h.keep (fun _ _ _ => rfl) rfl (Nat.le_refl _)
theorem frD (F : List Nat) (w : World) : Fr F w w.drew := (Fr.refl F w).next ((Below.refl _ _).drew)
theorem frN {F : List Nat} {a w w' : World} (h : Fr F a w) (k : Fr F w.drew w') : Fr F a w' := (h.trans (frD F w) (fun _ hi => Or.inl hi)).trans k (fun _ hi => Or.inl hi)
theorem ktab_fr {p q : Nat} {w w' : World} (h : KTab w) (hf : Fr [p, q] w w') (hp : 21 < p) (hq : 21 < q) : KTab w' := fun i hi => by
  rw [← h i hi]
  refine World.cell?_of_block (hf.block _ (World.block_lt_of_cell? w _ (h i hi)) (fun hm => ?_))
  rcases List.mem_cons.1 hm with e | e
  · have e' : 21 = p := e
    omega
  · have e' : 21 = q := List.mem_singleton.1 e
    omega
theorem own_pq {p q base : Nat} {w w' : World} {t : TypeId} {z : Nat} {v : Value} {n : Nat} {xs : List Value} (h : w.ownsRow base t z v n xs) (hf : Fr [p, q] w w') (hp : p < base) (hq : q < base) : w'.ownsRow base t z v n xs := by
  refine ⟨h.1, ?_⟩
  rcases h.2 with hh | ⟨g, cap, cur, rfl, hg, hh, hn⟩
  · exact Or.inl hh
  · refine Or.inr ⟨g, cap, cur, rfl, hg, (hf.block g (Array.getElem?_eq_some_iff.1 hh).1 (fun hm => ?_)).trans hh, hn⟩
    rcases List.mem_cons.1 hm with e | e
    · omega
    · have := List.mem_singleton.1 e; omega
/-- how the walk ends -/
def WalkOut (K p q : Nat) (l : List UInt8) (w : World) (x : Ending) (w' : World) : Prop :=
  x = .returned (.tuple #[]) ∧ ∃ (r : Rec) (v : Value) (s : St), w'.heap[q]? = some (.cells (rcs r v) 26 (0, 0)) ∧ w'.ownsRow w.heap.size 9 1 v r.ss.length (r.ss.map Value.string) ∧ Rs K p w' s ∧ Fr [p, q] w w' ∧ (r.Low ∧ r.ss.length ≤ 16) ∧ Fin l r s
theorem rkind_cons (K p q : Nat) (cs : Array Value) (t : TypeId) (n0 : Int) (b : UInt8) (l : List UInt8) (w : World) (hr : Rs K p w (some (b :: l))) (hq : w.heap[q]? = some (.cells cs t (0, 0))) (hj : cs[0]? = some (.int .i64 n0)) (hpq : p ≠ q) (hKp : K ≤ p) (hKq : K ≤ q) :
    Calls Tryz.prog 222 #[.pointer (some ⟨p, 0, none⟩), .pointer (some ⟨q, 0, none⟩)] w fun x w' => x = .returned (.tuple #[]) ∧ Fr [p, q] w w' ∧ Rs K p w' (some l) ∧ w'.heap[q]? = some (.cells (cs.setIfInBounds 0 (.int .i64 ((b.toNat : Nat) : Int))) t (0, 0)) := by
  refine (rkind_any K p q cs t n0 _ w hr hq hj hpq hKp hKq).mono ?_
  rintro x w' ⟨h1, h2, h3⟩
  rcases h3 with ⟨h, _⟩ | ⟨b', r', h, h4, h5⟩
  · cases h
  · cases h; exact ⟨h1, h2, h4, h5⟩
theorem rkind_nil (K p q : Nat) (cs : Array Value) (t : TypeId) (n0 : Int) (w : World) (hr : Rs K p w (some [])) (hq : w.heap[q]? = some (.cells cs t (0, 0))) (hj : cs[0]? = some (.int .i64 n0)) (hpq : p ≠ q) (hKp : K ≤ p) (hKq : K ≤ q) :
    Calls Tryz.prog 222 #[.pointer (some ⟨p, 0, none⟩), .pointer (some ⟨q, 0, none⟩)] w fun x w' => x = .returned (.tuple #[]) ∧ Fr [p, q] w w' ∧ Rs K p w' none ∧ w'.heap[q]? = some (.cells cs t (0, 0)) := by
  refine (rkind_any K p q cs t n0 _ w hr hq hj hpq hKp hKq).mono ?_
  rintro x w' ⟨h1, h2, h3⟩
  rcases h3 with ⟨_, h4, h5⟩ | ⟨b', r', h, _⟩
  · exact ⟨h1, h2, h4, h5⟩
  · cases h
theorem e_low : (⟨#[]⟩ : ByteArray).size ≤ 1048576 := by decide
end Go.Proofs.YtimbhneegphhbaaGreatDoor.rc

namespace Go.Proofs.YtimbhneegphhbaaGreatDoor.rc
open Go.ChangeShapes Go.WideShapes Go.ChangeAt Go.RowKit Go.Proofs.YtimbhneegphhbaaGreatDoor.common Go.Proofs.YtimbhneegphhbaaGreatDoor.dk

set_option maxRecDepth 100000 in
set_option maxHeartbeats 25600000 in
theorem walkR_nil (K p q : Nat) (w : World) (hr : Rs K p w (some [])) (hq : w.heap[q]? = some (.cells zrec 26 (0, 0))) (hT : KTab w) (hG : 21 < K) (hpq : p ≠ q) (hKp : K ≤ p) (hKq : K ≤ q) :
    Calls Tryz.prog 25 #[.pointer (some ⟨q, 0, none⟩), .iface 58 (.pointer (some ⟨p, 0, none⟩))] w (WalkOut K p q [] w) := by
  have n_kind := rnil_kind ⟨p, 0, none⟩
  have m_kind := rmet_kind ⟨p, 0, none⟩
  have HPL : Hid (p < w.heap.size ∧ q < w.heap.size) := ⟨hr.lt, (Array.getElem?_eq_some_iff.1 hq).1⟩
  have HTT : Hid (∀ X, Fr [p, q] w X → KTab X) := fun X hX => ktab_fr hT hX (by omega) (by omega)
  have HK := hide (rkind_nil K p q zrec 26 0 w.drew hr.drew hq rfl hpq hKp hKq)
  have hnm : nm (0 : Int) 1 = false := by decide
  have HN : Hid (∀ X, Fr [p, q] w X → Calls Tryz.prog 37 #[.int .i64 0, .int .i64 1] X fun e w' => e = .returned (.bool false) ∧ w' = X) := fun X hX => by
    have h := names_any 0 1 X (HTT.out X hX)
    rw [hnm] at h
    exact h
  clear hr hq hT hnm
  unfold WalkOut
  go_enter Tryz.func25, Tryz.ntmps25
  go_wp2_with fail
  go_region_with (go_at_call 222; refine HK.out.mono ?_; rintro x w0 ⟨rfl, hF0, hR0, hq0⟩)
  have HF0 : Hid (Fr [p, q] w w0) := frN (Fr.refl _ _) hF0
  have HR0 : Hid (Rs K p w0 none) := hR0
  have HQ0 : Hid (w0.heap[q]? = some (.cells (rcs ⟨0, ⟨#[]⟩, ⟨#[]⟩, ⟨#[]⟩, ⟨#[]⟩, ⟨#[]⟩, ⟨#[]⟩, [], 0⟩ (.slice none 0 0)) 26 (0, 0))) := hq0
  clear HK hF0 hR0 hq0
  have c0 : w0.cell? ⟨q, 0, none⟩ = some (.int .i64 0) := cell_of HQ0.out 0
  have HNN := hide (HN.out w0 HF0.out)
  go_wp2_with (go_at_call 37; refine HNN.out.mono ?_; rintro x w9 ⟨rfl, h9⟩; obtain rfl := h9.symm)
  first | go_end0 | refine bodyPost_end (results_none rfl _ _ _) rfl ?_
  exact ⟨rfl, ⟨0, ⟨#[]⟩, ⟨#[]⟩, ⟨#[]⟩, ⟨#[]⟩, ⟨#[]⟩, ⟨#[]⟩, [], 0⟩, _, none, HQ0.out, World.ownsRow_nil _ _ _ _, HR0.out, HF0.out, ⟨⟨e_low, e_low, e_low, e_low, e_low, e_low, fun s hs => by cases hs⟩, Nat.zero_le _⟩, ⟨fun h => (by cases h), fun y _ _ e => (fin_none e).elim⟩⟩

set_option maxRecDepth 100000 in
set_option maxHeartbeats 25600000 in
theorem walkR_2 (K p q : Nat) (b : UInt8) (r0 : List UInt8) (w : World) (hb : b.toNat = 2) (hr : Rs K p w (some (b :: r0))) (hq : w.heap[q]? = some (.cells zrec 26 (0, 0))) (hT : KTab w) (hG : 21 < K) (hpq : p ≠ q) (hKp : K ≤ p) (hKq : K ≤ q) :
    Calls Tryz.prog 25 #[.pointer (some ⟨q, 0, none⟩), .iface 58 (.pointer (some ⟨p, 0, none⟩))] w (WalkOut K p q (b :: r0) w) := by
  have n_kind := rnil_kind ⟨p, 0, none⟩
  have m_kind := rmet_kind ⟨p, 0, none⟩
  have n_text := rnil_text ⟨p, 0, none⟩
  have m_text := rmet_text ⟨p, 0, none⟩
  have HPL : Hid (p < w.heap.size ∧ q < w.heap.size) := ⟨hr.lt, (Array.getElem?_eq_some_iff.1 hq).1⟩
  have HTT : Hid (∀ X, Fr [p, q] w X → KTab X) := fun X hX => ktab_fr hT hX (by omega) (by omega)
  have HK := hide (rkind_cons K p q zrec 26 0 b r0 w.drew hr.drew hq rfl hpq hKp hKq)
  have hbi : ((b.toNat : Nat) : Int) = 2 := by rw [hb]; rfl
  rw [hbi] at HK
  have HHB := hide hb
  clear hb hbi
  have hnm : nm (2 : Int) 1 = true := by decide
  have HN : Hid (∀ X, Fr [p, q] w X → Calls Tryz.prog 37 #[.int .i64 2, .int .i64 1] X fun e w' => e = .returned (.bool true) ∧ w' = X) := fun X hX => by
    have h := names_any 2 1 X (HTT.out X hX)
    rw [hnm] at h
    exact h
  clear hr hq hT hnm
  unfold WalkOut
  go_enter Tryz.func25, Tryz.ntmps25
  go_wp2_with fail
  go_region_with (go_at_call 222; refine HK.out.mono ?_; rintro x w0 ⟨rfl, hF0, hR0, hq0⟩)
  have HF0 : Hid (Fr [p, q] w w0) := frN (Fr.refl _ _) hF0
  have HR0 : Hid (Rs K p w0 (some r0)) := hR0
  have HQ0 : Hid (w0.heap[q]? = some (.cells (rcs ⟨2, ⟨#[]⟩, ⟨#[]⟩, ⟨#[]⟩, ⟨#[]⟩, ⟨#[]⟩, ⟨#[]⟩, [], 0⟩ (.slice none 0 0)) 26 (0, 0))) := hq0
  clear HK hF0 hR0 hq0
  have c0 : w0.cell? ⟨q, 0, none⟩ = some (.int .i64 2) := cell_of HQ0.out 0
  have HNN := hide (HN.out w0 HF0.out)
  have HT := hide (rtext_any K p q 1 (rcs ⟨2, ⟨#[]⟩, ⟨#[]⟩, ⟨#[]⟩, ⟨#[]⟩, ⟨#[]⟩, ⟨#[]⟩, [], 0⟩ (.slice none 0 0)) 26 ⟨#[]⟩ (some r0) w0.drew HR0.out.drew HQ0.out rfl hpq hKp hKq)
  go_wp2_with (go_at_call 37; refine HNN.out.mono ?_; rintro x w9 ⟨rfl, h9⟩; obtain rfl := h9.symm)
  go_region_with (go_at_call 224; refine HT.out.mono ?_; rintro x w1 ⟨rfl, y_id, s1, hst, hy, hR, hq, hF⟩)
  have HF1 : Hid (Fr [p, q] w w1) := frN HF0.out hF
  have HR1 := hide hR
  have HQ1 : Hid (w1.heap[q]? = some (.cells (rcs ⟨2, y_id, ⟨#[]⟩, ⟨#[]⟩, ⟨#[]⟩, ⟨#[]⟩, ⟨#[]⟩, [], 0⟩ (.slice none 0 0)) 26 (0, 0))) := hq
  have HS1 := hide hst
  have HY_id := hide hy
  clear HT hst hy hR hq hF c0 HNN
  have c0 : w1.cell? ⟨q, 0, none⟩ = some (.int .i64 2) := cell_of HQ1.out 0
  go_wp2_with fail
  first | go_end0 | refine bodyPost_end (results_none rfl _ _ _) rfl ?_
  exact ⟨rfl, ⟨2, y_id, ⟨#[]⟩, ⟨#[]⟩, ⟨#[]⟩, ⟨#[]⟩, ⟨#[]⟩, [], 0⟩, _, s1, HQ1.out, World.ownsRow_nil _ _ _ _, HR1.out, HF1.out, ⟨⟨HY_id.out, e_low, e_low, e_low, e_low, e_low, fun s hs => by cases hs⟩, Nat.zero_le _⟩, fin_2 HHB.out HS1.out⟩

set_option maxRecDepth 100000 in
set_option maxHeartbeats 25600000 in
theorem walkR_5 (K p q : Nat) (b : UInt8) (r0 : List UInt8) (w : World) (hb : b.toNat = 5) (hr : Rs K p w (some (b :: r0))) (hq : w.heap[q]? = some (.cells zrec 26 (0, 0))) (hT : KTab w) (hG : 21 < K) (hpq : p ≠ q) (hKp : K ≤ p) (hKq : K ≤ q) :
    Calls Tryz.prog 25 #[.pointer (some ⟨q, 0, none⟩), .iface 58 (.pointer (some ⟨p, 0, none⟩))] w (WalkOut K p q (b :: r0) w) := by
  have n_kind := rnil_kind ⟨p, 0, none⟩
  have m_kind := rmet_kind ⟨p, 0, none⟩
  have n_text := rnil_text ⟨p, 0, none⟩
  have m_text := rmet_text ⟨p, 0, none⟩
  have HPL : Hid (p < w.heap.size ∧ q < w.heap.size) := ⟨hr.lt, (Array.getElem?_eq_some_iff.1 hq).1⟩
  have HTT : Hid (∀ X, Fr [p, q] w X → KTab X) := fun X hX => ktab_fr hT hX (by omega) (by omega)
  have HK := hide (rkind_cons K p q zrec 26 0 b r0 w.drew hr.drew hq rfl hpq hKp hKq)
  have hbi : ((b.toNat : Nat) : Int) = 5 := by rw [hb]; rfl
  rw [hbi] at HK
  have HHB := hide hb
  clear hb hbi
  have hnm : nm (5 : Int) 1 = true := by decide
  have HN : Hid (∀ X, Fr [p, q] w X → Calls Tryz.prog 37 #[.int .i64 5, .int .i64 1] X fun e w' => e = .returned (.bool true) ∧ w' = X) := fun X hX => by
    have h := names_any 5 1 X (HTT.out X hX)
    rw [hnm] at h
    exact h
  clear hr hq hT hnm
  unfold WalkOut
  go_enter Tryz.func25, Tryz.ntmps25
  go_wp2_with fail
  go_region_with (go_at_call 222; refine HK.out.mono ?_; rintro x w0 ⟨rfl, hF0, hR0, hq0⟩)
  have HF0 : Hid (Fr [p, q] w w0) := frN (Fr.refl _ _) hF0
  have HR0 : Hid (Rs K p w0 (some r0)) := hR0
  have HQ0 : Hid (w0.heap[q]? = some (.cells (rcs ⟨5, ⟨#[]⟩, ⟨#[]⟩, ⟨#[]⟩, ⟨#[]⟩, ⟨#[]⟩, ⟨#[]⟩, [], 0⟩ (.slice none 0 0)) 26 (0, 0))) := hq0
  clear HK hF0 hR0 hq0
  have c0 : w0.cell? ⟨q, 0, none⟩ = some (.int .i64 5) := cell_of HQ0.out 0
  have HNN := hide (HN.out w0 HF0.out)
  have HT := hide (rtext_any K p q 1 (rcs ⟨5, ⟨#[]⟩, ⟨#[]⟩, ⟨#[]⟩, ⟨#[]⟩, ⟨#[]⟩, ⟨#[]⟩, [], 0⟩ (.slice none 0 0)) 26 ⟨#[]⟩ (some r0) w0.drew HR0.out.drew HQ0.out rfl hpq hKp hKq)
  go_wp2_with (go_at_call 37; refine HNN.out.mono ?_; rintro x w9 ⟨rfl, h9⟩; obtain rfl := h9.symm)
  go_region_with (go_at_call 224; refine HT.out.mono ?_; rintro x w1 ⟨rfl, y_id, s1, hst, hy, hR, hq, hF⟩)
  have HF1 : Hid (Fr [p, q] w w1) := frN HF0.out hF
  have HR1 := hide hR
  have HQ1 : Hid (w1.heap[q]? = some (.cells (rcs ⟨5, y_id, ⟨#[]⟩, ⟨#[]⟩, ⟨#[]⟩, ⟨#[]⟩, ⟨#[]⟩, [], 0⟩ (.slice none 0 0)) 26 (0, 0))) := hq
  have HS1 := hide hst
  have HY_id := hide hy
  clear HT hst hy hR hq hF c0 HNN
  have c0 : w1.cell? ⟨q, 0, none⟩ = some (.int .i64 5) := cell_of HQ1.out 0
  go_wp2_with fail
  first | go_end0 | refine bodyPost_end (results_none rfl _ _ _) rfl ?_
  exact ⟨rfl, ⟨5, y_id, ⟨#[]⟩, ⟨#[]⟩, ⟨#[]⟩, ⟨#[]⟩, ⟨#[]⟩, [], 0⟩, _, s1, HQ1.out, World.ownsRow_nil _ _ _ _, HR1.out, HF1.out, ⟨⟨HY_id.out, e_low, e_low, e_low, e_low, e_low, fun s hs => by cases hs⟩, Nat.zero_le _⟩, fin_5 HHB.out HS1.out⟩

set_option maxRecDepth 100000 in
set_option maxHeartbeats 25600000 in
theorem walkR_7 (K p q : Nat) (b : UInt8) (r0 : List UInt8) (w : World) (hb : b.toNat = 7) (hr : Rs K p w (some (b :: r0))) (hq : w.heap[q]? = some (.cells zrec 26 (0, 0))) (hT : KTab w) (hG : 21 < K) (hpq : p ≠ q) (hKp : K ≤ p) (hKq : K ≤ q) :
    Calls Tryz.prog 25 #[.pointer (some ⟨q, 0, none⟩), .iface 58 (.pointer (some ⟨p, 0, none⟩))] w (WalkOut K p q (b :: r0) w) := by
  have n_kind := rnil_kind ⟨p, 0, none⟩
  have m_kind := rmet_kind ⟨p, 0, none⟩
  have n_text := rnil_text ⟨p, 0, none⟩
  have m_text := rmet_text ⟨p, 0, none⟩
  have HPL : Hid (p < w.heap.size ∧ q < w.heap.size) := ⟨hr.lt, (Array.getElem?_eq_some_iff.1 hq).1⟩
  have HTT : Hid (∀ X, Fr [p, q] w X → KTab X) := fun X hX => ktab_fr hT hX (by omega) (by omega)
  have HK := hide (rkind_cons K p q zrec 26 0 b r0 w.drew hr.drew hq rfl hpq hKp hKq)
  have hbi : ((b.toNat : Nat) : Int) = 7 := by rw [hb]; rfl
  rw [hbi] at HK
  have HHB := hide hb
  clear hb hbi
  have hnm : nm (7 : Int) 1 = true := by decide
  have HN : Hid (∀ X, Fr [p, q] w X → Calls Tryz.prog 37 #[.int .i64 7, .int .i64 1] X fun e w' => e = .returned (.bool true) ∧ w' = X) := fun X hX => by
    have h := names_any 7 1 X (HTT.out X hX)
    rw [hnm] at h
    exact h
  clear hr hq hT hnm
  unfold WalkOut
  go_enter Tryz.func25, Tryz.ntmps25
  go_wp2_with fail
  go_region_with (go_at_call 222; refine HK.out.mono ?_; rintro x w0 ⟨rfl, hF0, hR0, hq0⟩)
  have HF0 : Hid (Fr [p, q] w w0) := frN (Fr.refl _ _) hF0
  have HR0 : Hid (Rs K p w0 (some r0)) := hR0
  have HQ0 : Hid (w0.heap[q]? = some (.cells (rcs ⟨7, ⟨#[]⟩, ⟨#[]⟩, ⟨#[]⟩, ⟨#[]⟩, ⟨#[]⟩, ⟨#[]⟩, [], 0⟩ (.slice none 0 0)) 26 (0, 0))) := hq0
  clear HK hF0 hR0 hq0
  have c0 : w0.cell? ⟨q, 0, none⟩ = some (.int .i64 7) := cell_of HQ0.out 0
  have HNN := hide (HN.out w0 HF0.out)
  have HT := hide (rtext_any K p q 1 (rcs ⟨7, ⟨#[]⟩, ⟨#[]⟩, ⟨#[]⟩, ⟨#[]⟩, ⟨#[]⟩, ⟨#[]⟩, [], 0⟩ (.slice none 0 0)) 26 ⟨#[]⟩ (some r0) w0.drew HR0.out.drew HQ0.out rfl hpq hKp hKq)
  go_wp2_with (go_at_call 37; refine HNN.out.mono ?_; rintro x w9 ⟨rfl, h9⟩; obtain rfl := h9.symm)
  go_region_with (go_at_call 224; refine HT.out.mono ?_; rintro x w1 ⟨rfl, y_id, s1, hst, hy, hR, hq, hF⟩)
  have HF1 : Hid (Fr [p, q] w w1) := frN HF0.out hF
  have HR1 := hide hR
  have HQ1 : Hid (w1.heap[q]? = some (.cells (rcs ⟨7, y_id, ⟨#[]⟩, ⟨#[]⟩, ⟨#[]⟩, ⟨#[]⟩, ⟨#[]⟩, [], 0⟩ (.slice none 0 0)) 26 (0, 0))) := hq
  have HS1 := hide hst
  have HY_id := hide hy
  clear HT hst hy hR hq hF c0 HNN
  have c0 : w1.cell? ⟨q, 0, none⟩ = some (.int .i64 7) := cell_of HQ1.out 0
  go_wp2_with fail
  first | go_end0 | refine bodyPost_end (results_none rfl _ _ _) rfl ?_
  exact ⟨rfl, ⟨7, y_id, ⟨#[]⟩, ⟨#[]⟩, ⟨#[]⟩, ⟨#[]⟩, ⟨#[]⟩, [], 0⟩, _, s1, HQ1.out, World.ownsRow_nil _ _ _ _, HR1.out, HF1.out, ⟨⟨HY_id.out, e_low, e_low, e_low, e_low, e_low, fun s hs => by cases hs⟩, Nat.zero_le _⟩, fin_7 HHB.out HS1.out⟩

set_option maxRecDepth 100000 in
set_option maxHeartbeats 25600000 in
theorem walkR_8 (K p q : Nat) (b : UInt8) (r0 : List UInt8) (w : World) (hb : b.toNat = 8) (hr : Rs K p w (some (b :: r0))) (hq : w.heap[q]? = some (.cells zrec 26 (0, 0))) (hT : KTab w) (hG : 21 < K) (hpq : p ≠ q) (hKp : K ≤ p) (hKq : K ≤ q) :
    Calls Tryz.prog 25 #[.pointer (some ⟨q, 0, none⟩), .iface 58 (.pointer (some ⟨p, 0, none⟩))] w (WalkOut K p q (b :: r0) w) := by
  have n_kind := rnil_kind ⟨p, 0, none⟩
  have m_kind := rmet_kind ⟨p, 0, none⟩
  have n_text := rnil_text ⟨p, 0, none⟩
  have m_text := rmet_text ⟨p, 0, none⟩
  have HPL : Hid (p < w.heap.size ∧ q < w.heap.size) := ⟨hr.lt, (Array.getElem?_eq_some_iff.1 hq).1⟩
  have HTT : Hid (∀ X, Fr [p, q] w X → KTab X) := fun X hX => ktab_fr hT hX (by omega) (by omega)
  have HK := hide (rkind_cons K p q zrec 26 0 b r0 w.drew hr.drew hq rfl hpq hKp hKq)
  have hbi : ((b.toNat : Nat) : Int) = 8 := by rw [hb]; rfl
  rw [hbi] at HK
  have HHB := hide hb
  clear hb hbi
  have hnm : nm (8 : Int) 1 = true := by decide
  have HN : Hid (∀ X, Fr [p, q] w X → Calls Tryz.prog 37 #[.int .i64 8, .int .i64 1] X fun e w' => e = .returned (.bool true) ∧ w' = X) := fun X hX => by
    have h := names_any 8 1 X (HTT.out X hX)
    rw [hnm] at h
    exact h
  clear hr hq hT hnm
  unfold WalkOut
  go_enter Tryz.func25, Tryz.ntmps25
  go_wp2_with fail
  go_region_with (go_at_call 222; refine HK.out.mono ?_; rintro x w0 ⟨rfl, hF0, hR0, hq0⟩)
  have HF0 : Hid (Fr [p, q] w w0) := frN (Fr.refl _ _) hF0
  have HR0 : Hid (Rs K p w0 (some r0)) := hR0
  have HQ0 : Hid (w0.heap[q]? = some (.cells (rcs ⟨8, ⟨#[]⟩, ⟨#[]⟩, ⟨#[]⟩, ⟨#[]⟩, ⟨#[]⟩, ⟨#[]⟩, [], 0⟩ (.slice none 0 0)) 26 (0, 0))) := hq0
  clear HK hF0 hR0 hq0
  have c0 : w0.cell? ⟨q, 0, none⟩ = some (.int .i64 8) := cell_of HQ0.out 0
  have HNN := hide (HN.out w0 HF0.out)
  have HT := hide (rtext_any K p q 1 (rcs ⟨8, ⟨#[]⟩, ⟨#[]⟩, ⟨#[]⟩, ⟨#[]⟩, ⟨#[]⟩, ⟨#[]⟩, [], 0⟩ (.slice none 0 0)) 26 ⟨#[]⟩ (some r0) w0.drew HR0.out.drew HQ0.out rfl hpq hKp hKq)
  go_wp2_with (go_at_call 37; refine HNN.out.mono ?_; rintro x w9 ⟨rfl, h9⟩; obtain rfl := h9.symm)
  go_region_with (go_at_call 224; refine HT.out.mono ?_; rintro x w1 ⟨rfl, y_id, s1, hst, hy, hR, hq, hF⟩)
  have HF1 : Hid (Fr [p, q] w w1) := frN HF0.out hF
  have HR1 := hide hR
  have HQ1 : Hid (w1.heap[q]? = some (.cells (rcs ⟨8, y_id, ⟨#[]⟩, ⟨#[]⟩, ⟨#[]⟩, ⟨#[]⟩, ⟨#[]⟩, [], 0⟩ (.slice none 0 0)) 26 (0, 0))) := hq
  have HS1 := hide hst
  have HY_id := hide hy
  clear HT hst hy hR hq hF c0 HNN
  have c0 : w1.cell? ⟨q, 0, none⟩ = some (.int .i64 8) := cell_of HQ1.out 0
  go_wp2_with fail
  first | go_end0 | refine bodyPost_end (results_none rfl _ _ _) rfl ?_
  exact ⟨rfl, ⟨8, y_id, ⟨#[]⟩, ⟨#[]⟩, ⟨#[]⟩, ⟨#[]⟩, ⟨#[]⟩, [], 0⟩, _, s1, HQ1.out, World.ownsRow_nil _ _ _ _, HR1.out, HF1.out, ⟨⟨HY_id.out, e_low, e_low, e_low, e_low, e_low, fun s hs => by cases hs⟩, Nat.zero_le _⟩, fin_8 HHB.out HS1.out⟩

set_option maxRecDepth 100000 in
set_option maxHeartbeats 25600000 in
theorem walkR_10 (K p q : Nat) (b : UInt8) (r0 : List UInt8) (w : World) (hb : b.toNat = 10) (hr : Rs K p w (some (b :: r0))) (hq : w.heap[q]? = some (.cells zrec 26 (0, 0))) (hT : KTab w) (hG : 21 < K) (hpq : p ≠ q) (hKp : K ≤ p) (hKq : K ≤ q) :
    Calls Tryz.prog 25 #[.pointer (some ⟨q, 0, none⟩), .iface 58 (.pointer (some ⟨p, 0, none⟩))] w (WalkOut K p q (b :: r0) w) := by
  have n_kind := rnil_kind ⟨p, 0, none⟩
  have m_kind := rmet_kind ⟨p, 0, none⟩
  have n_text := rnil_text ⟨p, 0, none⟩
  have m_text := rmet_text ⟨p, 0, none⟩
  have HPL : Hid (p < w.heap.size ∧ q < w.heap.size) := ⟨hr.lt, (Array.getElem?_eq_some_iff.1 hq).1⟩
  have HTT : Hid (∀ X, Fr [p, q] w X → KTab X) := fun X hX => ktab_fr hT hX (by omega) (by omega)
  have HK := hide (rkind_cons K p q zrec 26 0 b r0 w.drew hr.drew hq rfl hpq hKp hKq)
  have hbi : ((b.toNat : Nat) : Int) = 10 := by rw [hb]; rfl
  rw [hbi] at HK
  have HHB := hide hb
  clear hb hbi
  have hnm : nm (10 : Int) 1 = true := by decide
  have HN : Hid (∀ X, Fr [p, q] w X → Calls Tryz.prog 37 #[.int .i64 10, .int .i64 1] X fun e w' => e = .returned (.bool true) ∧ w' = X) := fun X hX => by
    have h := names_any 10 1 X (HTT.out X hX)
    rw [hnm] at h
    exact h
  clear hr hq hT hnm
  unfold WalkOut
  go_enter Tryz.func25, Tryz.ntmps25
  go_wp2_with fail
  go_region_with (go_at_call 222; refine HK.out.mono ?_; rintro x w0 ⟨rfl, hF0, hR0, hq0⟩)
  have HF0 : Hid (Fr [p, q] w w0) := frN (Fr.refl _ _) hF0
  have HR0 : Hid (Rs K p w0 (some r0)) := hR0
  have HQ0 : Hid (w0.heap[q]? = some (.cells (rcs ⟨10, ⟨#[]⟩, ⟨#[]⟩, ⟨#[]⟩, ⟨#[]⟩, ⟨#[]⟩, ⟨#[]⟩, [], 0⟩ (.slice none 0 0)) 26 (0, 0))) := hq0
  clear HK hF0 hR0 hq0
  have c0 : w0.cell? ⟨q, 0, none⟩ = some (.int .i64 10) := cell_of HQ0.out 0
  have HNN := hide (HN.out w0 HF0.out)
  have HT := hide (rtext_any K p q 1 (rcs ⟨10, ⟨#[]⟩, ⟨#[]⟩, ⟨#[]⟩, ⟨#[]⟩, ⟨#[]⟩, ⟨#[]⟩, [], 0⟩ (.slice none 0 0)) 26 ⟨#[]⟩ (some r0) w0.drew HR0.out.drew HQ0.out rfl hpq hKp hKq)
  go_wp2_with (go_at_call 37; refine HNN.out.mono ?_; rintro x w9 ⟨rfl, h9⟩; obtain rfl := h9.symm)
  go_region_with (go_at_call 224; refine HT.out.mono ?_; rintro x w1 ⟨rfl, y_id, s1, hst, hy, hR, hq, hF⟩)
  have HF1 : Hid (Fr [p, q] w w1) := frN HF0.out hF
  have HR1 := hide hR
  have HQ1 : Hid (w1.heap[q]? = some (.cells (rcs ⟨10, y_id, ⟨#[]⟩, ⟨#[]⟩, ⟨#[]⟩, ⟨#[]⟩, ⟨#[]⟩, [], 0⟩ (.slice none 0 0)) 26 (0, 0))) := hq
  have HS1 := hide hst
  have HY_id := hide hy
  clear HT hst hy hR hq hF c0 HNN
  have c0 : w1.cell? ⟨q, 0, none⟩ = some (.int .i64 10) := cell_of HQ1.out 0
  go_wp2_with fail
  first | go_end0 | refine bodyPost_end (results_none rfl _ _ _) rfl ?_
  exact ⟨rfl, ⟨10, y_id, ⟨#[]⟩, ⟨#[]⟩, ⟨#[]⟩, ⟨#[]⟩, ⟨#[]⟩, [], 0⟩, _, s1, HQ1.out, World.ownsRow_nil _ _ _ _, HR1.out, HF1.out, ⟨⟨HY_id.out, e_low, e_low, e_low, e_low, e_low, fun s hs => by cases hs⟩, Nat.zero_le _⟩, fin_10 HHB.out HS1.out⟩
end Go.Proofs.YtimbhneegphhbaaGreatDoor.rc
