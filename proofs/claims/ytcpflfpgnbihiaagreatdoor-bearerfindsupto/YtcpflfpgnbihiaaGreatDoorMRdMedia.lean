import Derived.Test.YtcpflfpgnbihiaaGreatDoorMMedM
import Derived.Test.YtcpflfpgnbihiaaGreatDoorMRefLow
namespace Go.Proofs.YtcpflfpgnbihiaaGreatDoor.fd
open Go.ChangeShapes Go.WideShapes Go.ChangeAt Go.RowKit Go.Proofs.YtcpflfpgnbihiaaGreatDoor.common Go.Proofs.YtcpflfpgnbihiaaGreatDoor.bk
attribute [local go_sem ↓] Go.wp_at_zero Go.wp_at_succ

/-- the place behind what a text begins with from a place on -/
theorem drop_while_at {p : UInt8 → Bool} {l : List UInt8} {a k : Nat} (hak : a ≤ k) (hk : k ≤ l.length) (h1 : ∀ x ∈ (l.drop a).take (k - a), p x = true) (h2 : l.length ≤ k ∨ p (l.getD k 0) = false) :
    (l.drop a).takeWhile p = (l.drop a).take (k - a) ∧ (l.drop a).dropWhile p = l.drop k := by
  have hq : (l.drop a).length ≤ k - a ∨ p ((l.drop a).getD (k - a) 0) = false := by
    rcases h2 with h | h
    · left; rw [List.length_drop]; omega
    · right
      rw [List.getD_eq_getElem?_getD, List.getElem?_drop, show a + (k - a) = k by omega, ← List.getD_eq_getElem?_getD]
      exact h
  obtain ⟨e1, e2⟩ := span_at h1 hq
  rw [List.drop_drop, show a + (k - a) = k by omega] at e2
  exact ⟨e1, e2⟩
theorem more_at {p : UInt8 → Bool} {l : List UInt8} {a k : Nat} (hak : a ≤ k) (hk : k < l.length) (h1 : ∀ x ∈ (l.drop a).take (k - a), p x = true) (h2 : p (l.getD k 0) = true) : ∀ x ∈ (l.drop a).take (k + 1 - a), p x = true := by
  intro x hx
  rw [show k + 1 - a = (k - a) + 1 by omega, List.take_succ_eq_append_getElem (by rw [List.length_drop]; omega)] at hx
  rcases List.mem_append.1 hx with hx | hx
  · exact h1 x hx
  · simp at hx
    subst hx
    have e : a + (k - a) = k := by omega
    simp only [e]
    rw [List.getD_eq_getElem?_getD, List.getElem?_eq_getElem hk] at h2
    exact h2
set_option maxRecDepth 100000 in
set_option maxHeartbeats 1600000 in
theorem refTok6_any (s : ByteArray) (a : Nat) (w : World) (ha : a ≤ s.size) (hs : s.size ≤ 4611686018427387904) :
    Calls Tryz.prog 52 #[.string s, .int .i64 a] w fun e w' => (∃ k : Nat, a ≤ k ∧ k ≤ s.size ∧ e = .returned (.int .i64 k) ∧ (s.data.toList.drop a).takeWhile Fd.tok = (s.data.toList.drop a).take (k - a) ∧ (s.data.toList.drop a).dropWhile Fd.tok = s.data.toList.drop k) ∧ w' = w := by
  have HLL := hide (len_list s)
  go_enter Tryz.func52, Tryz.ntmps52
  go_wp2_with fail
  go_loopw [1] (fun i wr => ∃ k : Nat, a ≤ k ∧ k ≤ s.size ∧ i = .int .i64 k ∧ (∀ x ∈ (s.data.toList.drop a).take (k - a), Fd.tok x = true) ∧ wr = w) (fun i _ => s.size - (intOf i).toNat)
  case atStart => exact ⟨a, Nat.le_refl _, ha, rfl, fun x hx => by simp at hx, rfl⟩
  case round =>
    obtain ⟨k, hak, hk, rfl, hall, rfl⟩ := hrel
    have HALL := hide hall
    clear hall
    by_cases hlt : k < s.size
    · have hki : (k : Int) < (s.size : Int) := by omega
      have HGD := hide (getD_list s k hlt)
      have HT := hide (fun W => tokenByte_any s[k] W)
      cases hp : Fd.tok s[k] with
      | true =>
        rw [hp] at HT
        have HNX := hide (more_at (l := s.data.toList) hak (by rw [HLL.out]; exact hlt) HALL.out (by rw [HGD.out]; exact hp))
        clear hp
        go_wp2_with (go_at_call 37; refine (HT.out _).mono ?_; rintro x w2 ⟨rfl, rfl⟩)
        go_roundw
        case rel => exact ⟨k + 1, by omega, by omega, by go_num, HNX.out, by trivial⟩
        case measure => simp [intOf]; omega
      | false =>
        rw [hp] at HT
        have HNX := hide (drop_while_at (l := s.data.toList) hak (by rw [HLL.out]; omega) HALL.out (Or.inr (by rw [HGD.out]; exact hp)))
        clear hp
        go_wp2_with (go_at_call 37; refine (HT.out _).mono ?_; rintro x w2 ⟨rfl, rfl⟩)
        go_ret
        exact ⟨⟨k, hak, hk, rfl, HNX.out.1, HNX.out.2⟩, rfl⟩
    · have hkn : ¬ (k : Int) < (s.size : Int) := by omega
      have HNX := hide (drop_while_at (l := s.data.toList) hak (by rw [HLL.out]; omega) HALL.out (Or.inl (by rw [HLL.out]; omega)))
      go_wp2_with fail
      go_ret
      exact ⟨⟨k, hak, hk, rfl, HNX.out.1, HNX.out.2⟩, rfl⟩

set_option maxRecDepth 100000 in
set_option maxHeartbeats 1600000 in
theorem refWhite_any (s : ByteArray) (a : Nat) (w : World) (ha : a ≤ s.size) (hs : s.size ≤ 4611686018427387904) :
    Calls Tryz.prog 53 #[.string s, .int .i64 a] w fun e w' => (∃ k : Nat, a ≤ k ∧ k ≤ s.size ∧ e = .returned (.int .i64 k) ∧ (s.data.toList.drop a).dropWhile Fd.white = s.data.toList.drop k) ∧ w' = w := by
  have HLL := hide (len_list s)
  go_enter Tryz.func53, Tryz.ntmps53
  go_wp2_with fail
  go_loopw [1] (fun i wr => ∃ k : Nat, a ≤ k ∧ k ≤ s.size ∧ i = .int .i64 k ∧ (∀ x ∈ (s.data.toList.drop a).take (k - a), Fd.white x = true) ∧ wr = w) (fun i _ => s.size - (intOf i).toNat)
  case atStart => exact ⟨a, Nat.le_refl _, ha, rfl, fun x hx => by simp at hx, rfl⟩
  case round =>
    obtain ⟨k, hak, hk, rfl, hall, rfl⟩ := hrel
    have HALL := hide hall
    clear hall
    by_cases hlt : k < s.size
    · have hki : (k : Int) < (s.size : Int) := by omega
      have HGD := hide (getD_list s k hlt)
      rcases white_cases s[k] with ⟨hp, hc | hc⟩ | ⟨hp, hc⟩
      · have HNX := hide (more_at (l := s.data.toList) hak (by rw [HLL.out]; exact hlt) HALL.out (by rw [HGD.out]; exact hp))
        have h1 : (s[k].toNat : Int) = 32 := by omega
        clear hp hc
        go_wp2_with fail
        go_roundw
        case rel => exact ⟨k + 1, by omega, by omega, by go_num, HNX.out, by trivial⟩
        case measure => simp [intOf]; omega
      · have HNX := hide (more_at (l := s.data.toList) hak (by rw [HLL.out]; exact hlt) HALL.out (by rw [HGD.out]; exact hp))
        have h1 : (s[k].toNat : Int) = 9 := by omega
        clear hp hc
        go_wp2_with fail
        go_roundw
        case rel => exact ⟨k + 1, by omega, by omega, by go_num, HNX.out, by trivial⟩
        case measure => simp [intOf]; omega
      · have HNX := hide (drop_while_at (l := s.data.toList) hak (by rw [HLL.out]; omega) HALL.out (Or.inr (by rw [HGD.out]; exact hp)))
        have h1 : ((s[k].toNat : Int) == 32) = false := beq_false_of_ne (by omega)
        have h2 : ((s[k].toNat : Int) == 9) = false := beq_false_of_ne (by omega)
        have h3 : ¬ (s[k].toNat : Int) = 32 := by omega
        have h4 : ¬ (s[k].toNat : Int) = 9 := by omega
        clear hp hc
        go_wp2_with fail
        go_ret
        exact ⟨⟨k, hak, hk, rfl, HNX.out.2⟩, rfl⟩
    · have hkn : ¬ (k : Int) < (s.size : Int) := by omega
      have HNX := hide (drop_while_at (l := s.data.toList) hak (by rw [HLL.out]; omega) HALL.out (Or.inl (by rw [HLL.out]; omega)))
      go_wp2_with fail
      go_ret
      exact ⟨⟨k, hak, hk, rfl, HNX.out.2⟩, rfl⟩

end Go.Proofs.YtcpflfpgnbihiaaGreatDoor.fd

namespace Go.Proofs.YtcpflfpgnbihiaaGreatDoor.fd
open Go.ChangeShapes Go.WideShapes Go.ChangeAt Go.RowKit Go.Proofs.YtcpflfpgnbihiaaGreatDoor.common Go.Proofs.YtcpflfpgnbihiaaGreatDoor.bk
attribute [local go_sem ↓] Go.wp_at_zero Go.wp_at_succ

theorem zsize_media : Tryz.zeroCells91.size = 258 := by kernel_rfl
/-- a reader as it is made: what the walk asks of it -/
structure New_media (v : ByteArray) (T C : Array Value) : Prop where
  list : C.toList = .string v :: .int .i64 0 :: tabL
  built : Tryz.prog.built 91 [(0, .agg #[.string v, .int .i64 0]), (1, .agg T)] = some C
  room : ∀ w1 : World, (w1.alloc (.cells Tryz.zeroCells91 91)).there w1.heap.size 0 C.size
  size : (Tryz.prog.info? 91).map (·.size) = some C.size
  one : C.all (·.oneCell') = true
theorem new_media (v : ByteArray) : ∃ T C, TabA T ∧ New_media v T C := by
  have hl : ((.string v :: .int .i64 0 :: tabL : List Value).toArray).size = 258 := by rw [List.size_toArray, List.length_cons, List.length_cons, tabL_len]
  refine ⟨tabL.toArray, (.string v :: .int .i64 0 :: tabL : List Value).toArray, ⟨rfl, classes_any, there_put, size_tab2, tabL_one⟩, rfl, by kernel_rfl, ?_, ?_, ?_⟩
  · intro w1
    rw [hl, ← zsize_media]
    exact there_new_at w1 _ _ _ _ rfl rfl
  · rw [hl]; kernel_rfl
  · refine all_oneCell_toArray ?_
    intro x hx
    rcases List.mem_cons.1 hx with rfl | hx
    · rfl
    · rcases List.mem_cons.1 hx with rfl | hx
      · rfl
      · obtain ⟨y, _, rfl⟩ := List.mem_map.1 hx; rfl
/-- a world with the reader in a new block -/
def putMedia (Z C : Array Value) (w : World) : World := (w.alloc (.cells Z 91)).setCells w.heap.size 0 C.toList
theorem putMedia_below (Z C : Array Value) (w : World) : Below w.heap.size w (putMedia Z C w) := below_setCells ((Below.refl _ _).alloc (Nat.le_refl _) _) (Nat.le_refl _) _ _
theorem New_media.at {v : ByteArray} {T C : Array Value} (h : New_media v T C) (w : World) : At (putMedia Tryz.zeroCells91 C w) w.heap.size v v.data.toList := by
  have hr := h.room w
  have hrange : (putMedia Tryz.zeroCells91 C w).rangeAt w.heap.size 0 C.toList := World.rangeAt_setCells_same _ w.heap.size 0 C.toList (by simpa using hr)
  rw [h.list] at hrange
  refine ⟨List.suffix_refl _, ?_, ?_, ?_, ?_⟩
  · exact hrange 0 _ rfl
  · rw [len_list, Nat.sub_self]; exact hrange 1 _ rfl
  · unfold putMedia
    rw [World.frozen?_setCells]
    exact World.frozen?_alloc_at _ _ _ _ rfl
  · intro j u hu
    have := hrange (j + 2) u (by simpa using hu)
    rw [Nat.zero_add] at this
    rw [Nat.add_comm 2 j]; exact this

end Go.Proofs.YtcpflfpgnbihiaaGreatDoor.fd
