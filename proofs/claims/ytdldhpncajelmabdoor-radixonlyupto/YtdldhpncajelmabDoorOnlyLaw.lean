import Derived.Test.YtdldhpncajelmabDoorBackTxt
import Derived.Test.YtdldhpncajelmabDoorErrWalks
import Derived.Deep.RegionWith
namespace Go.Proofs.YtdldhpncajelmabDoor.radw
open Go.ChangeShapes Go.WideShapes Go.ChangeAt Go.RowKit Go.Proofs.YtdldhpncajelmabDoor.common
open Go.Proofs.YtdldhpncajelmabDoor.errw (Errs E num_1)
attribute [local go_sem ↓] Go.wp_at_zero Go.wp_at_succ

theorem sze : (⟨#[]⟩ : ByteArray).size = 0 := rfl

theorem only_nil (p a s : ByteArray) (h : a = s) (w : World) : Calls Tryd.prog 18 #[.string p, .nilIface, .string a, .string s] w fun e w' => e = .returned (.bool true) ∧ Below w.heap.size w w' := by
  have h1 := eq_list h
  clear h
  go_enter Tryd.func18, Tryd.ntmps18
  go_wp2
  go_ret
  exact ⟨rfl, Below.refl _ _⟩

set_option maxRecDepth 100000 in
set_option maxHeartbeats 800000 in
theorem only_err (a s : ByteArray) (e : Nat → Addr) (w : World) (he : Errs w e) : Calls Tryd.prog 18 #[.string ⟨#[]⟩, E e 1, .string a, .string s] w fun x w' => x = .returned (.bool true) ∧ Below w.heap.size w w' := by
  have ce : w.cell? ⟨0, 0, none⟩ = some (E e 1) := he.cell 1 (by decide)
  have HE := hide (he.below (Below.refl _ _).drew)
  clear he
  go_enter Tryd.func18, Tryd.ntmps18
  go_wp2_with fail
  go_region_with (go_at_call 10; refine (num_1 _ e HE.out).mono ?_; rintro x w' ⟨rfl, rfl⟩)
  all_goals
    go_wp2
    go_ret
    exact ⟨rfl, (Below.refl _ _).drew⟩

/-- what a reader answers for s: bytes that are written as s again, or the refusal and nothing -/
def Reads (f : List UInt8 → List UInt8) (s p : ByteArray) (y : Value) (ea : Addr) : Prop := (y = .nilIface ∧ f p.data.toList = s.data.toList) ∨ (y = X ea ∧ p = ⟨#[]⟩)

theorem only_any (f : List UInt8 → List UInt8) (s p : ByteArray) (y : Value) (e : Nat → Addr) (h : Reads f s p y (e 1)) (w : World) (he : Errs w e) : Calls Tryd.prog 18 #[.string p, y, .string ⟨(f p.data.toList).toArray⟩, .string s] w fun x w' => x = .returned (.bool true) ∧ Below w.heap.size w w' := by
  rcases h with ⟨rfl, h⟩ | ⟨rfl, rfl⟩
  · exact only_nil p _ s (by rw [h]) w
  · exact only_err _ s e w he

theorem url_reads (s : ByteArray) (w : World) (hs : s.size ≤ 1048576) (ea : Addr) (he : Txt w ea) (ht : UrlTab w) :
    Calls Tryd.prog 8 #[.string s] w fun x w' => ∃ (p : ByteArray) (y : Value), x = .returned (.tuple #[.string p, y]) ∧ Reads (Rad.b64 Rad.urlT) s p y ea ∧ p.size ≤ 1048576 ∧ Below w.heap.size w w' := by
  refine (unurl_any s w (by unfold reachBytes; omega) ea he ht).mono ?_
  rintro x w' ⟨hb, ⟨h, rfl⟩ | ⟨_, rfl⟩⟩
  · exact ⟨_, _, rfl, Or.inl ⟨rfl, Rad.b64_un64 _ _ h.1 h.2⟩, by rw [sz, Rad.un64_len, len_list]; unfold Rad.n8; omega, hb⟩
  · exact ⟨_, _, rfl, Or.inr ⟨rfl, rfl⟩, by rw [sze]; omega, hb⟩

theorem std_reads (s : ByteArray) (w : World) (hs : s.size ≤ 1048576) (ea : Addr) (he : Txt w ea) (ht : StdTab w) :
    Calls Tryd.prog 11 #[.string s] w fun x w' => ∃ (p : ByteArray) (y : Value), x = .returned (.tuple #[.string p, y]) ∧ Reads Rad.std s p y ea ∧ p.size ≤ 1048576 ∧ Below w.heap.size w w' := by
  refine (unstd_any s w (by unfold reachBytes; omega) ea he ht).mono ?_
  rintro x w' ⟨hb, ⟨h, rfl⟩ | ⟨_, rfl⟩⟩
  · refine ⟨_, _, rfl, Or.inl ⟨rfl, ?_⟩, ?_, hb⟩
    · have hx := Rad.takenStd (lets0 s.data.toList) (tail0 s.data.toList) h.2.1
      have h61 : ∀ c ∈ tail0 s.data.toList, c = 61 := by rw [h.1]; exact Rad.pad_all _
      have := (hx h61).2 ⟨h.1, h.2.2⟩
      have hp : lets0 s.data.toList ++ tail0 s.data.toList = s.data.toList := List.take_append_drop _ _
      rw [hp] at this
      exact this
    · rw [sz, Rad.un64_len, lets0_len]
      have := trimN_le s.data.toList s.data.toList.length
      rw [len_list] at this
      unfold Rad.n8
      rw [len_list]
      omega
  · exact ⟨_, _, rfl, Or.inr ⟨rfl, rfl⟩, by rw [sze]; omega, hb⟩

theorem hex_reads (s : ByteArray) (w : World) (hs : s.size ≤ 1048576) (ea : Addr) (he : Txt w ea) (ht : HexTab w) :
    Calls Tryd.prog 17 #[.string s] w fun x w' => ∃ (p : ByteArray) (y : Value), x = .returned (.tuple #[.string p, y]) ∧ Reads Rad.hex s p y ea ∧ p.size ≤ 1048576 ∧ Below w.heap.size w w' := by
  refine (unhex_any s w (by unfold reachBytes; omega) ea he ht).mono ?_
  rintro x w' ⟨hb, ⟨h1, h2, rfl⟩ | ⟨_, rfl⟩⟩
  · exact ⟨_, _, rfl, Or.inl ⟨rfl, Rad.hex_unhex _ h1 h2⟩, by rw [sz, Rad.unhex_len, len_list]; omega, hb⟩
  · exact ⟨_, _, rfl, Or.inr ⟨rfl, rfl⟩, by rw [sze]; omega, hb⟩

set_option maxRecDepth 100000 in
set_option maxHeartbeats 1600000 in
theorem lawOnly (s : ByteArray) (w : World) (hs : s.size ≤ 1048576) (e : Nat → Addr) (he : Errs w e) (ht : Tabs w) :
    Calls Tryd.prog 6 #[.string s] w fun x w' => x = .returned (.bool true) ∧ Below w.heap.size w w' := by
  have HS := hide hs
  have HE := hide he
  have HT := hide ht
  have HR : Hid (∀ p : ByteArray, p.size ≤ 1048576 → p.size ≤ reachBytes) := fun p h => by unfold reachBytes; omega
  clear he ht hs
  go_enter Tryd.func6, Tryd.ntmps6
  go_wp2_with fail
  refine (back_any s w HS.out (e 1) (Txt.of HE.out) HT.out).mono ?_
  rintro x w0 ⟨rfl, h0⟩
  have K0 := hide h0
  clear h0
  go_wp2_with fail
  refine (url_reads s w0 HS.out (e 1) (Txt.of (HE.out.below K0.out)) (HT.out.below K0.out (Nat.le_refl _)).url).mono ?_
  rintro x w1 ⟨p1, y1, rfl, r1, z1, h1⟩
  have R1 := hide r1
  have Z1 := hide z1
  have K1 := hide (K0.out.trans (h1.mono K0.out.size))
  clear h1 r1 z1 K0
  go_wp2_with fail
  refine (url_any p1 w1 (HR.out _ Z1.out) (HT.out.below K1.out (Nat.le_refl _)).url).mono ?_
  rintro x w2 ⟨rfl, h2⟩
  have K2 := hide (K1.out.trans (h2.mono K1.out.size))
  clear h2 K1
  go_wp2_with fail
  refine (std_reads s w2 HS.out (e 1) (Txt.of (HE.out.below K2.out)) (HT.out.below K2.out (Nat.le_refl _)).std).mono ?_
  rintro x w3 ⟨p2, y2, rfl, r2, z2, h3⟩
  have R2 := hide r2
  have Z2 := hide z2
  have K3 := hide (K2.out.trans (h3.mono K2.out.size))
  clear h3 r2 z2 K2
  go_wp2_with fail
  refine (std_any p2 w3 (HR.out _ Z2.out) (HT.out.below K3.out (Nat.le_refl _)).std).mono ?_
  rintro x w4 ⟨rfl, h4⟩
  have K4 := hide (K3.out.trans (h4.mono K3.out.size))
  clear h4 K3
  go_wp2_with fail
  refine (hex_reads s w4 HS.out (e 1) (Txt.of (HE.out.below K4.out)) (HT.out.below K4.out (Nat.le_refl _)).hex).mono ?_
  rintro x w5 ⟨p3, y3, rfl, r3, z3, h5⟩
  have R3 := hide r3
  have Z3 := hide z3
  have K5 := hide (K4.out.trans (h5.mono K4.out.size))
  clear h5 r3 z3 K4
  go_wp2_with fail
  refine (hex_any p3 w5 (HR.out _ Z3.out) (HT.out.below K5.out (Nat.le_refl _)).hex).mono ?_
  rintro x w6 ⟨rfl, h6⟩
  have K6 := hide (K5.out.trans (h6.mono K5.out.size))
  clear h6 K5
  go_wp2_with fail
  refine (only_any _ s p1 y1 e R1.out w6 (HE.out.below K6.out)).mono ?_
  rintro x w7 ⟨rfl, h7⟩
  have K7 := hide (K6.out.trans (h7.mono K6.out.size))
  clear h7 K6
  go_wp2_with fail
  refine (only_any _ s p2 y2 e R2.out w7 (HE.out.below K7.out)).mono ?_
  rintro x w8 ⟨rfl, h8⟩
  have K8 := hide (K7.out.trans (h8.mono K7.out.size))
  clear h8 K7
  go_wp2_with fail
  refine (only_any _ s p3 y3 e R3.out w8 (HE.out.below K8.out)).mono ?_
  rintro x w9 ⟨rfl, h9⟩
  have K9 := hide (K8.out.trans (h9.mono K8.out.size))
  clear h9 K8
  go_wp2_with fail
  go_ret
  exact ⟨rfl, K9.out⟩

end Go.Proofs.YtdldhpncajelmabDoor.radw
