import Derived.Test.YtlefalplljgkeaaGreatDoorMMedW2
import Derived.Test.YtlefalplljgkeaaGreatDoorMCkB
import Derived.Test.YtlefalplljgkeaaGreatDoorMFieldLays
import Derived.Shelf.Strings.OnBuilder
namespace Go.Proofs.YtlefalplljgkeaaGreatDoor.fd
open Go.ChangeShapes Go.WideShapes Go.ChangeAt Go.RowKit Go.Proofs.YtlefalplljgkeaaGreatDoor.common Go.Proofs.YtlefalplljgkeaaGreatDoor.bk
attribute [local go_sem ↓] Go.wp_at_zero Go.wp_at_succ

theorem extra159 : Builder.Extra Tryz.prog jl.lays159_ren where
  sizeBuilder := by kernel_rfl
  liesBuilder := by kernel_rfl
  t5 := Tryz.underlying5
  a5 := Tryz.isAgg5
  z5 := Tryz.sizeOf5
  v5 := Tryz.zeroValue5
  infoByte := by kernel_rfl
  cellsByte := by kernel_rfl
  sizeByte := by kernel_rfl
  neB5 := by decide
theorem lowB_is (c : UInt8) : Lib.lowerB c = Fd.low c := by
  unfold Lib.lowerB Fd.low Lib.isUpperB
  have e : (decide (65 ≤ c) && decide (c ≤ 90)) = decide (65 ≤ c.toNat ∧ c.toNat ≤ 90) := by
    rw [Bool.eq_iff_iff, Bool.and_eq_true, decide_eq_true_iff, decide_eq_true_iff, decide_eq_true_iff]
    exact Iff.rfl
  rw [e]
  by_cases h : 65 ≤ c.toNat ∧ c.toNat ≤ 90
  · rw [if_pos h, decide_eq_true h]; rfl
  · rw [if_neg h, decide_eq_false h]; rfl
theorem lows_is (l : List UInt8) : Lib.toLowerA l = Fd.lows l := by
  unfold Lib.toLowerA Fd.lows
  exact List.map_congr_left fun c _ => lowB_is c
theorem toLower_any (s : ByteArray) (w : World) (hs : s.size ≤ 140737488355328) (ha : ∀ b ∈ s.data.toList, b.toNat < 128) :
    Calls Tryz.prog 58 #[.string s] w fun e w' => e = .returned (S (Fd.lows s.data.toList)) ∧ Below w.heap.size w w' := by
  have := Any.strings_ToLower_ascii jl.lays159 extra159 s w hs (fun j b hj => ha b (List.mem_of_getElem? hj))
  rw [lows_is] at this
  exact this

/-- what Media answers: the type in small letters -/
def medR (l : List UInt8) : Option (List UInt8) :=
  match kindL l with
  | none => none
  | some r => if pars r then some (Fd.lows (l.take (l.length - r.length))) else none
def medV (l : List UInt8) (xe : Value) : Value :=
  match medR l with
  | none => .tuple #[.string ⟨#[]⟩, xe]
  | some t => .tuple #[S t, .nilIface]
theorem tokL_split {l r : List UInt8} (h : tokL l = some r) : ∃ t, l = t ++ r ∧ (∀ c ∈ t, Fd.tok c = true) := by
  unfold tokL at h
  split at h
  · cases h
  · injection h with h; subst h
    exact ⟨l.takeWhile Fd.tok, List.takeWhile_append_dropWhile.symm, fun c hc => List.all_eq_true.1 List.all_takeWhile c hc⟩
theorem tok_small {c : UInt8} (h : Fd.tok c = true) : c.toNat < 128 := by
  have := of_decide_eq_true h
  omega
theorem kindL_split {l r : List UInt8} (h : kindL l = some r) : ∃ t, l = t ++ r ∧ (∀ c ∈ t, c.toNat < 128) := by
  unfold kindL at h
  cases h1 : tokL l with
  | none => rw [h1] at h; cases h
  | some r1 =>
    rw [h1] at h
    obtain ⟨t1, e1, a1⟩ := tokL_split h1
    cases r1 with
    | nil => cases h
    | cons c r2 =>
      simp only [Option.bind_some, slL] at h
      split at h
      · rename_i hc
        obtain ⟨t2, e2, a2⟩ := tokL_split h
        refine ⟨t1 ++ c :: t2, by rw [e1, e2]; simp, ?_⟩
        intro x hx
        rcases List.mem_append.1 hx with hx | hx
        · exact tok_small (a1 x hx)
        · rcases List.mem_cons.1 hx with rfl | hx
          · rw [hc]; decide
          · exact tok_small (a2 x hx)
      · cases h
theorem below_drewM {b : Nat} {a c : World} (h : Below b a c) (n : Nat) : Below b a (c.drewN n) := ⟨h.1, h.2, h.3, h.4, h.5⟩

set_option maxRecDepth 100000 in
set_option maxHeartbeats 3200000 in
theorem media_any (s : ByteArray) (w : World) (hs : s.size ≤ 140737488355328) (ea : Addr) (he : Ev 0 w (X ea)) :
    Calls Tryz.prog 44 #[.string s] w fun e w' => e = .returned (medV s.data.toList (X ea)) ∧ Below w.heap.size w w' := by
  have hge := he.lt
  obtain ⟨T, C, hT, hC⟩ := new_media s
  have HT := hide hT
  have HC := hide hC
  have HE := hide he
  have HLL := hide (len_list s)
  obtain ⟨R, hR⟩ : ∃ R, medV s.data.toList (X ea) = R := ⟨_, rfl⟩
  rw [hR]
  have HR := hide hR
  clear hT hC he hR
  go_enter Tryz.func44, Tryz.ntmps44
  go_wp2_with fail
  refine (HT.out.made w).mono ?_
  rintro x w1 ⟨rfl, hb1⟩
  have HB := hide (keepD hb1 (putMedia_below Tryz.zeroCells105 C w1))
  have HW1 : Hid (w.heap.size ≤ w1.heap.size) := hb1.size
  clear hb1
  go_wp2_with (first
    | (refine wpList_build_two rfl 105 0 1 (.tmp 7) (.tmp 8) rfl _ _ rfl rfl C HC.out.built ?_)
    | (refine wpList_store_mid rfl 105 (.tmp 4) (.tmp 9) rfl w1.heap.size 0 C rfl rfl (HC.out.room w1) HC.out.size HC.out.one ?_))
  change Calls _ _ _ (putMedia Tryz.zeroCells105 C w1) _
  have HA := hide (HC.out.at w1)
  generalize hW2 : putMedia Tryz.zeroCells105 C w1 = W at *
  clear hW2 HC HT
  refine (kind_any w1.heap.size s _ W HA.out (by omega)).mono ?_
  rintro x w2 ⟨hm2, ⟨r, hr, rfl, ha2⟩ | ⟨hr, rfl⟩⟩
  · have HA2 := hide ha2
    have HB2 : Hid (Below w.heap.size w w2) := HB.out.trans (hm2.below.mono HW1.out)
    have c1 := ha2.2.c1
    have hrl := ha2.len
    obtain ⟨t, ht, hsm⟩ := kindL_split hr
    have HMR : Hid (medR s.data.toList = if pars r then some (Fd.lows (s.data.toList.take (s.data.toList.length - r.length))) else none) := by show _ = _; unfold medR; rw [hr]
    have hcut : s.data.toList.take (s.data.toList.length - r.length) = t := by
      rw [ht, List.length_append, Nat.add_sub_cancel, List.take_left]
    rw [hcut] at HMR
    obtain ⟨K, hK⟩ : ∃ K : ByteArray, s.extract 0 (s.size - r.length) = K := ⟨_, rfl⟩
    have HKL : Hid (K.data.toList = t) := by
      show _ = _
      rw [← hK, ← hcut, HLL.out]
      simp
    have k0 : (0 : Int) ≤ ((s.size - r.length : Nat) : Int) := Int.natCast_nonneg _
    have k1 : ((s.size - r.length : Nat) : Int) ≤ (s.size : Int) := by omega
    have hKs : K.size ≤ 140737488355328 := by rw [← hK, ByteArray.size_extract]; omega
    have HTL := hide (fun W' => toLower_any K W' hKs (by rw [HKL.out]; exact hsm))
    rw [HKL.out] at HTL
    clear ha2 hm2 hr ht hsm hcut
    generalize hPl : s.size - r.length = PL at *
    clear hPl
    go_wp2_with fail
    refine (params_any w1.heap.size s r _ HA2.out (by omega)).mono ?_
    rintro x w3 ⟨rfl, hm3⟩
    have HB3 : Hid (Below w.heap.size w w3) := HB2.out.trans (hm3.below.mono HW1.out)
    clear hm3
    cases hp : pars r with
    | true =>
      rw [hp, if_pos rfl] at HMR
      have HR2 : Hid (R = .tuple #[S (Fd.lows t), .nilIface]) := by show _ = _; rw [← HR.out]; unfold medV; rw [HMR.out]
      clear hp
      go_wp2_with fail
      refine (HTL.out w3).mono ?_
      rintro x w4 ⟨rfl, hb4⟩
      have HB4 := hide (keepD HB3.out hb4)
      clear hb4
      go_wp2_with fail
      go_ret2
      exact ⟨by rw [HR2.out]; rfl, HB4.out⟩
    | false =>
      rw [hp, if_neg (by decide)] at HMR
      have HR2 : Hid (R = .tuple #[.string ⟨#[]⟩, X ea]) := by show _ = _; rw [← HR.out]; unfold medV; rw [HMR.out]
      have hx : w3.cell? ⟨0, 0, none⟩ = some (X ea) := HE.out.below HB3.out
      clear hp
      go_wp2_with fail
      go_quiet (fail)
      go_wp2_with fail
      go_ret2
      exact ⟨by rw [HR2.out]; rfl, below_drewM HB3.out _⟩
  · have HB2 : Hid (Below w.heap.size w w2) := HB.out.trans (hm2.below.mono HW1.out)
    have HR2 : Hid (R = .tuple #[.string ⟨#[]⟩, X ea]) := by show _ = _; rw [← HR.out]; unfold medV medR; rw [hr]
    have hx : w2.cell? ⟨0, 0, none⟩ = some (X ea) := HE.out.below HB2.out
    clear hm2 hr
    go_wp2_with fail
    go_quiet (fail)
    go_wp2_with fail
    go_ret2
    exact ⟨by rw [HR2.out]; rfl, below_drewM HB2.out _⟩

end Go.Proofs.YtlefalplljgkeaaGreatDoor.fd
