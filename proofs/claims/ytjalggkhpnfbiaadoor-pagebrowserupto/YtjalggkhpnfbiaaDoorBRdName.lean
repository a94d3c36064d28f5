import Derived.Test.YtjalggkhpnfbiaaDoorBUnescW2
import Derived.Lib.Bytealg
import Derived.Laws.Externs
namespace Go.Proofs.YtjalggkhpnfbiaaDoor.pg
open Go.ChangeShapes Go.WideShapes Go.ChangeAt Go.RowKit Go.Proofs.YtjalggkhpnfbiaaDoor.common Go.Maps
attribute [local go_sem ↓] Go.wp_at_zero Go.wp_at_succ

/-- all but the reader's block stays -/
structure Kr (rb : Nat) (w w' : World) : Prop where
  os : w'.os = w.os
  tape : w'.tape = w.tape
  output : w'.output = w.output
  size : w.heap.size ≤ w'.heap.size
  block : ∀ k, k < w.heap.size → k ≠ rb → w'.heap[k]? = w.heap[k]?
theorem Kr.refl (rb : Nat) (w : World) : Kr rb w w := ⟨rfl, rfl, rfl, Nat.le_refl _, fun _ _ _ => rfl⟩
theorem Kr.trans {rb : Nat} {a b c : World} (h : Kr rb a b) (k : Kr rb b c) : Kr rb a c :=
  ⟨k.os.trans h.os, k.tape.trans h.tape, k.output.trans h.output, Nat.le_trans h.size k.size, fun i hi hn => (k.block i (Nat.lt_of_lt_of_le hi h.size) hn).trans (h.block i hi hn)⟩
theorem Kr.of {rb : Nat} {a b : World} (h : Below a.heap.size a b) : Kr rb a b := ⟨h.os, h.tape, h.output, h.size, fun k hk _ => h.block k hk⟩
theorem Kr.set (rb : Nat) (w : World) (i : Nat) (v : Value) : Kr rb w (w.setCell ⟨rb, i, none⟩ v) :=
  ⟨rfl, rfl, rfl, by simp [World.setCell], fun k _ hn => Below.heap_setCell w ⟨rb, i, none⟩ v k hn⟩
theorem Kr.drew {rb : Nat} {a b : World} (h : Kr rb a b) : Kr rb a b.drew := ⟨h.os, h.tape, h.output, h.size, h.block⟩
theorem Kr.under {rb : Nat} {a b : World} (h : Kr rb a b) (hrb : rb ≤ a.heap.size) : Below rb a b := ⟨h.os, h.tape, h.output, h.size, fun k hk => h.block k (by omega) (by omega)⟩
theorem Rr.below {w w' : World} {b : Nat} {s : ByteArray} (h : Rr w b s) (hb : Below w.heap.size w w') : Rr w' b s := by
  unfold Rr; rw [hb.block b h.lt]; exact h

abbrev PX (ea : Addr) : Ending := .panicked [{ v := X ea, recovered := false }]
/-- how a method of the reader ends: with a value, at what is left; or it gives up -/
def RPost {α : Type} (b : Nat) (ea : Addr) (w : World) (val : α → Value) (o : Option (α × List UInt8)) (e : Ending) (w' : World) : Prop :=
  Kr b w w' ∧ ((∃ x r, o = some (x, r.data.toList) ∧ e = .returned (val x) ∧ Rr w' b r) ∨ (o = none ∧ e = PX ea))

set_option maxRecDepth 100000 in
set_option maxHeartbeats 800000 in
theorem must_any (b : Nat) (s m : ByteArray) (ea : Addr) (w : World) (h : Rr w b s) (ht : Txt w ea) (hB : 1 < b) :
    Calls Tryd.prog 38 #[ptr b, .string m] w fun e w' => RPost b ea w (fun _ : Unit => .tuple #[]) ((skp m.data.toList s.data.toList).map fun r => ((), r)) e w' := by
  have HS := hide (skip_any b s m w h)
  have HK := hide (skp_cut s m)
  have HR := hide (h.set (cutB s m).1)
  have HKp := hide (Kr.set b w 0 (.string (cutB s m).1))
  have ce : (w.setCell ⟨b, 0, none⟩ (.string (cutB s m).1)).cell? ⟨1, 0, none⟩ = some (X ea) := (((Kr.set b w 0 (.string (cutB s m).1)).under (Nat.le_of_lt h.lt)).cell (p := ⟨1, 0, none⟩) hB).trans ht
  clear h ht
  generalize (cutB s m).1 = x at *
  generalize (cutB s m).2 = y at *
  go_enter Tryd.func38, Tryd.ntmps38
  go_wp2_with fail
  refine HS.out.mono ?_
  rintro e w' ⟨rfl, rfl⟩
  cases y with
  | true =>
    go_wp2
    go_end0
    exact ⟨HKp.out, Or.inl ⟨(), x, by rw [HK.out]; rfl, rfl, HR.out⟩⟩
  | false =>
    go_wp2
    exact ⟨rfl, HKp.out, Or.inr ⟨by rw [HK.out]; rfl, rfl⟩⟩
end Go.Proofs.YtjalggkhpnfbiaaDoor.pg

namespace Go.Proofs.YtjalggkhpnfbiaaDoor.pg
open Go.ChangeShapes Go.WideShapes Go.ChangeAt Go.RowKit Go.Proofs.YtjalggkhpnfbiaaDoor.common Go.Maps
attribute [local go_sem ↓] Go.wp_at_zero Go.wp_at_succ

set_option maxRecDepth 100000 in
set_option maxHeartbeats 800000 in
theorem take_any (b : Nat) (s : ByteArray) (n : Nat) (ea : Addr) (w : World) (hn : n ≤ s.size) (hs : s.size < 140737488355328) (h : Rr w b s) (he : Esc w) (ht : Txt w ea) :
    Calls Tryd.prog 51 #[ptr b, .int .i64 n] w fun e w' => RPost b ea w Value.string ((Pg.unesc (s.data.toList.take n)).map fun t => (⟨t.toArray⟩, s.data.toList.drop n)) e w' := by
  have HR := hide h
  have h' : w.heap[b]? = some (.cells #[.string s] 61) := h
  have c0 : w.cell? ⟨b, 0, none⟩ = some (.string s) := by simp [World.cell?, h']
  have HX : Hid ((s.extract 0 n).data.toList = s.data.toList.take n) := by
    have hx := ext_list s 0 n
    rw [Nat.sub_zero, List.drop_zero] at hx
    exact hx
  have HD : Hid ((s.extract n s.size).data.toList = s.data.toList.drop n) := by
    show _ = _
    rw [ext_list, List.take_of_length_le (by rw [List.length_drop, len_list]; omega)]
  have HU := hide (unescape_any (s.extract 0 n) w (by have : (s.extract 0 n).size ≤ s.size := by simp; omega
                                                      omega) he ea ht)
  have z0 : (0 : Int) ≤ (n : Int) := by omega
  have z1 : (n : Int) ≤ (s.size : Int) := by omega
  clear h h' he ht
  go_enter Tryd.func51, Tryd.ntmps51
  go_wp2_with fail
  refine HU.out.mono ?_
  rintro e w' ⟨hb, ha⟩
  unfold UAns at ha
  rw [HX.out] at ha
  have HB := hide hb
  have HR1 := hide (HR.out.below hb)
  have h1 : w'.heap[b]? = some (.cells #[.string s] 61) := HR1.out
  have c1 : w'.cell? ⟨b, 0, none⟩ = some (.string s) := by simp [World.cell?, h1]
  have f1 : w'.frozen? ⟨b, 0, none⟩ = false := by simp [World.frozen?, h1]
  clear hb h1 c0
  rcases ha with ⟨t, ht, rfl⟩ | ⟨ht, rfl⟩
  · have HT := hide ht
    clear ht
    have HR2 := hide (HR1.out.set (s.extract n s.size))
    have HK := hide ((Kr.of (rb := b) HB.out).trans (Kr.set b w' 0 (.string (s.extract n s.size))))
    go_wp2
    go_ret
    exact ⟨HK.out, Or.inl ⟨⟨t.toArray⟩, s.extract n s.size, by rw [HT.out, HD.out]; rfl, rfl, HR2.out⟩⟩
  · have HT := hide ht
    clear ht
    have HK := hide (Kr.of (rb := b) HB.out)
    go_wp2
    exact ⟨rfl, HK.out, Or.inr ⟨by rw [HT.out]; rfl, rfl⟩⟩
end Go.Proofs.YtjalggkhpnfbiaaDoor.pg

namespace Go.Proofs.YtjalggkhpnfbiaaDoor.pg
open Go.ChangeShapes Go.WideShapes Go.ChangeAt Go.RowKit Go.Proofs.YtjalggkhpnfbiaaDoor.common Go.Maps
attribute [local go_sem ↓] Go.wp_at_zero Go.wp_at_succ

/-- where a byte first stands -/
theorem ahead_index (c : UInt8) (l : List UInt8) : (Lib.indexByte l c = -1 ∧ ahead c l = none) ∨ ∃ i : Nat, Lib.indexByte l c = (i : Int) ∧ i < l.length ∧ ahead c l = some (l.take i, l.drop i) := by
  induction l with
  | nil => exact Or.inl ⟨rfl, rfl⟩
  | cons b r ih =>
    by_cases hb : b = c
    · subst hb
      exact Or.inr ⟨0, by simp [Lib.indexByte], by simp, by unfold ahead; rw [if_pos rfl]; rfl⟩
    · have e : Lib.indexByte (b :: r) c = if Lib.indexByte r c == -1 then -1 else Lib.indexByte r c + 1 := by
        rw [Lib.indexByte, if_neg (by simpa using hb)]
      have e2 : ahead c (b :: r) = (ahead c r).map fun p => (b :: p.1, p.2) := by
        conv => lhs; unfold ahead
        rw [if_neg hb]
      rcases ih with ⟨h1, h2⟩ | ⟨i, h1, h2, h3⟩
      · exact Or.inl ⟨by rw [e, h1]; rfl, by rw [e2, h2]; rfl⟩
      · refine Or.inr ⟨i + 1, ?_, by simpa using h2, ?_⟩
        · rw [e, h1, if_neg (by simp)]; rfl
        · rw [e2, h3]; rfl
set_option maxRecDepth 100000 in
theorem indexB_any (s : ByteArray) (c : UInt8) (w : World) :
    Calls Tryd.prog 61 #[.string s, B c] w fun e w' => e = .returned (.int .i64 (Lib.indexByte s.data.toList c)) ∧ w' = w := by
  go_enter Tryd.func61, Tryd.ntmps61
  go_wp2_with fail
  rw [run_callFunc_extern Tryd.func69 (by kernel_rfl) (by kernel_rfl) (by kernel_rfl) (e := Extern.BytealgIndexByte.indexByte) (by kernel_rfl), Lib.run_indexByteString]
  have e : ((c.toNat : Int)).toNat.toUInt8 = c := by simp
  rw [e]
  simp only [Result.andThen]
  rw [Oper.upon_value]
  go_wp2
  go_ret
  exact ⟨rfl, rfl⟩
set_option maxRecDepth 100000 in
theorem sIndexB_any (s : ByteArray) (c : UInt8) (w : World) :
    Calls Tryd.prog 50 #[.string s, B c] w fun e w' => e = .returned (.int .i64 (Lib.indexByte s.data.toList c)) ∧ w' = w := by
  have HC := hide (fun W => indexB_any s c W)
  generalize Lib.indexByte s.data.toList c = i at *
  go_enter Tryd.func50, Tryd.ntmps50
  go_wp2_with (go_at_call 61; refine (HC.out _).mono ?_; rintro e w' ⟨rfl, rfl⟩)
  go_ret
  exact ⟨rfl, rfl⟩

set_option maxRecDepth 100000 in
set_option maxHeartbeats 800000 in
theorem rdText_any (b : Nat) (s : ByteArray) (c : UInt8) (ea : Addr) (w : World) (hs : s.size < 140737488355328) (h : Rr w b s) (he : Esc w) (ht : Txt w ea) :
    Calls Tryd.prog 39 #[ptr b, B c] w fun e w' => RPost b ea w Value.string (txtL c s.data.toList) e w' := by
  have HI := hide (fun W => sIndexB_any s c W)
  have h' : w.heap[b]? = some (.cells #[.string s] 61) := h
  have c0 : w.cell? ⟨b, 0, none⟩ = some (.string s) := by simp [World.cell?, h']
  have ce : w.cell? ⟨1, 0, none⟩ = some (X ea) := ht
  rcases ahead_index c s.data.toList with ⟨h1, h2⟩ | ⟨i, h1, h2, h3⟩
  · have HT : Hid (txtL c s.data.toList = none) := by show _ = _; unfold txtL; rw [h2]; rfl
    rw [h1] at HI
    clear h h' he ht h1 h2
    go_enter Tryd.func39, Tryd.ntmps39
    go_wp2_with (go_at_call 50; refine (HI.out _).mono ?_; rintro e w' ⟨rfl, rfl⟩)
    exact ⟨rfl, Kr.refl _ _, Or.inr ⟨HT.out, rfl⟩⟩
  · have HT : Hid (txtL c s.data.toList = (Pg.unesc (s.data.toList.take i)).map fun t => (⟨t.toArray⟩, s.data.toList.drop i)) := by show _ = _; unfold txtL; rw [h3]; rfl
    rw [len_list] at h2
    have HK := hide (take_any b s i ea w (Nat.le_of_lt h2) hs h he ht)
    rw [h1] at HI
    have i0 : ¬ (i : Int) < 0 := by omega
    clear h h' he ht h1 h2 h3
    go_enter Tryd.func39, Tryd.ntmps39
    go_wp2_with (go_at_call 50; refine (HI.out _).mono ?_; rintro e w' ⟨rfl, rfl⟩)
    refine HK.out.mono ?_
    rintro e w' ⟨k1, ⟨x, r, g1, rfl, g2⟩ | ⟨g1, rfl⟩⟩
    · have G1 := hide g1
      have G2 := hide g2
      have K1 := hide k1
      clear g1 g2 k1
      go_wp2
      go_ret
      exact ⟨K1.out, Or.inl ⟨x, r, by rw [HT.out]; exact G1.out, rfl, G2.out⟩⟩
    · have G1 := hide g1
      have K1 := hide k1
      clear g1 k1
      go_wp2
      exact ⟨rfl, K1.out, Or.inr ⟨by rw [HT.out]; exact G1.out, rfl⟩⟩
end Go.Proofs.YtjalggkhpnfbiaaDoor.pg

namespace Go.Proofs.YtjalggkhpnfbiaaDoor.pg
open Go.ChangeShapes Go.WideShapes Go.ChangeAt Go.RowKit Go.Proofs.YtjalggkhpnfbiaaDoor.common Go.Maps
attribute [local go_sem ↓] Go.wp_at_zero Go.wp_at_succ

/-- what the reader leans on -/
structure REnv (w : World) (b : Nat) (ea : Addr) : Prop where
  esc : Esc w
  txt : Txt w ea
  lt : 4 < b
  lt2 : 1 < b

set_option maxRecDepth 100000 in
set_option maxHeartbeats 800000 in
theorem name_any (b : Nat) (s : ByteArray) (ea : Addr) (w : World) (hs : s.size < 140737488355328) (h : Rr w b s) (he : REnv w b ea) :
    Calls Tryd.prog 72 #[ptr b] w fun e w' => RPost b ea w Value.string (namL s.data.toList) e w' := by
  have HT := hide (rdText_any b s 34 ea w hs h he.esc he.txt)
  have HE := hide he
  have hbl := h.lt
  clear h he
  go_enter Tryd.func72, Tryd.ntmps72
  go_wp2_with fail
  refine HT.out.mono ?_
  rintro e w' ⟨k1, ⟨x, r, g1, rfl, g2⟩ | ⟨g1, rfl⟩⟩
  · have ce : w'.cell? ⟨1, 0, none⟩ = some (X ea) := HE.out.txt.under (k1.under (Nat.le_of_lt hbl)) HE.out.lt2
    have G1 := hide g1
    have G2 := hide g2
    have K1 := hide k1
    clear g1 g2 k1
    obtain ⟨en, hen⟩ : ∃ en, x.toList.isEmpty = en := ⟨_, rfl⟩
    cases en with
    | true =>
      have HN : Hid (namL s.data.toList = none) := by
        show _ = _
        unfold namL
        rw [G1.out, Option.bind_some, if_pos (show emp x = true from hen)]
      go_wp2
      exact ⟨rfl, K1.out, Or.inr ⟨HN.out, rfl⟩⟩
    | false =>
      have HN : Hid (namL s.data.toList = some (x, r.data.toList)) := by
        show _ = _
        unfold namL
        rw [G1.out, Option.bind_some, if_neg (by show ¬ emp x = true; unfold emp; rw [hen]; decide)]
      go_wp2
      go_ret
      exact ⟨K1.out, Or.inl ⟨x, r, HN.out, rfl, G2.out⟩⟩
  · have HN : Hid (namL s.data.toList = none) := by show _ = _; unfold namL; rw [g1]; rfl
    have K1 := hide k1
    clear g1 k1
    go_wp2
    exact ⟨rfl, K1.out, Or.inr ⟨HN.out, rfl⟩⟩
end Go.Proofs.YtjalggkhpnfbiaaDoor.pg
