import Derived.Test.YtjalggkhpnfbiaaDoorMRdTake
import Derived.Lib.Bytealg
import Derived.Laws.Externs
namespace Go.Proofs.YtjalggkhpnfbiaaDoor.pg
open Go.ChangeShapes Go.WideShapes Go.ChangeAt Go.RowKit Go.Proofs.YtjalggkhpnfbiaaDoor.common Go.Maps
attribute [local go_sem ↓] Go.wp_at_zero Go.wp_at_succ

/-- where a byte first stands -/
theorem ahead_index (c : UInt8) (l : List UInt8) : (Lib.indexByte l c = -1 ∧ ahead c l = none) ∨ ∃ i : Nat, Lib.indexByte l c = (i : Int) ∧ i < l.length ∧ ahead c l = some (l.take i, l.drop i) := by
  induction l with
  | nil => exact Or.inl ⟨rfl, rfl⟩
  | cons b r ih =>
    by_cases hb : b = c
    · subst hb
      exact Or.inr ⟨0, by simp [Lib.indexByte], by simp, by unfold ahead; rw [if_pos rfl]; rfl⟩
    · have e : Lib.indexByte (b :: r) c = if Lib.indexByte r c == -1 then -1 else Lib.indexByte r c + 1 := by
        rw [Lib.indexByte, if_neg (by simpa using hb)]
      have e2 : ahead c (b :: r) = (ahead c r).map fun p => (b :: p.1, p.2) := by
        conv => lhs; unfold ahead
        rw [if_neg hb]
      rcases ih with ⟨h1, h2⟩ | ⟨i, h1, h2, h3⟩
      · exact Or.inl ⟨by rw [e, h1]; rfl, by rw [e2, h2]; rfl⟩
      · refine Or.inr ⟨i + 1, ?_, by simpa using h2, ?_⟩
        · rw [e, h1, if_neg (by simp)]; rfl
        · rw [e2, h3]; rfl
set_option maxRecDepth 100000 in
theorem indexB_any (s : ByteArray) (c : UInt8) (w : World) :
    Calls Tryd.prog 61 #[.string s, B c] w fun e w' => e = .returned (.int .i64 (Lib.indexByte s.data.toList c)) ∧ w' = w := by
  go_enter Tryd.func61, Tryd.ntmps61
  go_wp2_with fail
  rw [run_callFunc_extern Tryd.func69 (by kernel_rfl) (by kernel_rfl) (by kernel_rfl) (e := Extern.BytealgIndexByte.indexByte) (by kernel_rfl), Lib.run_indexByteString]
  have e : ((c.toNat : Int)).toNat.toUInt8 = c := by simp
  rw [e]
  simp only [Result.andThen]
  rw [Oper.upon_value]
  go_wp2
  go_ret
  exact ⟨rfl, rfl⟩
set_option maxRecDepth 100000 in
theorem sIndexB_any (s : ByteArray) (c : UInt8) (w : World) :
    Calls Tryd.prog 50 #[.string s, B c] w fun e w' => e = .returned (.int .i64 (Lib.indexByte s.data.toList c)) ∧ w' = w := by
  have HC := hide (fun W => indexB_any s c W)
  generalize Lib.indexByte s.data.toList c = i at *
  go_enter Tryd.func50, Tryd.ntmps50
  go_wp2_with (go_at_call 61; refine (HC.out _).mono ?_; rintro e w' ⟨rfl, rfl⟩)
  go_ret
  exact ⟨rfl, rfl⟩

set_option maxRecDepth 100000 in
set_option maxHeartbeats 800000 in
theorem rdText_any (b : Nat) (s : ByteArray) (c : UInt8) (ea : Addr) (w : World) (hs : s.size < 140737488355328) (h : Rr w b s) (he : Esc w) (ht : Txt w ea) :
    Calls Tryd.prog 39 #[ptr b, B c] w fun e w' => RPost b ea w Value.string (txtL c s.data.toList) e w' := by
  have HI := hide (fun W => sIndexB_any s c W)
  have h' : w.heap[b]? = some (.cells #[.string s] 61) := h
  have c0 : w.cell? ⟨b, 0, none⟩ = some (.string s) := by simp [World.cell?, h']
  have ce : w.cell? ⟨1, 0, none⟩ = some (X ea) := ht
  rcases ahead_index c s.data.toList with ⟨h1, h2⟩ | ⟨i, h1, h2, h3⟩
  · have HT : Hid (txtL c s.data.toList = none) := by show _ = _; unfold txtL; rw [h2]; rfl
    rw [h1] at HI
    clear h h' he ht h1 h2
    go_enter Tryd.func39, Tryd.ntmps39
    go_wp2_with (go_at_call 50; refine (HI.out _).mono ?_; rintro e w' ⟨rfl, rfl⟩)
    exact ⟨rfl, Kr.refl _ _, Or.inr ⟨HT.out, rfl⟩⟩
  · have HT : Hid (txtL c s.data.toList = (Pg.unesc (s.data.toList.take i)).map fun t => (⟨t.toArray⟩, s.data.toList.drop i)) := by show _ = _; unfold txtL; rw [h3]; rfl
    rw [len_list] at h2
    have HK := hide (take_any b s i ea w (Nat.le_of_lt h2) hs h he ht)
    rw [h1] at HI
    have i0 : ¬ (i : Int) < 0 := by omega
    clear h h' he ht h1 h2 h3
    go_enter Tryd.func39, Tryd.ntmps39
    go_wp2_with (go_at_call 50; refine (HI.out _).mono ?_; rintro e w' ⟨rfl, rfl⟩)
    refine HK.out.mono ?_
    rintro e w' ⟨k1, ⟨x, r, g1, rfl, g2⟩ | ⟨g1, rfl⟩⟩
    · have G1 := hide g1
      have G2 := hide g2
      have K1 := hide k1
      clear g1 g2 k1
      go_wp2
      go_ret
      exact ⟨K1.out, Or.inl ⟨x, r, by rw [HT.out]; exact G1.out, rfl, G2.out⟩⟩
    · have G1 := hide g1
      have K1 := hide k1
      clear g1 k1
      go_wp2
      exact ⟨rfl, K1.out, Or.inr ⟨by rw [HT.out]; exact G1.out, rfl⟩⟩
end Go.Proofs.YtjalggkhpnfbiaaDoor.pg

namespace Go.Proofs.YtjalggkhpnfbiaaDoor.pg
open Go.ChangeShapes Go.WideShapes Go.ChangeAt Go.RowKit Go.Proofs.YtjalggkhpnfbiaaDoor.common Go.Maps
attribute [local go_sem ↓] Go.wp_at_zero Go.wp_at_succ

/-- what the reader leans on -/
structure REnv (w : World) (b : Nat) (ea : Addr) : Prop where
  esc : Esc w
  txt : Txt w ea
  lt : 4 < b
  lt2 : 1 < b

set_option maxRecDepth 100000 in
set_option maxHeartbeats 800000 in
theorem name_any (b : Nat) (s : ByteArray) (ea : Addr) (w : World) (hs : s.size < 140737488355328) (h : Rr w b s) (he : REnv w b ea) :
    Calls Tryd.prog 72 #[ptr b] w fun e w' => RPost b ea w Value.string (namL s.data.toList) e w' := by
  have HT := hide (rdText_any b s 34 ea w hs h he.esc he.txt)
  have HE := hide he
  have hbl := h.lt
  clear h he
  go_enter Tryd.func72, Tryd.ntmps72
  go_wp2_with fail
  refine HT.out.mono ?_
  rintro e w' ⟨k1, ⟨x, r, g1, rfl, g2⟩ | ⟨g1, rfl⟩⟩
  · have ce : w'.cell? ⟨1, 0, none⟩ = some (X ea) := HE.out.txt.under (k1.under (Nat.le_of_lt hbl)) HE.out.lt2
    have G1 := hide g1
    have G2 := hide g2
    have K1 := hide k1
    clear g1 g2 k1
    obtain ⟨en, hen⟩ : ∃ en, x.toList.isEmpty = en := ⟨_, rfl⟩
    cases en with
    | true =>
      have HN : Hid (namL s.data.toList = none) := by
        show _ = _
        unfold namL
        rw [G1.out, Option.bind_some, if_pos (show emp x = true from hen)]
      go_wp2
      exact ⟨rfl, K1.out, Or.inr ⟨HN.out, rfl⟩⟩
    | false =>
      have HN : Hid (namL s.data.toList = some (x, r.data.toList)) := by
        show _ = _
        unfold namL
        rw [G1.out, Option.bind_some, if_neg (by show ¬ emp x = true; unfold emp; rw [hen]; decide)]
      go_wp2
      go_ret
      exact ⟨K1.out, Or.inl ⟨x, r, HN.out, rfl, G2.out⟩⟩
  · have HN : Hid (namL s.data.toList = none) := by show _ = _; unfold namL; rw [g1]; rfl
    have K1 := hide k1
    clear g1 k1
    go_wp2
    exact ⟨rfl, K1.out, Or.inr ⟨HN.out, rfl⟩⟩
end Go.Proofs.YtjalggkhpnfbiaaDoor.pg
