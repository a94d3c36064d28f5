import Derived.Test.YtjalggkhpnfbiaaDoorMUnescW
namespace Go.Proofs.YtjalggkhpnfbiaaDoor.pg
open Go.ChangeShapes Go.WideShapes Go.ChangeAt Go.RowKit Go.Proofs.YtjalggkhpnfbiaaDoor.common
attribute [local go_sem ↓] Go.wp_at_zero Go.wp_at_succ

abbrev X (a : Addr) : Value := .iface 141 (.pointer (some a))
def Txt (w : World) (a : Addr) : Prop := w.cell? ⟨1, 0, none⟩ = some (X a)
theorem Txt.lt {w : World} {a : Addr} (h : Txt w a) : 1 < w.heap.size := World.block_lt_of_cell? w _ h
theorem Txt.under {w w' : World} {a : Addr} {b : Nat} (h : Txt w a) (hb : Below b w w') (hB : 1 < b) : Txt w' a := by
  unfold Txt; rw [← h]; exact hb.cell hB
theorem Txt.next {w w' : World} {a : Addr} (h : Txt w a) (hb : Below w.heap.size w w') : Txt w' a := h.under hb h.lt

/-- what is read up to here, the rest being left -/
def Rdu (l R r : List UInt8) : Prop := Pg.unesc l = (Pg.unesc r).map (R ++ ·)
theorem rdu_zero (l : List UInt8) : Rdu l [] l := by unfold Rdu; simp
theorem map_snoc {R : List UInt8} {b : UInt8} (o : Option (List UInt8)) : (o.map (b :: ·)).map (R ++ ·) = o.map ((R ++ [b]) ++ ·) := by
  cases o <;> simp
/-- what comes first, and the rest -/
theorem first_ok (l : List UInt8) (h : l ≠ []) (hn : (first l).2 ≠ 0) : (first l).2 ≤ l.length ∧ 0 < (first l).2 ∧ Pg.unesc l = (Pg.unesc (l.drop (first l).2)).map ((first l).1 :: ·) := by
  match l, h with
  | c :: r, _ =>
    by_cases hc : Pg.wr c = []
    · rw [first_plain c r hc]
      exact ⟨by simp, Nat.one_pos, Pg.unesc_plain c r hc⟩
    · cases hp : Pg.hit (c :: r) with
      | none => rw [first_five c r hc, hp] at hn; exact absurd rfl hn
      | some p =>
        rw [first_five c r hc, hp]
        obtain ⟨e, hpre, hne⟩ := Pg.hit_is hp
        have hl : 0 < p.2.length := by
          rw [e]; cases hw : Pg.wr p.1 with
          | nil => exact absurd hw hne
          | cons x y => simp
        refine ⟨?_, hl, ?_⟩
        · have := Pg.prefix_split hpre
          have := congrArg List.length this
          rw [List.length_append] at this
          show p.2.length ≤ _
          omega
        · rw [Pg.unesc_hit c r p hc hp]
          show _ = (Pg.unesc ((c :: r).drop p.2.length)).map _
          obtain ⟨m, hm⟩ : ∃ m, p.2.length = m + 1 := ⟨p.2.length - 1, by omega⟩
          rw [hm, List.drop_succ_cons]; rfl
theorem first_no (l : List UInt8) (h : l ≠ []) (hn : (first l).2 = 0) : Pg.unesc l = none := by
  match l, h with
  | c :: r, _ =>
    by_cases hc : Pg.wr c = []
    · rw [first_plain c r hc] at hn; cases hn
    · cases hp : Pg.hit (c :: r) with
      | none => exact Pg.unesc_no c r hc hp
      | some p =>
        rw [first_five c r hc, hp] at hn
        obtain ⟨e, hpre, hne⟩ := Pg.hit_is hp
        have hn' : p.2.length = 0 := hn
        rw [e] at hn'
        have : (Pg.wr p.1).length = 0 := hn'
        exact absurd (List.eq_nil_of_length_eq_zero this) hne
theorem rdu_step {l R r : List UInt8} (h : Rdu l R r) (hr : r ≠ []) (hn : (first r).2 ≠ 0) : Rdu l (R ++ [(first r).1]) (r.drop (first r).2) := by
  unfold Rdu at h ⊢
  rw [h, (first_ok r hr hn).2.2, map_snoc]
theorem rdu_no {l R r : List UInt8} (h : Rdu l R r) (hr : r ≠ []) (hn : (first r).2 = 0) : Pg.unesc l = none := by
  unfold Rdu at h; rw [h, first_no r hr hn]; rfl
theorem rdu_end {l R : List UInt8} (h : Rdu l R []) : Pg.unesc l = some R := by
  unfold Rdu at h; rw [h, Pg.unesc_nil]; simp
theorem extract_list (s : ByteArray) (a : Nat) : (s.extract a s.size).data.toList = s.data.toList.drop a := by
  rw [ext_list]
  exact List.take_of_length_le (by rw [List.length_drop, len_list]; exact Nat.le_refl _)

/-- how long a text is -/
def tlen : Value → Nat
  | .string s => s.size
  | _ => 0
/-- how Unescape ends -/
def UAns (s : ByteArray) (ea : Addr) (x : Ending) : Prop :=
  (∃ t, Pg.unesc s.data.toList = some t ∧ x = .returned (.tuple #[S t, .nilIface])) ∨ (Pg.unesc s.data.toList = none ∧ x = .returned (.tuple #[.string ⟨#[]⟩, X ea]))

set_option maxRecDepth 100000 in
set_option maxHeartbeats 1600000 in
theorem unescape_any (s : ByteArray) (w : World) (hs : s.size < 140737488355328) (ht : Esc w) (ea : Addr) (he : Txt w ea) :
    Calls Tryd.prog 62 #[.string s] w fun x w' => Below w.heap.size w w' ∧ UAns s ea x := by
  have HT := hide ht
  have HE := hide he
  have HS := hide hs
  have HN := hide (Bd.nil w 54 [] kind_b)
  have H0 := hide ((Below.refl w.heap.size w).alloc (Nat.le_refl _) (.cells ⟨.pointer none :: .slice none 0 0 :: []⟩ 54))
  have hlt := hide HT.out.lt
  have hle := hide HE.out.lt
  clear ht he hs
  generalize hQ : UAns s ea = Q
  have HQ := hide hQ
  clear hQ
  go_enter Tryd.func62, Tryd.ntmps62
  go_wp2_with fail
  generalize hW : w.alloc (.cells #[.pointer none, .slice none 0 0] 54) = W at *
  clear hW
  generalize hb : w.heap.size = b at *
  have Hb := hide hb
  clear hb
  go_loopw [0] (fun v wr => ∃ (r : ByteArray) (R : List UInt8), v = .string r ∧ r.size ≤ s.size ∧ R.length + r.size ≤ s.size ∧ Hid (Rdu s.data.toList R r.data.toList) ∧ Hid (Bd wr b 54 [] R) ∧ Hid (Below b w wr)) (fun v _ => tlen v)
  case atStart => exact ⟨s, [], rfl, Nat.le_refl _, by simp, rdu_zero _, HN, H0⟩
  case round =>
    obtain ⟨r, R, rfl, hrs, hRs, hrd, hbd, hbl⟩ := hrel
    by_cases h0 : 0 < r.size
    · have hne : (r.toList == []) = false := by
        rw [ByteArray.toList_eq]; apply beq_false_of_ne; intro e
        have := congrArg List.length e; rw [len_list, List.length_nil] at this; omega
      have hrn : Hid (r.data.toList ≠ []) := fun e => by
        have := congrArg List.length e; rw [len_list, List.length_nil] at this; omega
      have HE1 := hide (HT.out.under hbl.out hlt.out)
      go_wp2_with fail
      refine (firstChar_any r _ HE1.out h0).mono ?_
      rintro x w1 ⟨hb1, rfl⟩
      have hbd := hide (hbd.out.next hb1)
      have hbl := hide (hbl.out.trans (hb1.mono (Nat.le_of_lt (Bd.lt ‹Hid (Bd wr b _ _ _)›.out))))
      clear hb1
      by_cases hz : (first r.data.toList).2 = 0
      · have HNo := hide (rdu_no hrd.out hrn.out hz)
        have hte := hide (HE.out.under hbl.out hle.out)
        have htx : _ = _ := hte.out
        rw [hz]
        clear hz
        go_wp2
        go_region_held3 (fun W => W.cell? ⟨1, 0, none⟩ = some (X ea)) (go_keep) (fail)
        go_wp2
        go_ret2
        exact ⟨by rw [Hb.out]; exact hbl.out.drew, by rw [← HQ.out]; exact Or.inr ⟨HNo.out, rfl⟩⟩
      · obtain ⟨k1, k2, _⟩ := first_ok _ hrn.out hz
        rw [len_list] at k1
        have HR2 := hide (rdu_step hrd.out hrn.out hz)
        rw [← extract_list] at HR2
        generalize (first r.data.toList).1 = c at *
        generalize hn : (first r.data.toList).2 = n at *
        clear hn
        have HZ := hide hz
        have hni : ((n : Int) == 0) = false := by apply beq_false_of_ne; omega
        have hnle : (n : Int) ≤ (r.size : Int) := by omega
        have hn0 : (0 : Int) ≤ (n : Int) := by omega
        have hnt : (n : Int).toNat = n := by omega
        clear hz
        go_wp2_with fail
        refine (writeByte_any b _ _ [] R c hbd.out (by have := HS.out; omega)).mono ?_
        rintro x w2 ⟨rfl, hbd2, hfr2⟩
        have H1 := hide hbd2
        have H2 := hide (hbl.out.trans hfr2.below)
        clear hbd2 hfr2
        go_wp2
        go_roundw
        case rel => exact ⟨_, _, rfl, by rw [ByteArray.size_extract]; omega, by rw [ByteArray.size_extract, List.length_append]; simp; omega, HR2, H1, H2⟩
        case measure => simp [tlen] <;> omega
    · have hre : r = ⟨#[]⟩ := by
        apply ba_ext
        show _ = []
        apply List.eq_nil_of_length_eq_zero
        rw [len_list]; omega
      subst hre
      have HU := hide (rdu_end hrd.out)
      go_wp2_with fail
      refine (string_any b _ _ _ _ hbd.out).mono ?_
      rintro x w2 ⟨rfl, hb2⟩
      have H3 := hide (hbl.out.trans hb2)
      clear hb2
      go_wp2
      go_ret2
      exact ⟨by rw [Hb.out]; exact H3.out, by rw [← HQ.out]; exact Or.inl ⟨R, HU.out, rfl⟩⟩

end Go.Proofs.YtjalggkhpnfbiaaDoor.pg
