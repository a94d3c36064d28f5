import Derived.Test.YtjalggkhpnfbiaaDoorBRdPage
import Derived.Test.YtjalggkhpnfbiaaDoorBPageText
namespace Go.Proofs.YtjalggkhpnfbiaaDoor.pg
open Go.ChangeShapes Go.WideShapes Go.ChangeAt Go.RowKit Go.Proofs.YtjalggkhpnfbiaaDoor.common Go.Maps
attribute [local go_sem ↓] Go.wp_at_zero Go.wp_at_succ

/-- what is left behind markup -/
def cutB (s p : ByteArray) : ByteArray × Bool := if p.data.toList.isPrefixOf s.data.toList then (s.extract p.size s.size, true) else (s, false)

set_option maxRecDepth 100000 in
set_option maxHeartbeats 800000 in
theorem slcut_any (s p : ByteArray) (w : World) :
    Calls Tryd.prog 63 #[.string s, .string p] w fun e w' => e = .returned (.tuple #[.string (cutB s p).1, .bool (cutB s p).2]) ∧ w' = w := by
  unfold cutB
  have HC := hide (fun W => slite_any s p W)
  cases hp : p.data.toList.isPrefixOf s.data.toList with
  | true =>
    rw [hp] at HC
    have hle : p.size ≤ s.size := by
      obtain ⟨r, hr⟩ := List.isPrefixOf_iff_prefix.1 hp
      have := congrArg List.length hr
      rw [List.length_append, len_list, len_list] at this
      omega
    have h1 : (p.size : Int) ≤ (s.size : Int) := by omega
    clear hp
    go_enter Tryd.func63, Tryd.ntmps63
    go_wp2_with (go_at_call 71; refine (HC.out _).mono ?_; rintro e w' ⟨rfl, rfl⟩)
    go_ret2
    exact ⟨rfl, rfl⟩
  | false =>
    rw [hp] at HC
    clear hp
    go_enter Tryd.func63, Tryd.ntmps63
    go_wp2_with (go_at_call 71; refine (HC.out _).mono ?_; rintro e w' ⟨rfl, rfl⟩)
    go_ret2
    exact ⟨rfl, rfl⟩
set_option maxRecDepth 100000 in
theorem cutPrefix_any (s p : ByteArray) (w : World) :
    Calls Tryd.prog 52 #[.string s, .string p] w fun e w' => e = .returned (.tuple #[.string (cutB s p).1, .bool (cutB s p).2]) ∧ w' = w := by
  have HC := hide (fun W => slcut_any s p W)
  generalize (cutB s p).1 = x at *
  generalize (cutB s p).2 = y at *
  go_enter Tryd.func52, Tryd.ntmps52
  go_wp2_with (go_at_call 63; refine (HC.out _).mono ?_; rintro e w' ⟨rfl, rfl⟩)
  go_ret2
  exact ⟨rfl, rfl⟩

/-- the reader, at what is left of the text -/
def Rr (w : World) (b : Nat) (s : ByteArray) : Prop := w.heap[b]? = some (.cells #[.string s] 61)
theorem Rr.lt {w : World} {b : Nat} {s : ByteArray} (h : Rr w b s) : b < w.heap.size := (Array.getElem?_eq_some_iff.1 h).1
theorem Rr.set {w : World} {b : Nat} {s : ByteArray} (h : Rr w b s) (r : ByteArray) : Rr (w.setCell ⟨b, 0, none⟩ (.string r)) b r := by
  have h' : w.heap[b]? = some (.cells #[.string s] 61) := h
  unfold Rr
  simp [World.setCell, Array.getElem?_modify, h']
theorem skp_cut (s m : ByteArray) : skp m.data.toList s.data.toList = if (cutB s m).2 then some (cutB s m).1.data.toList else none := by
  unfold skp cutB
  rw [pre_take]
  by_cases h : s.data.toList.take m.data.toList.length = m.data.toList
  · rw [if_pos h, decide_eq_true h, if_pos rfl]
    show some _ = some (s.extract m.size s.size).data.toList
    rw [ext_list, len_list]
    rw [List.take_of_length_le (by rw [List.length_drop, len_list]; omega)]
  · rw [if_neg h, decide_eq_false h]
    rfl

set_option maxRecDepth 100000 in
set_option maxHeartbeats 800000 in
theorem skip_any (b : Nat) (s m : ByteArray) (w : World) (h : Rr w b s) :
    Calls Tryd.prog 40 #[ptr b, .string m] w fun e w' => e = .returned (.bool (cutB s m).2) ∧ w' = w.setCell ⟨b, 0, none⟩ (.string (cutB s m).1) := by
  have HC := hide (fun W => cutPrefix_any s m W)
  have h' : w.heap[b]? = some (.cells #[.string s] 61) := h
  have c0 : w.cell? ⟨b, 0, none⟩ = some (.string s) := by simp [World.cell?, h']
  have z0 : w.frozen? ⟨b, 0, none⟩ = false := by simp [World.frozen?, h']
  clear h h'
  generalize (cutB s m).1 = x at *
  generalize (cutB s m).2 = y at *
  go_enter Tryd.func40, Tryd.ntmps40
  go_wp2_with (go_at_call 52; refine (HC.out _).mono ?_; rintro e w' ⟨rfl, rfl⟩)
  go_ret
  exact ⟨rfl, rfl⟩
end Go.Proofs.YtjalggkhpnfbiaaDoor.pg

namespace Go.Proofs.YtjalggkhpnfbiaaDoor.pg
open Go.ChangeShapes Go.WideShapes Go.ChangeAt Go.RowKit Go.Proofs.YtjalggkhpnfbiaaDoor.common
attribute [local go_sem ↓] Go.wp_at_zero Go.wp_at_succ

/-- the first byte that is meant, and how many it takes; none: 0 -/
def first : List UInt8 → UInt8 × Nat
  | [] => (0, 0)
  | c :: r => if Pg.wr c = [] then (c, 1) else match Pg.hit (c :: r) with
    | some p => (p.1, p.2.length)
    | none => (0, 0)
theorem first_plain (c : UInt8) (r : List UInt8) (h : Pg.wr c = []) : first (c :: r) = (c, 1) := by
  show (if _ then _ else _) = _
  rw [if_pos h]
theorem first_five (c : UInt8) (r : List UInt8) (h : Pg.wr c ≠ []) : first (c :: r) = match Pg.hit (c :: r) with | some p => (p.1, p.2.length) | none => (0, 0) := by
  show (if _ then _ else _) = _
  rw [if_neg h]
theorem hit_at (l : List UInt8) (k : Nat) (hk : k < 5) (hno : ∀ j : Nat, j < k → (tS j).isPrefixOf l = false) (hy : (tS k).isPrefixOf l = true) : Pg.hit l = some (tC k, tS k) := by
  have g : ∀ j : Nat, j < k → (tS j).isPrefixOf l ≠ true := fun j hj => by rw [hno j hj]; decide
  have t : Pg.tab = [(tC 0, tS 0), (tC 1, tS 1), (tC 2, tS 2), (tC 3, tS 3), (tC 4, tS 4)] := rfl
  unfold Pg.hit
  rw [t]
  match k, hk with
  | 0, _ => simp [List.find?, hy]
  | 1, _ => simp [List.find?, hy, hno 0 (by omega)]
  | 2, _ => simp [List.find?, hy, hno 0 (by omega), hno 1 (by omega)]
  | 3, _ => simp [List.find?, hy, hno 0 (by omega), hno 1 (by omega), hno 2 (by omega)]
  | 4, _ => simp [List.find?, hy, hno 0 (by omega), hno 1 (by omega), hno 2 (by omega), hno 3 (by omega)]
theorem hit_none (l : List UInt8) (hno : ∀ j : Nat, j < 5 → (tS j).isPrefixOf l = false) : Pg.hit l = none := by
  have t : Pg.tab = [(tC 0, tS 0), (tC 1, tS 1), (tC 2, tS 2), (tC 3, tS 3), (tC 4, tS 4)] := rfl
  unfold Pg.hit
  rw [t]
  simp [List.find?, hno 0 (by omega), hno 1 (by omega), hno 2 (by omega), hno 3 (by omega), hno 4 (by omega)]

theorem list_head (s : ByteArray) (h : 0 < s.size) : s.data.toList = s[0] :: s.data.toList.drop 1 := by
  have := drop_cons s 0 h
  rwa [List.drop_zero] at this
theorem tS_len : ∀ i, i < 5 → (tS i).length ≤ 6 ∧ 0 < (tS i).length := by decide

set_option maxRecDepth 100000 in
set_option maxHeartbeats 1600000 in
theorem firstChar_any (s : ByteArray) (w : World) (ht : Esc w) (h0 : 0 < s.size) :
    Calls Tryd.prog 70 #[.string s] w fun e w' => Below w.heap.size w w' ∧ e = .returned (.tuple #[B (first s.data.toList).1, .int .i64 (first s.data.toList).2]) := by
  have HT := hide ht
  have HD := hide (list_head s h0)
  clear ht
  have z0 : (0 : Int) < (s.size : Int) := by omega
  go_enter Tryd.func70, Tryd.ntmps70
  go_wp2_with fail
  refine (escapeOf_any s[0] _ HT.out).mono ?_
  rintro x w1 ⟨hww, rfl⟩
  obtain rfl : w = w1 := hww.symm
  by_cases hc : Pg.wr s[0] = []
  · have HF : Hid (first s.data.toList = (s[0], 1)) := by
      show _ = _
      rw [HD.out]; exact first_plain _ _ hc
    rw [hc]
    clear hc
    go_wp2
    go_ret2
    exact ⟨Below.refl _ _, by rw [HF.out]; rfl⟩
  · have HF : Hid (first s.data.toList = match Pg.hit s.data.toList with | some p => (p.1, p.2.length) | none => (0, 0)) := by
      show _ = _
      rw [HD.out]; exact first_five _ _ hc
    obtain ⟨Z, hZ⟩ : ∃ Z : ByteArray, (⟨(Pg.wr s[0]).toArray⟩ : ByteArray) = Z := ⟨_, rfl⟩
    have hne : (Z.toList == []) = false := by
      rw [← hZ, ByteArray.toList_eq]; apply beq_false_of_ne; exact hc
    unfold S
    rw [hZ]
    clear hZ hc
    go_wp2_with fail
    go_loopw [2, 3, 11] (fun r q i wr => ∃ k : Nat, r = .int .u8 0 ∧ q = .int .i64 0 ∧ k ≤ 5 ∧ i = .int .i64 k ∧ wr = w ∧ Hid (∀ j : Nat, j < k → (tS j).isPrefixOf s.data.toList = false)) (fun _ _ i _ => 5 - (intOf i).toNat)
    case atStart => exact ⟨0, rfl, rfl, by omega, rfl, rfl, fun j hj => by omega⟩
    case round =>
      obtain ⟨k, rfl, rfl, hk, rfl, rfl, hno⟩ := hrel
      by_cases hlt : k < 5
      · have hki : (k : Int) < 5 := by omega
        obtain ⟨c1, c2⟩ := HT.out k hlt
        have z0 : (0 : Int) ≤ (k : Int) := by omega
        have hn : (k : Int).toNat = k := by omega
        have HLn := hide (tS_len k hlt)
        obtain ⟨C, hC⟩ : ∃ C : Int, ((tC k).toNat : Int) = C := ⟨_, rfl⟩
        obtain ⟨L, hL⟩ : ∃ L : ByteArray, (⟨(tS k).toArray⟩ : ByteArray) = L := ⟨_, rfl⟩
        have HL : Hid (L.data.toList = tS k) := by show _ = _; rw [← hL]
        have HLs : Hid (L.size = (tS k).length) := by show _ = _; rw [← hL, str_size]
        unfold B at c1
        unfold S at c2
        rw [hC] at c1
        rw [hL] at c2
        have HC := hide hC
        clear hL hC
        have HP := hide (fun W => hasPrefix_any s L W)
        rw [HL.out] at HP
        by_cases he : (tS k).isPrefixOf s.data.toList = true
        · have HH := hide (hit_at _ k hlt hno.out he)
          rw [he] at HP
          clear he
          go_wp2_with (go_at_call 79; refine (HP.out _).mono ?_; rintro x w2 ⟨rfl, rfl⟩)
          go_region_held3 (fun W => W.cell? ⟨4, k * 2, none⟩ = some (.int .u8 C) ∧ W.cell? ⟨4, k * 2 + 1, none⟩ = some (.string L)) (go_keep) (fail)
          go_wp2
          go_ret2
          refine ⟨(Below.refl _ _).drew, ?_⟩
          rw [HF.out, HH.out]
          show Ending.returned (.tuple #[.int .u8 C, .int .i64 (L.size : Int)]) = _
          rw [← HC.out, HLs.out]
        · have hf : (tS k).isPrefixOf s.data.toList = false := Bool.eq_false_iff.2 he
          have HN := hide hf
          rw [hf] at HP
          clear he hf
          go_wp2_with (go_at_call 79; refine (HP.out _).mono ?_; rintro x w2 ⟨rfl, rfl⟩)
          go_roundw
          case rel => exact ⟨k + 1, by first | rfl | trivial, by first | rfl | trivial, by omega, by go_num, by first | rfl | trivial, fun j hj => by
            by_cases hjk : j = k
            · subst hjk; exact HN.out
            · exact hno.out j (by omega)⟩
          case measure => simp [intOf] <;> omega
      · have hk8 : ¬ (k : Int) < 5 := by omega
        have HH := hide (hit_none s.data.toList (fun j hj => hno.out j (by omega)))
        go_wp2
        go_ret2
        refine ⟨Below.refl _ _, ?_⟩
        rw [HF.out, HH.out]; rfl

end Go.Proofs.YtjalggkhpnfbiaaDoor.pg

namespace Go.Proofs.YtjalggkhpnfbiaaDoor.pg
open Go.ChangeShapes Go.WideShapes Go.ChangeAt Go.RowKit Go.Proofs.YtjalggkhpnfbiaaDoor.common
attribute [local go_sem ↓] Go.wp_at_zero Go.wp_at_succ

abbrev X (a : Addr) : Value := .iface 141 (.pointer (some a))
def Txt (w : World) (a : Addr) : Prop := w.cell? ⟨1, 0, none⟩ = some (X a)
theorem Txt.lt {w : World} {a : Addr} (h : Txt w a) : 1 < w.heap.size := World.block_lt_of_cell? w _ h
theorem Txt.under {w w' : World} {a : Addr} {b : Nat} (h : Txt w a) (hb : Below b w w') (hB : 1 < b) : Txt w' a := by
  unfold Txt; rw [← h]; exact hb.cell hB
theorem Txt.next {w w' : World} {a : Addr} (h : Txt w a) (hb : Below w.heap.size w w') : Txt w' a := h.under hb h.lt

/-- what is read up to here, the rest being left -/
def Rdu (l R r : List UInt8) : Prop := Pg.unesc l = (Pg.unesc r).map (R ++ ·)
theorem rdu_zero (l : List UInt8) : Rdu l [] l := by unfold Rdu; simp
theorem map_snoc {R : List UInt8} {b : UInt8} (o : Option (List UInt8)) : (o.map (b :: ·)).map (R ++ ·) = o.map ((R ++ [b]) ++ ·) := by
  cases o <;> simp
/-- what comes first, and the rest -/
theorem first_ok (l : List UInt8) (h : l ≠ []) (hn : (first l).2 ≠ 0) : (first l).2 ≤ l.length ∧ 0 < (first l).2 ∧ Pg.unesc l = (Pg.unesc (l.drop (first l).2)).map ((first l).1 :: ·) := by
  match l, h with
  | c :: r, _ =>
    by_cases hc : Pg.wr c = []
    · rw [first_plain c r hc]
      exact ⟨by simp, Nat.one_pos, Pg.unesc_plain c r hc⟩
    · cases hp : Pg.hit (c :: r) with
      | none => rw [first_five c r hc, hp] at hn; exact absurd rfl hn
      | some p =>
        rw [first_five c r hc, hp]
        obtain ⟨e, hpre, hne⟩ := Pg.hit_is hp
        have hl : 0 < p.2.length := by
          rw [e]; cases hw : Pg.wr p.1 with
          | nil => exact absurd hw hne
          | cons x y => simp
        refine ⟨?_, hl, ?_⟩
        · have := Pg.prefix_split hpre
          have := congrArg List.length this
          rw [List.length_append] at this
          show p.2.length ≤ _
          omega
        · rw [Pg.unesc_hit c r p hc hp]
          show _ = (Pg.unesc ((c :: r).drop p.2.length)).map _
          obtain ⟨m, hm⟩ : ∃ m, p.2.length = m + 1 := ⟨p.2.length - 1, by omega⟩
          rw [hm, List.drop_succ_cons]; rfl
theorem first_no (l : List UInt8) (h : l ≠ []) (hn : (first l).2 = 0) : Pg.unesc l = none := by
  match l, h with
  | c :: r, _ =>
    by_cases hc : Pg.wr c = []
    · rw [first_plain c r hc] at hn; cases hn
    · cases hp : Pg.hit (c :: r) with
      | none => exact Pg.unesc_no c r hc hp
      | some p =>
        rw [first_five c r hc, hp] at hn
        obtain ⟨e, hpre, hne⟩ := Pg.hit_is hp
        have hn' : p.2.length = 0 := hn
        rw [e] at hn'
        have : (Pg.wr p.1).length = 0 := hn'
        exact absurd (List.eq_nil_of_length_eq_zero this) hne
theorem rdu_step {l R r : List UInt8} (h : Rdu l R r) (hr : r ≠ []) (hn : (first r).2 ≠ 0) : Rdu l (R ++ [(first r).1]) (r.drop (first r).2) := by
  unfold Rdu at h ⊢
  rw [h, (first_ok r hr hn).2.2, map_snoc]
theorem rdu_no {l R r : List UInt8} (h : Rdu l R r) (hr : r ≠ []) (hn : (first r).2 = 0) : Pg.unesc l = none := by
  unfold Rdu at h; rw [h, first_no r hr hn]; rfl
theorem rdu_end {l R : List UInt8} (h : Rdu l R []) : Pg.unesc l = some R := by
  unfold Rdu at h; rw [h, Pg.unesc_nil]; simp
theorem extract_list (s : ByteArray) (a : Nat) : (s.extract a s.size).data.toList = s.data.toList.drop a := by
  rw [ext_list]
  exact List.take_of_length_le (by rw [List.length_drop, len_list]; exact Nat.le_refl _)

/-- how long a text is -/
def tlen : Value → Nat
  | .string s => s.size
  | _ => 0
/-- how Unescape ends -/
def UAns (s : ByteArray) (ea : Addr) (x : Ending) : Prop :=
  (∃ t, Pg.unesc s.data.toList = some t ∧ x = .returned (.tuple #[S t, .nilIface])) ∨ (Pg.unesc s.data.toList = none ∧ x = .returned (.tuple #[.string ⟨#[]⟩, X ea]))

set_option maxRecDepth 100000 in
set_option maxHeartbeats 1600000 in
theorem unescape_any (s : ByteArray) (w : World) (hs : s.size < 140737488355328) (ht : Esc w) (ea : Addr) (he : Txt w ea) :
    Calls Tryd.prog 62 #[.string s] w fun x w' => Below w.heap.size w w' ∧ UAns s ea x := by
  have HT := hide ht
  have HE := hide he
  have HS := hide hs
  have HN := hide (Bd.nil w 54 [] kind_b)
  have H0 := hide ((Below.refl w.heap.size w).alloc (Nat.le_refl _) (.cells ⟨.pointer none :: .slice none 0 0 :: []⟩ 54))
  have hlt := hide HT.out.lt
  have hle := hide HE.out.lt
  clear ht he hs
  generalize hQ : UAns s ea = Q
  have HQ := hide hQ
  clear hQ
  go_enter Tryd.func62, Tryd.ntmps62
  go_wp2_with fail
  generalize hW : w.alloc (.cells #[.pointer none, .slice none 0 0] 54) = W at *
  clear hW
  generalize hb : w.heap.size = b at *
  have Hb := hide hb
  clear hb
  go_loopw [0] (fun v wr => ∃ (r : ByteArray) (R : List UInt8), v = .string r ∧ r.size ≤ s.size ∧ R.length + r.size ≤ s.size ∧ Hid (Rdu s.data.toList R r.data.toList) ∧ Hid (Bd wr b 54 [] R) ∧ Hid (Below b w wr)) (fun v _ => tlen v)
  case atStart => exact ⟨s, [], rfl, Nat.le_refl _, by simp, rdu_zero _, HN, H0⟩
  case round =>
    obtain ⟨r, R, rfl, hrs, hRs, hrd, hbd, hbl⟩ := hrel
    by_cases h0 : 0 < r.size
    · have hne : (r.toList == []) = false := by
        rw [ByteArray.toList_eq]; apply beq_false_of_ne; intro e
        have := congrArg List.length e; rw [len_list, List.length_nil] at this; omega
      have hrn : Hid (r.data.toList ≠ []) := fun e => by
        have := congrArg List.length e; rw [len_list, List.length_nil] at this; omega
      have HE1 := hide (HT.out.under hbl.out hlt.out)
      go_wp2_with fail
      refine (firstChar_any r _ HE1.out h0).mono ?_
      rintro x w1 ⟨hb1, rfl⟩
      have hbd := hide (hbd.out.next hb1)
      have hbl := hide (hbl.out.trans (hb1.mono (Nat.le_of_lt (Bd.lt ‹Hid (Bd wr b _ _ _)›.out))))
      clear hb1
      by_cases hz : (first r.data.toList).2 = 0
      · have HNo := hide (rdu_no hrd.out hrn.out hz)
        have hte := hide (HE.out.under hbl.out hle.out)
        have htx : _ = _ := hte.out
        rw [hz]
        clear hz
        go_wp2
        go_region_held3 (fun W => W.cell? ⟨1, 0, none⟩ = some (X ea)) (go_keep) (fail)
        go_wp2
        go_ret2
        exact ⟨by rw [Hb.out]; exact hbl.out.drew, by rw [← HQ.out]; exact Or.inr ⟨HNo.out, rfl⟩⟩
      · obtain ⟨k1, k2, _⟩ := first_ok _ hrn.out hz
        rw [len_list] at k1
        have HR2 := hide (rdu_step hrd.out hrn.out hz)
        rw [← extract_list] at HR2
        generalize (first r.data.toList).1 = c at *
        generalize hn : (first r.data.toList).2 = n at *
        clear hn
        have HZ := hide hz
        have hni : ((n : Int) == 0) = false := by apply beq_false_of_ne; omega
        have hnle : (n : Int) ≤ (r.size : Int) := by omega
        have hn0 : (0 : Int) ≤ (n : Int) := by omega
        have hnt : (n : Int).toNat = n := by omega
        clear hz
        go_wp2_with fail
        refine (writeByte_any b _ _ [] R c hbd.out (by have := HS.out; omega)).mono ?_
        rintro x w2 ⟨rfl, hbd2, hfr2⟩
        have H1 := hide hbd2
        have H2 := hide (hbl.out.trans hfr2.below)
        clear hbd2 hfr2
        go_wp2
        go_roundw
        case rel => exact ⟨_, _, rfl, by rw [ByteArray.size_extract]; omega, by rw [ByteArray.size_extract, List.length_append]; simp; omega, HR2, H1, H2⟩
        case measure => simp [tlen] <;> omega
    · have hre : r = ⟨#[]⟩ := by
        apply ba_ext
        show _ = []
        apply List.eq_nil_of_length_eq_zero
        rw [len_list]; omega
      subst hre
      have HU := hide (rdu_end hrd.out)
      go_wp2_with fail
      refine (string_any b _ _ _ _ hbd.out).mono ?_
      rintro x w2 ⟨rfl, hb2⟩
      have H3 := hide (hbl.out.trans hb2)
      clear hb2
      go_wp2
      go_ret2
      exact ⟨by rw [Hb.out]; exact H3.out, by rw [← HQ.out]; exact Or.inl ⟨R, HU.out, rfl⟩⟩

end Go.Proofs.YtjalggkhpnfbiaaDoor.pg
