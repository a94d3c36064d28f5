import Derived.Test.YtjalggkhpnfbiaaDoorBPageFm
namespace Go.Proofs.YtjalggkhpnfbiaaDoor.pg
open Go.ChangeShapes Go.WideShapes Go.ChangeAt Go.RowKit Go.Proofs.YtjalggkhpnfbiaaDoor.common Go.Maps
attribute [local go_sem ↓] Go.wp_at_zero Go.wp_at_succ

/-- a form -/
structure Frm where
  act : ByteArray
  ins : List Inp
  but : ByteArray
def LiesF (w : World) (v : Value) (fs : List Frm) : Prop :=
  ∃ oa cap, v = .slice oa fs.length cap ∧ ∀ i (h : i < fs.length), ∃ b o vI, oa = some ⟨b, o, none⟩ ∧ b < w.heap.size ∧ w.cell? ⟨b, o + i * 3, none⟩ = some (.string fs[i].act) ∧ w.cell? ⟨b, o + i * 3 + 1, none⟩ = some vI ∧ w.cell? ⟨b, o + i * 3 + 2, none⟩ = some (.string fs[i].but) ∧ LiesI w vI fs[i].ins
theorem LiesF.below {w w' : World} {v : Value} {l : List Frm} (h : LiesF w v l) (hb : Below w.heap.size w w') : LiesF w' v l := by
  obtain ⟨oa, cap, hv, hc⟩ := h
  refine ⟨oa, cap, hv, fun i hi => ?_⟩
  obtain ⟨b, o, vI, ho, hlt, c0, c1, c2, hI⟩ := hc i hi
  exact ⟨b, o, vI, ho, Nat.lt_of_lt_of_le hlt hb.size, (hb.cell hlt).trans c0, (hb.cell hlt).trans c1, (hb.cell hlt).trans c2, hI.below hb⟩

def lineT (s : ByteArray) : List UInt8 := partsA true [mLineHead, s, mLineEnd]
def frmL (f : Frm) : List UInt8 := formL f.act f.ins f.but
def frmW (f : Frm) : Nat := formW f.act f.ins f.but
def linesW : List ByteArray → Nat
  | [] => 0
  | s :: r => s.size + 20 + linesW r
def frmsW : List Frm → Nat
  | [] => 0
  | f :: r => frmW f + frmsW r
theorem lineT_len (s : ByteArray) : (lineT s).length ≤ 6 * (s.size + 20) := by
  have h := partsA_len [mLineHead, s, mLineEnd] true
  have e : wt [mLineHead, s, mLineEnd] = 3 + (s.size + (5 + 0)) := rfl
  unfold lineT
  omega
theorem lines_len : ∀ ls : List ByteArray, (ls.flatMap lineT).length ≤ 6 * linesW ls
  | [] => Nat.le_refl _
  | s :: r => by
    have h1 := lineT_len s
    have h2 := lines_len r
    rw [List.flatMap_cons, List.length_append]
    show _ ≤ 6 * (s.size + 20 + linesW r)
    omega
theorem frms_len : ∀ fs : List Frm, (fs.flatMap frmL).length ≤ 6 * frmsW fs
  | [] => Nat.le_refl _
  | f :: r => by
    have h1 : (frmL f).length ≤ 6 * frmW f := formL_len f.act f.ins f.but
    have h2 := frms_len r
    rw [List.flatMap_cons, List.length_append]
    show _ ≤ 6 * (frmW f + frmsW r)
    omega
theorem linesW_take : ∀ (l : List ByteArray) (k : Nat) (h : k < l.length), linesW (l.take k) + l[k].size + 20 ≤ linesW l
  | x :: r, 0, _ => by show 0 + x.size + 20 ≤ x.size + 20 + linesW r; omega
  | x :: r, k + 1, h => by
    have := linesW_take r k (by simpa using h)
    have e : (x :: r)[k + 1] = r[k]'(by simpa using h) := rfl
    rw [e, List.take_succ_cons]
    show x.size + 20 + linesW (r.take k) + _ + 20 ≤ x.size + 20 + linesW r
    omega
theorem frmsW_take : ∀ (l : List Frm) (k : Nat) (h : k < l.length), frmsW (l.take k) + frmW l[k] ≤ frmsW l
  | x :: r, 0, _ => by show 0 + frmW x ≤ frmW x + frmsW r; omega
  | x :: r, k + 1, h => by
    have := frmsW_take r k (by simpa using h)
    have e : (x :: r)[k + 1] = r[k]'(by simpa using h) := rfl
    rw [e, List.take_succ_cons]
    show frmW x + frmsW (r.take k) + _ ≤ frmW x + frmsW r
    omega
theorem flat_snocL {α : Type} (f : α → List UInt8) (l : List α) (k : Nat) (h : k < l.length) : (l.take (k + 1)).flatMap f = (l.take k).flatMap f ++ f l[k] := by
  rw [List.take_succ_eq_append_getElem h, List.flatMap_append]
  simp

def headP (t : ByteArray) : List ByteArray := [mPageHead, t, mPageTitle, t, mPageBody]
/-- a page as it is written -/
def pageL (t : ByteArray) (ls : List ByteArray) (fs : List Frm) : List UInt8 := ((partsA true (headP t) ++ ls.flatMap lineT) ++ fs.flatMap frmL) ++ mPageEnd.data.toList
def pageW (t : ByteArray) (ls : List ByteArray) (fs : List Frm) : Nat := t.size + t.size + linesW ls + frmsW fs + 300
theorem headP_wt (t : ByteArray) : wt (headP t) ≤ t.size + t.size + 200 := by
  show 70 + (t.size + (28 + (t.size + (6 + 0)))) ≤ _
  omega

set_option maxRecDepth 100000 in
set_option maxHeartbeats 3200000 in
theorem wPage_any (b g : Nat) (w : World) (t : ByteArray) (vL vF : Value) (ls : List ByteArray) (fs : List Frm) (h : Bd w b 56 [.slice (some ⟨g, 0, none⟩) 5 5] []) (ht : Esc w) (hB : 4 < b) (hg : g < b) (hgk : w.heap[g]? = some (.cells kindsA 79)) (hL : ∀ w', Fr b w w' → LiesS w' vL ls) (w0 : World) (hF : LiesF w0 vF fs) (hb0 : Below w0.heap.size w0 w) (hs0 : w0.heap.size ≤ b) (hx : ∀ f ∈ fs, ∀ x ∈ f.ins, 1 ≤ x.kind ∧ x.kind ≤ 4) (hl : 6 * pageW t ls fs + 6 ≤ 140737488355328) (hls : ls.length ≤ 4611686018427387904) (hfs : fs.length ≤ 4611686018427387904) (hfi : ∀ f ∈ fs, f.ins.length ≤ 4611686018427387904) :
    Calls Tryd.prog 16 #[ptr b, .agg #[.string t, vL, vF]] w fun e w' => e = .returned (.tuple #[]) ∧ Bd w' b 56 [.slice (some ⟨g, 0, none⟩) 5 5] (pageL t ls fs) ∧ Fr b w w' := by
  obtain ⟨ol, cl, rfl, _⟩ := hL w (Fr.refl _ _)
  obtain ⟨of, cf, rfl, hFc⟩ := hF
  have hblt := h.lt
  have B1 : Below w.heap.size w (w.alloc (.cells #[.string t, .slice ol ls.length cl, .slice of fs.length cf] 25)) := (Below.refl _ _).alloc (Nat.le_refl _) _
  have HF1 := hide (fr_of_below B1 b (Nat.le_of_lt hblt))
  have hpl : 6 * (t.size + t.size + linesW ls + frmsW fs + 300) + 6 ≤ 140737488355328 := hl
  have hhw := headP_wt t
  have hhl := partsA_len (headP t) true
  have HP1 := hide (parts_lit b (w.heap.size + 1) _ _ [] (headP t) (by simp) (h.next B1) (ht.next B1) hB (ne5 _ _ _ _ _ (by decide) (by decide) (by decide)) (by rw [List.length_nil]; omega) (by show 5 ≤ 4611686018427387904; omega))
  have HPB : Hid ((w.alloc (.cells #[.string t, .slice ol ls.length cl, .slice of fs.length cf] 25)).heap[w.heap.size]? = some (.cells #[.string t, .slice ol ls.length cl, .slice of fs.length cf] 25)) := by show (w.heap.push _)[w.heap.size]? = _; simp
  have HL := hide hL
  have HFF := hide hFc
  have HB0 := hide hb0
  have HX := hide hx
  have HFI := hide hfi
  have HT := hide ht
  have HB := hide hB
  have HGK := hide hgk
  clear h ht hL hFc hb0 hx hgk B1 hB hfi
  go_enter Tryd.func16, Tryd.ntmps16
  go_wp2_with fail
  refine HP1.out.mono ?_
  rintro e w1 ⟨rfl, hbd1, hfr1⟩
  rw [List.nil_append] at hbd1
  have HD1 := hide hbd1
  have hP1 := hfr1.others _ _ HPB.out (by intro e; cases e; omega) (by intro c fz e; cases e)
  have f1 : w1.cell? ⟨w.heap.size, 1, none⟩ = some (.slice ol ls.length cl) := by simp [World.cell?, hP1]
  have HRO := hide hfr1
  clear hbd1 hfr1 hP1 HP1
  go_wp2_with fail
  go_loopw [18] (fun i wr => ∃ k : Nat, k ≤ ls.length ∧ i = .int .i64 k ∧ Hid (Bd wr b 56 [.slice (some ⟨g, 0, none⟩) 5 5] (partsA true (headP t) ++ (ls.take k).flatMap lineT)) ∧ Hid (Fr b (w.alloc (.cells #[.string t, .slice ol ls.length cl, .slice of fs.length cf] 25)) wr)) (fun i _ => ls.length - (intOf i).toNat)
  case atStart => exact ⟨0, by omega, rfl, by show Bd _ _ _ _ _; rw [List.take_zero]; show Bd _ _ _ _ (_ ++ []); rw [List.append_nil]; exact HD1.out, HRO⟩
  case round =>
    obtain ⟨k, hk, rfl, hbd, hfr0⟩ := hrel
    have hfr : Hid (Fr b w wr) := HF1.out.trans hfr0.out
    by_cases hlt : k < ls.length
    · have hki : (k : Int) < (ls.length : Int) := by omega
      have k0 : (0 : Int) ≤ (k : Int) := Int.natCast_nonneg _
      have HS := hide (flat_snocL lineT ls k hlt)
      obtain ⟨_, _, hoi, HCI⟩ := HL.out wr hfr.out
      obtain ⟨bl, o, ho, hbl, d0⟩ := HCI k hlt
      cases hoi
      cases ho
      clear HCI
      have HLX : Hid ((partsA true (headP t) ++ (ls.take k).flatMap lineT).length + 6 * wt [mLineHead, ls[k], mLineEnd] + 6 ≤ 140737488355328) := by
        have h1 := lines_len (ls.take k)
        have h2 := linesW_take ls k hlt
        have e : wt [mLineHead, ls[k], mLineEnd] = 3 + (ls[k].size + (5 + 0)) := rfl
        show _ ≤ _
        rw [e, List.length_append]
        omega
      generalize ls[k] = s at *
      have HP2 := hide (parts_lit b wr.heap.size wr _ _ [mLineHead, s, mLineEnd] rfl hbd.out (HT.out.fr hfr.out HB.out) HB.out (ne3 _ _ _ (by decide) (by decide)) HLX.out (by show 3 ≤ 4611686018427387904; omega))
      go_wp2_with fail
      refine HP2.out.mono ?_
      rintro e w5 ⟨rfl, hbd5, hfr5⟩
      have H1 := hide hbd5
      have H2 := hide (hfr0.out.trans hfr5)
      clear hbd5 hfr5
      go_wp2
      go_roundw
      case rel => exact ⟨k + 1, by omega, by go_num, by show Bd _ _ _ _ _; rw [HS.out, ← List.append_assoc]; exact H1.out, H2⟩
      case measure => simp [intOf] <;> omega
    · have hk8 : ¬ (k : Int) < (ls.length : Int) := by omega
      obtain rfl : k = ls.length := by omega
      rw [List.take_length] at hbd
      have HD2 := hbd
      have HR2 := hfr0
      have hP2 := hfr0.out.others _ _ HPB.out (by intro e; cases e; omega) (by intro c fz e; cases e)
      have f2 : wr.cell? ⟨w.heap.size, 2, none⟩ = some (.slice of fs.length cf) := by simp [World.cell?, hP2]
      clear hP2 hbd hfr hfr0 HD1 HRO
      go_wp2_with fail
      go_loopw [30] (fun i wr => ∃ k : Nat, k ≤ fs.length ∧ i = .int .i64 k ∧ Hid (Bd wr b 56 [.slice (some ⟨g, 0, none⟩) 5 5] ((partsA true (headP t) ++ ls.flatMap lineT) ++ (fs.take k).flatMap frmL)) ∧ Hid (Fr b (w.alloc (.cells #[.string t, .slice ol ls.length cl, .slice of fs.length cf] 25)) wr)) (fun i _ => fs.length - (intOf i).toNat)
      case atStart => exact ⟨0, by omega, rfl, by show Bd _ _ _ _ _; rw [List.take_zero]; show Bd _ _ _ _ (_ ++ []); rw [List.append_nil]; exact HD2.out, HR2⟩
      case round =>
        obtain ⟨k, hk, rfl, hbd, hfr0⟩ := hrel
        have hfr : Hid (Fr b w wr) := HF1.out.trans hfr0.out
        clear HD2 HR2
        by_cases hlt : k < fs.length
        · have hki : (k : Int) < (fs.length : Int) := by omega
          have k0 : (0 : Int) ≤ (k : Int) := Int.natCast_nonneg _
          have HS := hide (flat_snocL frmL fs k hlt)
          have HKX := hide (HX.out fs[k] (List.getElem_mem hlt))
          have hil := HFI.out fs[k] (List.getElem_mem hlt)
          have HLX : Hid (((partsA true (headP t) ++ ls.flatMap lineT) ++ (fs.take k).flatMap frmL).length + 6 * formW fs[k].act fs[k].ins fs[k].but + 6 ≤ 140737488355328) := by
            have h1 := lines_len ls
            have h2 := frms_len (fs.take k)
            have h3 := frmsW_take fs k hlt
            have h4 : frmW fs[k] = formW fs[k].act fs[k].ins fs[k].but := rfl
            show _ ≤ _
            rw [List.length_append, List.length_append]
            omega
          have hfc := HFF.out k hlt
          obtain ⟨X, hXe⟩ : ∃ X, fs[k] = X := ⟨_, rfl⟩
          rw [hXe] at HS HKX hil HLX hfc
          clear hXe
          obtain ⟨fa, fi, fb⟩ := X
          obtain ⟨bl, o, vI, ho, hbl, c0, c1, c2, hI0⟩ := hfc
          cases ho
          have hbr : Below w0.heap.size w0 wr := HB0.out.trans (hfr.out.below.mono hs0)
          have d0 := (hbr.cell (p := ⟨bl, o + k * 3, none⟩) hbl).trans c0
          have d1 := (hbr.cell (p := ⟨bl, o + k * 3 + 1, none⟩) hbl).trans c1
          have d2 := (hbr.cell (p := ⟨bl, o + k * 3 + 2, none⟩) hbl).trans c2
          have HI0 := hide hI0
          obtain ⟨oI, cI, rfl, _⟩ := hI0
          have HBR := hide hbr
          clear c0 c1 c2 hbr
          simp only at d0 d1 d2
          have BA : Below wr.heap.size wr (wr.alloc (.cells #[.string fa, .slice oI fi.length cI, .string fb] 31)) := (Below.refl _ _).alloc (Nat.le_refl _) _
          have hblw := hbd.out.lt
          have HFA := hide (fr_of_below BA b (Nat.le_of_lt hblw))
          have HC := hide (wForm_any b g _ _ fa fb (.slice oI fi.length cI) fi (hbd.out.next BA) (HT.out.fr (hfr.out.trans HFA.out) HB.out) HB.out hg (((hfr.out.trans HFA.out).below.block g hg).trans HGK.out) (fun w' hw' => HI0.out.below (HBR.out.trans ((HFA.out.trans hw').below.mono hs0))) HKX.out HLX.out hil)
          clear BA
          go_wp2_with fail
          refine HC.out.mono ?_
          rintro e w5 ⟨rfl, hbd5, hfr5⟩
          have H1 := hide hbd5
          have H2 := hide (hfr0.out.trans (HFA.out.trans hfr5))
          clear hbd5 hfr5
          go_wp2
          go_roundw
          case rel => exact ⟨k + 1, by omega, by go_num, by show Bd _ _ _ _ _; rw [HS.out, ← List.append_assoc]; exact H1.out, H2⟩
          case measure => simp [intOf] <;> omega
        · have hk8 : ¬ (k : Int) < (fs.length : Int) := by omega
          obtain rfl : k = fs.length := by omega
          rw [List.take_length] at hbd
          go_wp2_with fail
          refine (writeString_any b _ _ _ _ mPageEnd hbd.out (by decide) (by
            have h1 := lines_len ls
            have h2 := frms_len fs
            have e : mPageEnd.size = 16 := rfl
            rw [e, List.length_append, List.length_append]
            omega)).mono ?_
          rintro e w5 ⟨rfl, hbd5, hfr5⟩
          have H1 := hide hbd5
          have H2 := hide (hfr.out.trans hfr5)
          clear hbd5 hfr5
          go_wp2
          go_end0
          exact ⟨rfl, H1.out, H2.out⟩
end Go.Proofs.YtjalggkhpnfbiaaDoor.pg
