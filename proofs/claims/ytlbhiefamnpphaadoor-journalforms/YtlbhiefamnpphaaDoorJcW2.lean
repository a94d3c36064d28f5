import Derived.Test.YtlbhiefamnpphaaDoorJcK
import Derived.Laws.ResultCell
namespace Go.Proofs.YtlbhiefamnpphaaDoor.jc
open Go.ChangeShapes Go.WideShapes Go.ChangeAt Go.RowKit Go.Proofs.YtlbhiefamnpphaaDoor.common Go.Proofs.YtlbhiefamnpphaaDoor.Jc

/-- two results: a struct in memory, and a value -/
theorem results_cellT {fn : Func} {p u : Tmp} {ty : TypeId} {P : Program} {w : World} {b o : Nat} {cs : List Value} {d : TypeDesc} (h : fn.results = #[.cell p ty, .tmp u]) (tmps : Array Value) (hx : tmps.getD p undef = .pointer (some ⟨b, o, none⟩))
    (hc : w.rangeAt b o cs) (hu : P.underlying ty = some d) (hd : d.isRow = true) (hi : (P.info? ty).map (·.size) = some cs.length) : (results fn tmps).run P w = .ok (.tuple #[.agg cs.toArray, tmps.getD u undef]) w := by
  rw [results_cell_tmp h, hx]
  simp [asAddr, run_loadVar_mid w b o ty cs d hc hu hd hi, Result.andThen]
def zD : Array Value := #[.int .i64 0, .int .i64 0, .int .i64 0, .int .i64 0, .int .i64 0, .int .i64 0, .int .i64 0]
theorem zero_there (w : World) : (w.alloc (.cells #[.int .i64 0, .int .i64 0, .int .i64 0, .int .i64 0, .int .i64 0, .int .i64 0, .int .i64 0] 26)).there w.heap.size 0 7 := there_of (heap_new w _)
theorem there_blk {w w' : World} {F : Nat} {n : Nat} (h : w.there F 0 n) (e : w'.heap[F]? = w.heap[F]?) : w'.there F 0 n := fun j hj => by
  have := h j hj
  simpa [World.cell?, World.frozen?, e] using this
def dI (a b c d e f g : Int) : Value := .agg #[.int .i64 a, .int .i64 b, .int .i64 c, .int .i64 d, .int .i64 e, .int .i64 f, .int .i64 g]
def dv (x : Dt) : Value := .agg #[.int .i64 (x.y : Int), .int .i64 (x.m : Int), .int .i64 (x.d : Int), .int .i64 (x.h : Int), .int .i64 (x.i : Int), .int .i64 (x.s : Int), .int .i64 (x.w : Int)]
theorem cm_in {y m : Nat} (m0 : 1 ≤ m) (m1 : m ≤ 12) {left : Nat} (h : left + cm y (m - 1) < yl y) (hl : md y m ≤ left) : m + 1 ≤ 12 := by
  rcases Nat.lt_or_ge m 12 with h1 | h1
  · omega
  · have e : m = 12 := by omega
    subst e
    have := cm_step y 12 (by omega)
    have := cm_year y
    omega

set_option maxRecDepth 100000 in
set_option maxHeartbeats 1600000 in
theorem dateOf_any (n : Nat) (w : World) (hT : MTab w) (hn : n ≤ 253402300800) : Calls Tryd.prog 12 #[.int .i64 (n : Int)] w fun e w' => ∃ x : Dt, e = .returned (dv x) ∧ Is n x ∧ Below w.heap.size w w' := by
  have BA : Below w.heap.size w (w.alloc (.cells #[.int .i64 0, .int .i64 0, .int .i64 0, .int .i64 0, .int .i64 0, .int .i64 0, .int .i64 0] 26)) := (Below.refl _ _).alloc (Nat.le_refl _) _
  have HTH := hide (zero_there w)
  have HT := hide (hT.fr BA)
  have HBA := hide BA
  clear BA
  have ed : (n : Int).tdiv 86400 = ((n / 86400 : Nat) : Int) := tdivN n 86400
  have em : (n : Int).tmod 86400 = ((n % 86400 : Nat) : Int) := tmodN n 86400
  have eh : ((n % 86400 : Nat) : Int).tdiv 3600 = ((n % 86400 / 3600 : Nat) : Int) := tdivN _ 3600
  have er : ((n % 86400 : Nat) : Int).tmod 3600 = ((n % 86400 % 3600 : Nat) : Int) := tmodN _ 3600
  have ei : ((n % 86400 % 3600 : Nat) : Int).tdiv 60 = ((n % 86400 % 3600 / 60 : Nat) : Int) := tdivN _ 60
  have es : ((n % 86400 : Nat) : Int).tmod 60 = ((n % 86400 % 60 : Nat) : Int) := tmodN _ 60
  have hD : n / 86400 ≤ 2932898 := by omega
  have HIS : Hid (∀ y m d : Nat, 1970 ≤ y → yb y ≤ n / 86400 → 1 ≤ m → m ≤ 12 → d + cm y (m - 1) = n / 86400 - yb y → d < md y m → Is n ⟨y, m, d + 1, n % 86400 / 3600, n % 86400 % 3600 / 60, n % 86400 % 60, (4 + n / 86400) % 7⟩) := fun y m d a b c e f g => is_of a b c e f g
  generalize n / 86400 = D at *
  have b1 : n % 86400 < 86400 := Nat.mod_lt _ (by omega)
  have b2 : n % 86400 / 3600 ≤ n % 86400 := Nat.div_le_self _ _
  have b3 : n % 86400 % 3600 ≤ n % 86400 := Nat.mod_le _ _
  have b4 : n % 86400 % 3600 / 60 ≤ n % 86400 % 3600 := Nat.div_le_self _ _
  have HWK : Hid (∀ w1, Hid (Calls Tryd.prog 21 #[.int .i64 (D : Int)] w1 fun e w' => e = .returned (.int .i64 (((4 + D) % 7 : Nat) : Int)) ∧ w' = w1)) := fun w1 => weekdayOf_any D w1 (by omega)
  generalize (4 + D) % 7 = wk at *
  generalize n % 86400 % 3600 / 60 = mi at *
  generalize n % 86400 % 3600 = mr at *
  generalize n % 86400 % 60 = se at *
  generalize n % 86400 / 3600 = ho at *
  generalize n % 86400 = t at *
  go_enter Tryd.func12, Tryd.ntmps12
  go_wp2_with fail
  generalize (w.alloc (.cells #[.int .i64 0, .int .i64 0, .int .i64 0, .int .i64 0, .int .i64 0, .int .i64 0, .int .i64 0] 26)) = V at *
  refine (yearAt_any D V (by omega)).mono ?_
  rintro x w1 ⟨y, rfl, y0, y1, y2, rfl⟩
  have HW := HWK.out w1
  have HY0 := hide y0
  have HY1 := hide y1
  have hyl := yb_succ y y0
  rw [hyl] at y2
  have hlt : D - yb y < yl y := by omega
  have hyd : D - yb y ≤ D := by omega
  clear hyl y2
  have HLT : Hid (D - yb y < yl y) := hlt
  have yB : y ≤ 100000000 := by
    have h := yb_mono 1970 (by omega) (y - 1970)
    rw [yb_first, show 1970 + (y - 1970) = y by omega] at h
    omega
  have HIS2 := hide (fun m d => HIS.out y m d y0 y1)
  clear y1 hlt HIS
  generalize D - yb y = R at *
  go_wp2_with fail
  go_loopw [6, 7] (fun u v wr => ∃ left m : Nat, u = .int .i64 (left : Int) ∧ v = .int .i64 (m : Int) ∧ 1 ≤ m ∧ m ≤ 12 ∧ left ≤ D ∧ Hid (left + cm y (m - 1) = R) ∧ wr = w1) (fun _ v _ => 13 - (intOf v).toNat)
  case atStart => exact ⟨R, 1, rfl, rfl, by omega, by omega, hyd, rfl, rfl⟩
  case round =>
    obtain ⟨left, m, rfl, rfl, m0, m1, hl, HC, rfl⟩ := hrel
    have HD := hide (daysOf_any y m wr HT.out m0 m1)
    have HIn : Hid (md y m ≤ left → m + 1 ≤ 12) := fun h => cm_in m0 m1 (by rw [HC.out]; exact HLT.out) h
    have HST := hide (cm_step y m m0)
    have hmm := md_most y m m0 m1
    have HIS3 := hide (HIS2.out m)
    go_wp2_with fail
    refine HD.out.mono ?_
    rintro x w2 ⟨rfl, rfl⟩
    by_cases hge : md y m ≤ left
    · have hm2 := HIn.out hge
      have HC2 : Hid (left - md y m + cm y (m + 1 - 1) = R) := by
        show _ = _; rw [Nat.add_sub_cancel, HST.out]; have := HC.out; omega
      have hgi : (md y m : Int) ≤ (left : Int) := by omega
      clear HIn HST HC HIS3
      generalize md y m = q at *
      go_wp2_with fail
      refine HD.out.mono ?_
      rintro x w3 ⟨rfl, rfl⟩
      go_wp2_with fail
      go_roundw
      case rel => exact ⟨left - q, m + 1, by go_num, by go_num, by omega, hm2, by omega, HC2, by trivial⟩
      case measure => simp [intOf]; omega
    · have hgi : (left : Int) < (md y m : Int) := by omega
      have HI := hide (HIS3.out left m0 m1 HC.out (by omega))
      clear HIn HST HC HIS3 hge
      generalize md y m = q at *
      go_wp2_with fail
      refine HW.out.mono ?_
      rintro x w3 ⟨rfl, rfl⟩
      go_wp2_with (refine wpList_store_mid rfl 26 (.tmp 2) (.tmp 42) rfl w.heap.size 0 #[.int .i64 (y : Int), .int .i64 (m : Int), .int .i64 ((left : Int) + 1), .int .i64 (ho : Int), .int .i64 (mi : Int), .int .i64 (se : Int), .int .i64 (wk : Int)] rfl rfl HTH.out sizeD (one7 _ _ _ _ _ _ _) ?_)
      refine bodyPost_ret (v := .agg #[.int .i64 (y : Int), .int .i64 (m : Int), .int .i64 ((left : Int) + 1), .int .i64 (ho : Int), .int .i64 (mi : Int), .int .i64 (se : Int), .int .i64 (wk : Int)]) (results_cell1 (b := w.heap.size) (o := 0) (cs := [.int .i64 (y : Int), .int .i64 (m : Int), .int .i64 ((left : Int) + 1), .int .i64 (ho : Int), .int .i64 (mi : Int), .int .i64 (se : Int), .int .i64 (wk : Int)]) Tryd.results12 _ rfl ?_ Tryd.underlying26 rfl sizeD) rfl ⟨_, ?_, HI.out, ?_⟩
      · exact World.rangeAt_setCells_same _ w.heap.size 0 _ HTH.out
      · simp [dv]
      · exact below_setCells HBA.out (Nat.le_refl _) _ _

def secB (n : Int) : Bool := decide (0 ≤ n) && decide (n ≤ 253402300799)
set_option maxHeartbeats 1600000 in
theorem isSecond_any (n : Int) (w : World) : Calls Tryd.prog 11 #[.int .i64 n] w fun e w' => e = .returned (.bool (secB n)) ∧ w' = w := by
  have HS : Hid (secB n = (decide (0 ≤ n) && decide (n ≤ 253402300799))) := rfl
  by_cases h0 : 0 ≤ n
  · by_cases h1 : n ≤ 253402300799
    · have HR : Hid (secB n = true) := by show _ = _; rw [HS.out]; simp [h0, h1]
      generalize secB n = t at *
      go_enter Tryd.func11, Tryd.ntmps11
      go_wp2_with fail
      go_ret
      exact ⟨by rw [HR.out]; rfl, rfl⟩
    · have HR : Hid (secB n = false) := by show _ = _; rw [HS.out]; simp [h1]
      have h2 : (253402300799 : Int) < n := by omega
      generalize secB n = t at *
      have h3 : decide (n ≤ 253402300799) = false := decide_eq_false (by omega)
      clear h1
      go_enter Tryd.func11, Tryd.ntmps11
      go_wp2_with fail
      go_ret
      exact ⟨by rw [HR.out]; rfl, rfl⟩
  · have HR : Hid (secB n = false) := by show _ = _; rw [HS.out]; simp [h0]
    have h2 : n < 0 := by omega
    generalize secB n = t at *
    clear h0
    go_enter Tryd.func11, Tryd.ntmps11
    go_wp2_with fail
    go_ret
    exact ⟨by rw [HR.out]; rfl, rfl⟩
end Go.Proofs.YtlbhiefamnpphaaDoor.jc
