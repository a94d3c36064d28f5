import Derived.Test.YtpnckklnmbfokaaDoorMKit
import Derived.Test.YtpnckklnmbfokaaDoorRefObj2
import Derived.Test.YtpnckklnmbfokaaDoorErrWalks
namespace Go.Proofs.YtpnckklnmbfokaaDoor.jw
open Go.ChangeShapes Go.WideShapes Go.ChangeAt Go.RowKit Go.Proofs.YtpnckklnmbfokaaDoor.common
attribute [local go_sem ↓] Go.wp_at_zero Go.wp_at_succ

/-- members that lie in a block of one's own -/
structure RowM (w : World) (g : Nat) (l : List Mem) : Prop where
  th : w.there g 0 (l.length * 5)
  rg : w.rangeAt g 0 (cms l)
  lt : g < w.heap.size
theorem rowM_of_own {w : World} {base : Nat} {e : TypeId} {v : Value} {l : List Mem} (h0 : 0 < l.length) (h : w.ownsRow base e 5 v l.length (cms l)) : ∃ g cap, v = .slice (some ⟨g, 0, none⟩) l.length cap ∧ base ≤ g ∧ RowM w g l ∧ l.length ≤ cap := by
  rcases h.2 with ⟨hv, hl⟩ | ⟨g, cap, cur, rfl, hg, hh, hn, _, hsz, htk⟩
  · omega
  · have hr : w.rangeAt g 0 (cms l) := by
      intro j u hu
      have hj : j < l.length * 5 := by have := (List.getElem?_eq_some_iff.1 hu).1; rw [cms_len] at this; exact this
      have : (cur.toList.take (l.length * 5))[j]? = (cms l)[j]? := by rw [htk]
      rw [List.getElem?_take_of_lt hj, hu] at this
      simp only [World.cell?, hh]
      simpa using this
    refine ⟨g, cap, rfl, hg, ⟨fun j hj => ⟨?_, by simp [World.frozen?, hh]⟩, hr, (Array.getElem?_eq_some_iff.1 hh).1⟩, hn⟩
    rw [range_cell hr j (by rw [cms_len]; exact hj)]; rfl
theorem RowM.below {w w' : World} {b g : Nat} {l : List Mem} (h : RowM w g l) (hb : Below b w w') (hg : g < b) : RowM w' g l :=
  ⟨there_below h.th hb hg, range_below h.rg hb hg, Nat.lt_of_lt_of_le h.lt hb.size⟩
theorem RowM.at {w : World} {g : Nat} {l : List Mem} (h : RowM w g l) (i : Nat) (hi : i < l.length) : At w g (i * 5) l[i] := by
  have key : ∀ j u, j < 5 → (cm l[i])[j]? = some u → w.cell? ⟨g, i * 5 + j, none⟩ = some u := by
    intro j u hj hu
    have := h.rg (i * 5 + j) u (by rw [cms_get l i hi j hj]; exact hu)
    rwa [Nat.zero_add] at this
  exact ⟨key 0 _ (by decide) rfl, key 1 _ (by decide) rfl, key 2 _ (by decide) rfl, key 3 _ (by decide) rfl, key 4 _ (by decide) rfl⟩
theorem RowM.nf {w : World} {g : Nat} {l : List Mem} (h : RowM w g l) (i : Nat) (hi : i < l.length) : w.frozen? ⟨g, i * 5, none⟩ = false := by
  have := (h.th (i * 5) (by omega)).2
  rwa [Nat.zero_add] at this
theorem RowM.lies {w : World} {g : Nat} {l r : List Mem} (h : RowM w g (l ++ r)) (cap : Nat) (hc : l.length ≤ cap) : Lies w (.slice (some ⟨g, 0, none⟩) l.length cap) l := by
  refine ⟨_, cap, rfl, hc, fun i hi => ⟨g, 0, rfl, h.lt, ?_⟩⟩
  have := h.at i (by rw [List.length_append]; omega)
  rw [List.getElem_append_left hi] at this
  rwa [Nat.zero_add]
theorem cms_set : ∀ (l : List Mem) (i : Nat) (h : i < l.length) (n : List UInt8), (cms l).set (i * 5) (S n) = cms (l.set i { l[i] with name := n })
  | [], i, h, _ => absurd h (Nat.not_lt_zero _)
  | x :: r, 0, _, n => rfl
  | x :: r, i + 1, h, n => by
    have ih := cms_set r i (by simpa using h) n
    rw [show (i + 1) * 5 = i * 5 + 1 + 1 + 1 + 1 + 1 by omega]
    show S x.name :: .int .i64 x.kind :: S x.text :: .int .i64 x.num :: .bool x.flag :: ((cms r).set (i * 5) (S n)) = _
    rw [ih]; rfl
theorem RowM.set {w : World} {g : Nat} {l : List Mem} (h : RowM w g l) (i : Nat) (hi : i < l.length) (n : List UInt8) : RowM (w.setCell ⟨g, i * 5, none⟩ (S n)) g (l.set i { l[i] with name := n }) := by
  have h1 := range_set h.rg (i * 5) (by rw [cms_len]; omega) (S n)
  rw [Nat.zero_add, cms_set l i hi n] at h1
  exact ⟨by rw [List.length_set]; exact there_set h.th _ _, h1, by simpa using h.lt⟩

/-- what stands behind the list -/
def bhM : Mem := ⟨[98, 101, 104, 105, 110, 100], 0, [], 0, false⟩
/-- a member with a longer name -/
def rn (m : Mem) : Mem := { m with name := m.name ++ [120] }

/-- what Object answers -/
def obA (l : List Mem) : List UInt8 := if Json.check l = 0 then Json.objOf l else []
theorem objAns_eq (e : Nat → Addr) (l : List Mem) : objAns e l = .tuple #[S (obA l), errV e (Json.check l)] := by
  unfold objAns obA
  by_cases h : Json.check l = 0
  · rw [if_pos h, if_pos h, h]; rfl
  · rw [if_neg h, if_neg h]
theorem refAns_eq (l : List Mem) : (if Json.check l = 0 then .tuple #[S (Json.objOf l), .int .i64 0] else .tuple #[S [], .int .i64 ((Json.check l : Nat) : Int)] : Value) = .tuple #[S (obA l), .int .i64 ((Json.check l : Nat) : Int)] := by
  unfold obA
  by_cases h : Json.check l = 0
  · rw [if_pos h, if_pos h, h]; rfl
  · rw [if_neg h, if_neg h]
theorem check_le (l : List Mem) : Json.check l ≤ 4 := by
  unfold Json.check
  repeat' split
  all_goals omega

/-- all that this law leans on -/
structure BaseO (w : World) (e : Nat → Addr) : Prop where
  errs : errw.Errs w e
  short : Short w
  tabs : Tabs w
  pow : Pow w.heap.size w
theorem BaseO.below {w w' : World} {e : Nat → Addr} (h : BaseO w e) (hb : Below w.heap.size w w') : BaseO w' e :=
  ⟨h.errs.below hb, h.short.under hb h.short.lt, tabs_below h.tabs hb, pow_below h.pow hb⟩
theorem objectO {vl : Value} {l : List Mem} {w : World} {e : Nat → Addr} (h : BaseO w e) (hl : Lies w vl l) (hln : l.length ≤ 4611686018427387904) (hr : ∀ m ∈ l, Json.inRange m.num) (hlen : tot l + 100 ≤ 140737488355328) :
    Calls Tryd.prog 13 #[vl] w fun x w' => x = .returned (.tuple #[S (obA l), errV e (Json.check l)]) ∧ Below w.heap.size w w' := by
  rw [← objAns_eq]
  exact object_any vl l w hl hln h.short h.tabs hr hlen h.pow e ⟨h.errs.cell 0 (by decide), h.errs.cell 1 (by decide), h.errs.cell 2 (by decide), h.errs.cell 3 (by decide)⟩
theorem refO {vl : Value} {l : List Mem} {w : World} {e : Nat → Addr} (h : BaseO w e) (hl : Lies w vl l) (hln : l.length ≤ 4611686018427387904) (hr : ∀ m ∈ l, Json.inRange m.num) (hlen : tot l + 100 ≤ 140737488355328) :
    Calls Tryd.prog 14 #[vl] w fun x w' => x = .returned (.tuple #[S (obA l), .int .i64 ((Json.check l : Nat) : Int)]) ∧ Below w.heap.size w w' := by
  rw [← refAns_eq]
  exact refObject_any vl l w hl hr hlen hln h.pow
theorem num_errV (w : World) (e : Nat → Addr) (h : errw.Errs w e) (c : Nat) (hc : c ≤ 4) : Calls Tryd.prog 11 #[errV e c] w fun x w' => x = .returned (.int .i64 (c : Int)) ∧ w' = w := by
  match c, hc with
  | 0, _ => exact errw.num_nil w
  | 1, _ => exact errw.num_0 w e h
  | 2, _ => exact errw.num_1 w e h
  | 3, _ => exact errw.num_2 w e h
  | 4, _ => exact errw.num_3 w e h
theorem tot_rn : ∀ l : List Mem, tot (l.map rn) = tot l + 6 * l.length
  | [] => rfl
  | m :: r => by
    have ih := tot_rn r
    show 6 * ((m.name ++ [120]).length + m.text.length) + 40 + tot (r.map rn) = 6 * (m.name.length + m.text.length) + 40 + tot r + 6 * (r.length + 1)
    rw [ih, List.length_append]
    simp only [List.length_cons, List.length_nil]
    omega
end Go.Proofs.YtpnckklnmbfokaaDoor.jw
