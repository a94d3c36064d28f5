import Derived.Test.YtobflealcldgnaaGreatDoorRdCopy
import Derived.Deep.DeepAppendWide
import Derived.Deep.AppendLies
import Derived.Deep.RegionLawGrows
import Derived.Test.YtobflealcldgnaaGreatDoorRcRefC
import Derived.Deep.DeepCutAuto
import Derived.Test.YtobflealcldgnaaGreatDoorRcCheck
namespace Go.Proofs.YtobflealcldgnaaGreatDoor.dr
open Go.ChangeShapes Go.WideShapes Go.ChangeAt Go.RowKit Go.Proofs.YtobflealcldgnaaGreatDoor.common Go.Proofs.YtobflealcldgnaaGreatDoor.dk

set_option maxRecDepth 100000 in
/-- whatever is put behind a row of one's own -/
theorem append_src (w : World) (base : Nat) (t tx e : TypeId) (i : TypeInfo) (z : Value) (size : Nat) (hu : Tryz.prog.underlying t = some (.slice e)) (hi : Tryz.prog.info? e = some i) (hz : i.zero = some z) (hsz : i.size = size) (hzs : z.cells.size = size) (v : Value) (n : Nat) (xs : List Value) (h : w.ownsRow base e size v n xs)
    (x : Value) (m : Nat) (news : List Value) (hs : Src Tryz.prog i.size tx x m news w) (hm : news.length = m * size) (hfit : (n + m + (n + m) / 4 + 192) * i.bytes ≤ 281474976710656) (hmax : n + m ≤ maxLen) (hbase : base ≤ w.heap.size) :
    ∃ v' W', (Builtin.append_ #[t, tx] t #[v, x]).run Tryz.prog w = .ok v' W' ∧ W'.ownsRow base e size v' (n + m) (xs ++ news) ∧ Fr v.ownBlock.toList w W' ∧ (v'.ownBlock = v.ownBlock ∨ ∃ g, v'.ownBlock = some g ∧ w.heap.size ≤ g) := by
  subst hsz
  have hl := h.1
  have hmax' : n + m ≤ 9223372036854775807 := by unfold maxLen at hmax; omega
  have grow : ∀ (ao : Option Addr) (cap : Nat), v = .slice ao n cap → cap < n + m → (Builtin.firstCells i.size n (.slice ao n cap)).run Tryz.prog w.drew = .ok xs.toArray w.drew → ∃ v' W', (Builtin.append_ #[t, tx] t #[v, x]).run Tryz.prog w = .ok v' W' ∧ W'.ownsRow base e i.size v' (n + m) (xs ++ news) ∧ Fr v.ownBlock.toList w W' ∧ (v'.ownBlock = v.ownBlock ∨ ∃ g, v'.ownBlock = some g ∧ w.heap.size ≤ g) := fun ao cap hv hc hold => by
    subst hv
    have hrun := run_append_grow_src (P := Tryz.prog) w t tx t e i z hu hi hz ao n cap xs hold x m news hs hc (by omega) (growslice_fits_wide (by omega) hfit)
    have hge := grownCap_ge w (n + m) cap e
    have hle := grownCap_le_maxLen w (n + m) cap e hmax
    refine ⟨_, _, hrun, ⟨by rw [List.length_append, hl, hm, Nat.add_mul], Or.inr ⟨w.heap.size, _, _, rfl, hbase, heap_alloc_new _ _, hge, hle, ?_, ?_⟩⟩, (((Fr.refl _ w).drew).alloc _), Or.inr ⟨w.heap.size, rfl, Nat.le_refl _⟩⟩
    · rw [Array.size_append, size_zeroCells, List.size_toArray, List.length_append, hl, hm, hzs, ← Nat.add_mul, ← Nat.add_mul]
      congr 1
      omega
    · rw [Array.toList_append, List.toList_toArray]
      exact List.take_left' (by rw [List.length_append, hl, hm, Nat.add_mul])
  rcases h.2 with ⟨rfl, rfl⟩ | ⟨g, cap, cur, rfl, h1, h2, h3, h4, h5, h6⟩
  · obtain rfl : xs = [] := List.eq_nil_of_length_eq_zero (by rw [hl, Nat.zero_mul])
    by_cases h0 : m = 0
    · subst h0
      obtain rfl : news = [] := List.eq_nil_of_length_eq_zero (by rw [hm, Nat.zero_mul])
      refine ⟨.slice none 0 0, w, ?_, h, Fr.refl _ _, Or.inl rfl⟩
      have hc := hs.cells
      rcases hs.kind with ⟨e', hk⟩ | hk <;> simp [Builtin.append_, run_underlying (P := Tryz.prog) hu, run_underlying (P := Tryz.prog) hk, sizeOf, typeInfo, hi, hs.len, hc]
    · exact grow none 0 rfl (by omega) (run_firstCells_none w.drew i.size 0 0 0)
  · by_cases hroom : n + m ≤ cap
    · have hin : ∀ j, j < news.length → 0 + n * i.size + j < cur.size := fun j hj => by
        rw [hm] at hj
        rw [h5, Nat.zero_add]
        have : (n + m) * i.size ≤ cap * i.size := Nat.mul_le_mul_right _ hroom
        rw [Nat.add_mul] at this
        omega
      have hrun := run_append_room_src (P := Tryz.prog) w t tx t e i hu hi g 0 n cap x m news hs hroom (fun j hj => by rw [cell_of h2, Array.getElem?_eq_getElem (hin j hj)]; rfl) (fun j hj => free_of h2 _)
      rw [Nat.zero_add] at hrun
      have hc2 : w.heap[g]? = some (.cells cur.toList.toArray e (0, 0)) := by rw [Array.toArray_toList]; exact h2
      have hcl : cur.toList.length = cap * i.size := (Array.length_toList (xs := cur)).trans h5
      have hlt : n * i.size + news.length ≤ cur.toList.length := by
        rw [hcl, hm, ← Nat.add_mul]
        exact Nat.mul_le_mul_right _ hroom
      have hst := sets_here hc2 news (n * i.size) hlt
      refine ⟨_, _, hrun, ⟨by rw [List.length_append, hl, hm, Nat.add_mul], Or.inr ⟨g, cap, _, rfl, h1, hst, hroom, h4, ?_, ?_⟩⟩, (Fr.refl _ w).sets g _ _ (Or.inl (by simp [Value.ownBlock])), Or.inl rfl⟩
      · rw [List.size_toArray, List.length_append, List.length_append, List.length_take, List.length_drop, ← hcl]
        omega
      · rw [List.toList_toArray, h6, ← List.append_assoc]
        exact List.take_left' (by rw [List.length_append, hl, hm, Nat.add_mul])
    · refine grow (some ⟨g, 0, none⟩) cap rfl (by omega) ?_
      exact run_firstCells_some w.drew i.size n _ n cap xs hl (by
        intro j u hu'
        have := h.cells (g := g) rfl j u hu'
        exact this)
/-- bytes that can be read as what is appended -/
theorem src_rd {w : World} {oa : Option Addr} {c : Nat} {l : List UInt8} (h : Rd w (.slice oa l.length c) l) : Src Tryz.prog 1 27 (.slice oa l.length c) l.length (l.map B) w := by
  obtain ⟨oa', c', e, hr⟩ := h
  cases e
  by_cases h0 : 0 < l.length
  · obtain ⟨g, o, rfl, _, hr⟩ := hr h0
    exact Src.ofSlice _ Tryz.underlying27 _ _ _ _ (by rw [List.length_map, Nat.mul_one]) (fun j u hu => by rw [Addr.add_mid]; exact hr j u hu) (fun u hu => by obtain ⟨_, _, rfl⟩ := List.mem_map.1 hu; rfl)
  · obtain rfl : l = [] := List.eq_nil_of_length_eq_zero (by omega)
    cases oa with
    | none => exact Src.ofNil _ Tryz.underlying27 _
    | some a => exact Src.ofSlice _ Tryz.underlying27 _ _ _ _ rfl (fun j u hu => by simp at hu) (fun u hu => by cases hu)
set_option maxRecDepth 100000 in
theorem append_rd (w : World) (base : Nat) (v : Value) (l : List UInt8) (h : w.ownsRow base 5 1 v l.length (l.map B)) (oa : Option Addr) (c : Nat) (m : List UInt8) (hr : Rd w (.slice oa m.length c) m) (hb : l.length + m.length ≤ 140738562097152) (hbase : base ≤ w.heap.size) :
    ∃ v' W', (Builtin.append_ #[27, 27] 27 #[v, .slice oa m.length c]).run Tryz.prog w = .ok v' W' ∧ W'.ownsRow base 5 1 v' (l ++ m).length ((l ++ m).map B) ∧ Fr v.ownBlock.toList w W' ∧ (v'.ownBlock = v.ownBlock ∨ ∃ g, v'.ownBlock = some g ∧ w.heap.size ≤ g) := by
  obtain ⟨i0, hi, hz0, hz1, hz2⟩ := info_parts info8
  have hs := src_rd hr
  rw [← hz1] at hs
  rw [List.length_append, List.map_append]
  exact append_src w base 27 27 5 i0 (.int .u8 0) 1 Tryz.underlying27 hi hz0 hz1 rfl v l.length (l.map B) h _ m.length (m.map B) hs (by rw [List.length_map, Nat.mul_one]) (by rw [hz2]; omega) (by unfold maxLen; omega) hbase
end Go.Proofs.YtobflealcldgnaaGreatDoor.dr

namespace Go.Proofs.YtobflealcldgnaaGreatDoor.rc
open Go.ChangeShapes Go.WideShapes Go.ChangeAt Go.RowKit Go.Proofs.YtobflealcldgnaaGreatDoor.common Go.Proofs.YtobflealcldgnaaGreatDoor.dk

theorem wpList_appendX {P : Program} {w : World} {ops : Array Oper} {rest : List Oper} {o : Oper} {a : Act} {Q : Exit → Act → World → Prop} (hgd : o.guard = none) (s x : Operand) (t tx : TypeId)
    (ho : o.op = .call { callee := .builtin .append, args := #[s, x], argTypes := #[t, tx] }) (vs vx : Value) (hs : a.eval s = vs) (hx : a.eval x = vx) (v' : Value) (w' : World)
    (hr : (Builtin.append_ #[t, tx] o.type #[vs, vx]).run P w = .ok v' w') (h : wpList P ops Q rest (a.put o.dst v') w') : wpList P ops Q (o :: rest) a w := by
  refine wpList_plain hgd fun K hK => ?_
  unfold Oper.wp execOp
  simp only [ho, resolve, invoke, builtin, Sem.run_bind, Sem.run_pure, Result.andThen_ok, List.map_toArray, List.map_cons, List.map_nil, hs, hx, hr]
  exact hK _ _ h
theorem gr_of {u v' : Value} {w w1 : World} (hf : Fr u.ownBlock.toList w w1) (hat : v'.ownBlock = u.ownBlock ∨ ∃ g, v'.ownBlock = some g ∧ w.heap.size ≤ g) : Gr u v' w w1 :=
  ⟨hf, fun k hk => by
    rcases hat with h | ⟨g, h, hg⟩
    · exact Or.inl (by rw [← h]; exact hk)
    · rw [h] at hk
      cases hk
      exact Or.inr hg⟩

set_option maxRecDepth 100000 in
set_option maxHeartbeats 3200000 in
theorem refText_any (s : ByteArray) (w : World) (hs : s.size ≤ 281474976) :
    Calls Tryz.prog 30 #[.string s] w fun e w' => ∃ v', e = .returned v' ∧ w'.ownsRow w.heap.size 5 1 v' (txL s).length ((txL s).map B) ∧ Below w.heap.size w w' := by
  have hnl : (numL s.size).length ≤ 10 := (numF_len 9 s.size).2
  have HN := hide (refNumber_any s.size w (by omega))
  go_enter Tryz.func30, Tryz.ntmps30
  go_wp2_with fail
  refine HN.out.mono ?_
  rintro x w1 ⟨v1, rfl, hown, b1⟩
  obtain ⟨v2, W2, hrun, hown2, hfr2, hat2⟩ := append_text w1 w.heap.size v1 _ hown s (by omega) b1.size
  have hgr := gr_of hfr2 hat2
  have hb2 : Below w.heap.size w W2 := b1.trans (hgr.below (fun k hk => own_ge hown k hk) b1.size)
  have HO := hide hown2
  have HB := hide hb2
  clear hown b1 hown2 hfr2 hat2 hgr hb2
  go_wp2_with (at_builtin; refine wpList_appendX rfl _ _ 27 9 rfl _ _ rfl rfl _ _ hrun ?_)
  go_ret
  exact ⟨_, rfl, HO.out, HB.out⟩
end Go.Proofs.YtobflealcldgnaaGreatDoor.rc

namespace Go.Proofs.YtobflealcldgnaaGreatDoor.rc
open Go.ChangeShapes Go.WideShapes Go.ChangeAt Go.RowKit Go.Proofs.YtobflealcldgnaaGreatDoor.common Go.Proofs.YtobflealcldgnaaGreatDoor.dk

/-- a record as bytes -/
def idL (r : Rec) : List UInt8 := if nm r.k 1 then txL r.id else []
def midL (r : Rec) : List UInt8 := if r.k = 4 then txL r.rd ++ txL r.ch else if r.k = 6 ∨ r.k = 9 then txL r.cd else []
def endL (r : Rec) : List UInt8 := if r.k = 4 ∨ r.k = 6 ∨ r.k = 9 ∨ r.k = 3 then txL r.cl ++ (lsL r.ss ++ (txL r.us ++ numL r.at_.toNat)) else if r.k = 1 then txL r.us ++ numL r.at_.toNat else if r.k = 11 then txL r.cl ++ txL r.us else []
def recL (r : Rec) : List UInt8 := [UInt8.ofNat r.k.toNat] ++ (idL r ++ (midL r ++ endL r))
theorem nil_kind (a : Addr) (W : World) : (nilAhead 309 49 (.pointer (some a)) "usher/record.kind").run Tryz.prog W = .ok (some false) W := by kernel_rfl
theorem met_kind (a : Addr) (W : World) : (method 309 49 (.pointer (some a)) "usher/record.kind").run Tryz.prog W = .ok (204, .pointer (some a)) W := by kernel_rfl
theorem nil_text (a : Addr) (W : World) : (nilAhead 309 49 (.pointer (some a)) "usher/record.text").run Tryz.prog W = .ok (some false) W := by kernel_rfl
theorem met_text (a : Addr) (W : World) : (method 309 49 (.pointer (some a)) "usher/record.text").run Tryz.prog W = .ok (207, .pointer (some a)) W := by kernel_rfl
theorem nil_list (a : Addr) (W : World) : (nilAhead 309 49 (.pointer (some a)) "usher/record.list").run Tryz.prog W = .ok (some false) W := by kernel_rfl
theorem met_list (a : Addr) (W : World) : (method 309 49 (.pointer (some a)) "usher/record.list").run Tryz.prog W = .ok (205, .pointer (some a)) W := by kernel_rfl
theorem nil_number (a : Addr) (W : World) : (nilAhead 309 49 (.pointer (some a)) "usher/record.number").run Tryz.prog W = .ok (some false) W := by kernel_rfl
theorem met_number (a : Addr) (W : World) : (method 309 49 (.pointer (some a)) "usher/record.number").run Tryz.prog W = .ok (206, .pointer (some a)) W := by kernel_rfl
/-- what the writer is handed: a record in its box below, its list, the table of kinds -/
structure Src (b p : Nat) (r : Rec) (v : Value) (w : World) : Prop where
  lt : b < p
  box : ∀ X, Below p w X → X.cell? ⟨b, 0, none⟩ = some (.int .i64 r.k) ∧ X.cell? ⟨b, 1, none⟩ = some (.string r.id) ∧ X.cell? ⟨b, 2, none⟩ = some (.string r.us) ∧ X.cell? ⟨b, 3, none⟩ = some (.string r.cl) ∧ X.cell? ⟨b, 4, none⟩ = some (.string r.rd) ∧ X.cell? ⟨b, 5, none⟩ = some (.string r.ch) ∧ X.cell? ⟨b, 6, none⟩ = some (.string r.cd) ∧ X.cell? ⟨b, 7, none⟩ = some v ∧ X.cell? ⟨b, 8, none⟩ = some (.int .i64 r.at_)
  own : ∀ X, Below p w X → Go.Proofs.YtobflealcldgnaaGreatDoor.ss.Lies X v r.ss
  tab : ∀ X, Below p w X → KTab X
/-- texts that can be written -/
structure Rec.Fine (r : Rec) : Prop where
  id : r.id.size ≤ 281474976
  us : r.us.size ≤ 281474976
  cl : r.cl.size ≤ 281474976
  rd : r.rd.size ≤ 281474976
  ch : r.ch.size ≤ 281474976
  cd : r.cd.size ≤ 281474976
  len : r.ss.length ≤ 16
  ss : ∀ s ∈ r.ss, s.size ≤ 281474976
  at0 : 0 ≤ r.at_
  at1 : r.at_ ≤ 9223372036854775807
theorem lsL_len (l : List ByteArray) (h : l.length ≤ 16) (h2 : ∀ s ∈ l, s.size ≤ 281474976) : (lsL l).length ≤ 4503599786 := by
  unfold lsL
  have h3 := flat_len l 281474976 h2
  have h4 : (numL l.length).length ≤ 10 := (numF_len 9 l.length).2
  have h5 := Nat.mul_le_mul_right (281474976 + 10) h
  rw [List.length_append]
  omega
end Go.Proofs.YtobflealcldgnaaGreatDoor.rc
