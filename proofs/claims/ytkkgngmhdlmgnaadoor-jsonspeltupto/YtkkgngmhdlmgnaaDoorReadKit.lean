import Derived.Test.YtkkgngmhdlmgnaaDoorMList
import Derived.Test.YtkkgngmhdlmgnaaDoorJsonCutMath
import Derived.Shelf.Strings.Prefix
import Derived.Shelf.Strconv.AtoiAll
import Derived.Lib.FrozenHead2
import Derived.Lib.Builder
namespace Go.Proofs.YtkkgngmhdlmgnaaDoor.jw
open Go.ChangeShapes Go.WideShapes Go.ChangeAt Go.RowKit Go.Proofs.YtkkgngmhdlmgnaaDoor.common
attribute [local go_sem ↓] Go.wp_at_zero Go.wp_at_succ

/-- the reader's own block: its text, its place, its members, how many -/
def Rd (w : World) (rb : Nat) (s : ByteArray) (a : Nat) (mv : Value) (n : Nat) : Prop := w.heap[rb]? = some (.cells #[.string s, .int .i64 a, mv, .int .i64 n] 52)
theorem Rd.lt {w : World} {rb : Nat} {s : ByteArray} {a : Nat} {mv : Value} {n : Nat} (h : Rd w rb s a mv n) : rb < w.heap.size := (Array.getElem?_eq_some_iff.1 h).1
theorem Rd.c0 {w : World} {rb : Nat} {s : ByteArray} {a : Nat} {mv : Value} {n : Nat} (h : Rd w rb s a mv n) : w.cell? ⟨rb, 0, none⟩ = some (.string s) := by unfold Rd at h; simp [World.cell?, h]
theorem Rd.c1 {w : World} {rb : Nat} {s : ByteArray} {a : Nat} {mv : Value} {n : Nat} (h : Rd w rb s a mv n) : w.cell? ⟨rb, 1, none⟩ = some (.int .i64 a) := by unfold Rd at h; simp [World.cell?, h]
theorem Rd.c2 {w : World} {rb : Nat} {s : ByteArray} {a : Nat} {mv : Value} {n : Nat} (h : Rd w rb s a mv n) : w.cell? ⟨rb, 2, none⟩ = some mv := by unfold Rd at h; simp [World.cell?, h]
theorem Rd.c3 {w : World} {rb : Nat} {s : ByteArray} {a : Nat} {mv : Value} {n : Nat} (h : Rd w rb s a mv n) : w.cell? ⟨rb, 3, none⟩ = some (.int .i64 n) := by unfold Rd at h; simp [World.cell?, h]
theorem Rd.nf {w : World} {rb : Nat} {s : ByteArray} {a : Nat} {mv : Value} {n : Nat} (h : Rd w rb s a mv n) (i : Nat) : w.frozen? ⟨rb, i, none⟩ = false := by unfold Rd at h; simp [World.frozen?, h]
theorem set_block {w : World} {rb : Nat} {c : Array Value} {t : TypeId} {fz : Nat × Nat} (h : w.heap[rb]? = some (.cells c t fz)) (i : Nat) (v : Value) : (w.setCell ⟨rb, i, none⟩ v).heap[rb]? = some (.cells (c.setIfInBounds i v) t fz) := by
  simp only [World.setCell, Array.getElem?_modify, if_true, h]
  rfl
theorem Rd.set1 {w : World} {rb : Nat} {s : ByteArray} {a : Nat} {mv : Value} {n : Nat} (h : Rd w rb s a mv n) (x : Int) (a' : Nat) (hx : x = (a' : Int)) : Rd (w.setCell ⟨rb, 1, none⟩ (.int .i64 x)) rb s a' mv n := by
  subst hx; exact set_block h 1 _
theorem Rd.drew {w : World} {rb : Nat} {s : ByteArray} {a : Nat} {mv : Value} {n : Nat} (h : Rd w rb s a mv n) : Rd w.drew rb s a mv n := h

/-- all but the reader's block stays -/
structure Kp (rb : Nat) (w w' : World) : Prop where
  os : w'.os = w.os
  tape : w'.tape = w.tape
  output : w'.output = w.output
  size : w.heap.size ≤ w'.heap.size
  block : ∀ k, k < w.heap.size → k ≠ rb → w'.heap[k]? = w.heap[k]?
theorem Kp.refl (rb : Nat) (w : World) : Kp rb w w := ⟨rfl, rfl, rfl, Nat.le_refl _, fun _ _ _ => rfl⟩
theorem Kp.trans {rb : Nat} {a b c : World} (h : Kp rb a b) (k : Kp rb b c) : Kp rb a c :=
  ⟨k.os.trans h.os, k.tape.trans h.tape, k.output.trans h.output, Nat.le_trans h.size k.size, fun i hi hn => (k.block i (Nat.lt_of_lt_of_le hi h.size) hn).trans (h.block i hi hn)⟩
theorem Kp.of {rb : Nat} {a b : World} (h : Below a.heap.size a b) : Kp rb a b := ⟨h.os, h.tape, h.output, h.size, fun k hk _ => h.block k hk⟩
theorem Kp.set (rb : Nat) (w : World) (i : Nat) (v : Value) : Kp rb w (w.setCell ⟨rb, i, none⟩ v) :=
  ⟨rfl, rfl, rfl, by simp [World.setCell], fun k _ hn => Below.heap_setCell w ⟨rb, i, none⟩ v k hn⟩
theorem Kp.drew {rb : Nat} {a b : World} (h : Kp rb a b) : Kp rb a b.drew := ⟨h.os, h.tape, h.output, h.size, h.block⟩
theorem Kp.under {rb : Nat} {a b : World} (h : Kp rb a b) (hrb : rb ≤ a.heap.size) : Below rb a b := ⟨h.os, h.tape, h.output, h.size, fun k hk => h.block k (by omega) (by omega)⟩
theorem Rd.below {w w' : World} {rb : Nat} {s : ByteArray} {a : Nat} {mv : Value} {n : Nat} (h : Rd w rb s a mv n) (hb : Below w.heap.size w w') : Rd w' rb s a mv n := by
  unfold Rd; rw [hb.block rb h.lt]; exact h

/-- what the reader leans on -/
structure Env (w : World) (rb : Nat) (ea : Addr) : Prop where
  txt : Txt w ea
  short : Short w
  tabs : Tabs w
  syn : ∃ te pe, w.cell? ⟨20, 0, none⟩ = some (.iface te pe)
  rng : ∃ te pe, w.cell? ⟨21, 0, none⟩ = some (.iface te pe)
  lt : 1 < rb ∧ 17 < rb ∧ 14 < rb ∧ 15 < rb ∧ 20 < rb ∧ 21 < rb
theorem Env.next {w w' : World} {rb : Nat} {ea : Addr} (h : Env w rb ea) (hk : Below rb w w') : Env w' rb ea := by
  obtain ⟨h1, h2, h3, h4, h5, h6⟩ := h.lt
  obtain ⟨te, pe, hs⟩ := h.syn
  obtain ⟨tr, pr, hr⟩ := h.rng
  refine ⟨?_, h.short.under hk h2, tabs_under h.tabs hk h3 h4, ⟨te, pe, (hk.cell h5).trans hs⟩, ⟨tr, pr, (hk.cell h6).trans hr⟩, h.lt⟩
  unfold Txt
  rw [← h.txt]
  exact hk.cell h1

abbrev PX (ea : Addr) : Ending := .panicked [{ v := X ea, recovered := false }]
/-- how a method of the reader ends: with a value, at a later place; or it gives up -/
def Post (rb : Nat) (s : ByteArray) (mv : Value) (n : Nat) (ea : Addr) (w : World) (o : Option (Value × List UInt8)) (e : Ending) (w' : World) : Prop :=
  Kp rb w w' ∧ ((∃ v r a', o = some (v, r) ∧ e = .returned v ∧ a' ≤ s.size ∧ s.data.toList.drop a' = r ∧ Rd w' rb s a' mv n) ∨ (o = none ∧ e = PX ea))

theorem drop_cons (s : ByteArray) (a : Nat) (h : a < s.size) : s.data.toList.drop a = s[a] :: s.data.toList.drop (a + 1) := by
  rw [List.drop_eq_getElem_cons (by simpa using h)]; rfl
theorem drop_end (s : ByteArray) (a : Nat) (h : ¬ a < s.size) : s.data.toList.drop a = [] := List.drop_eq_nil_of_le (by rw [len_list]; omega)

theorem Post.ok {rb : Nat} {s : ByteArray} {mv : Value} {n : Nat} {ea : Addr} {w w' : World} {o : Option (Value × List UInt8)} {v : Value} {r : List UInt8} {a' : Nat} (hk : Kp rb w w') (ho : o = some (v, r)) (ha : a' ≤ s.size) (hd : s.data.toList.drop a' = r) (hr : Rd w' rb s a' mv n) : Post rb s mv n ea w o (.returned v) w' :=
  ⟨hk, Or.inl ⟨v, r, a', ho, rfl, ha, hd, hr⟩⟩
theorem Post.no {rb : Nat} {s : ByteArray} {mv : Value} {n : Nat} {ea : Addr} {w w' : World} {o : Option (Value × List UInt8)} (hk : Kp rb w w') (ho : o = none) : Post rb s mv n ea w o (PX ea) w' :=
  ⟨hk, Or.inr ⟨ho, rfl⟩⟩

abbrev ptr (rb : Nat) : Value := .pointer (some ⟨rb, 0, none⟩)

/-- all goes on at this place -/
def Ok (rb : Nat) (s : ByteArray) (mv : Value) (n : Nat) (w : World) (a' : Nat) (v : Value) (e : Ending) (w' : World) : Prop := e = .returned v ∧ Kp rb w w' ∧ Rd w' rb s a' mv n
/-- it gives up -/
def No (rb : Nat) (ea : Addr) (w : World) (e : Ending) (w' : World) : Prop := e = PX ea ∧ Kp rb w w'

set_option maxRecDepth 100000 in
set_option maxHeartbeats 800000 in
theorem peek_some (rb : Nat) (s : ByteArray) (a : Nat) (mv : Value) (n : Nat) (w : World) (h : a < s.size) (hr : Rd w rb s a mv n) :
    Calls Tryd.prog 60 #[ptr rb] w fun e w' => Ok rb s mv n w a (B s[a]) e w' := by
  have HR := hide hr
  have c0 := hr.c0
  have c1 := hr.c1
  clear hr
  have k0 : (0 : Int) ≤ (a : Int) := by omega
  have k1 : (a : Int) < (s.size : Int) := by omega
  have k2 : ((a : Int) == (s.size : Int)) = false := beq_false_of_ne (by omega)
  have kn : (a : Int).toNat = a := by omega
  go_enter Tryd.func60, Tryd.ntmps60
  go_wp2
  go_region
  go_wp2
  go_region
  go_wp2
  go_ret
  exact ⟨rfl, (Kp.refl _ _).drew.drew, HR.out.drew.drew⟩

set_option maxRecDepth 100000 in
set_option maxHeartbeats 800000 in
theorem peek_none (rb : Nat) (s : ByteArray) (mv : Value) (n : Nat) (ea : Addr) (w : World) (hr : Rd w rb s s.size mv n) (he : Env w rb ea) :
    Calls Tryd.prog 60 #[ptr rb] w fun e w' => No rb ea w e w' := by
  have c0 := hr.c0
  have c1 := hr.c1
  have ce : w.cell? ⟨1, 0, none⟩ = some (X ea) := he.txt
  clear hr he
  go_enter Tryd.func60, Tryd.ntmps60
  go_wp2
  go_region
  go_wp2
  exact ⟨rfl, rfl, (Kp.refl _ _).drew⟩
end Go.Proofs.YtkkgngmhdlmgnaaDoor.jw
