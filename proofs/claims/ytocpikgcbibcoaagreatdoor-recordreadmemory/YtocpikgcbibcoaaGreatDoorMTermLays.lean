import Derived.RangeFuncNested
import Derived.RangeFuncBound
import Derived.RangeFuncCalls
import Derived.RangeFuncLeaves
import Derived.RangeFuncBox
import Derived.Below
import Derived.Test.YtocpikgcbibcoaaGreatDoorMStrBase
import Derived.Lib.Bytealg
import Derived.Laws.Externs
import Derived.WalkKit
import Derived.Shelf.Abstract
import Derived.Shelf.RegionOpen
import Derived.OwnWalkIn
import Derived.TacticsInMore
import Derived.LoopNIn
import Derived.LoopIn
import Derived.Test.YtocpikgcbibcoaaGreatDoorMRcList
import Derived.Shelf.Lays
import Derived.Shelf.Lays2
import Derived.Shelf.LaysM
import Derived.Shelf.LaysC
import Derived.Ground.NamesProg
import Derived.Ground.Names2Prog
import Derived.Test.YtocpikgcbibcoaaGreatDoorProg
namespace Go.Proofs.YtocpikgcbibcoaaGreatDoor.rgr
open Go.RowKit

variable {F : Fence} {n : Nat} {P : Program}

theorem set_heap_other (W : World) (b k : Nat) (v : Value) (h : k ≠ b) : (W.setCell ⟨b, 0, none⟩ v).heap[k]? = W.heap[k]? := by
  by_cases hk : k < W.heap.size
  · exact (grownBy_setCell' W b v).block k hk (fun e => h (by cases e; rfl))
  · have hs := (grownBy_setCell' W b v).size
    have hs2 : (W.setCell ⟨b, 0, none⟩ v).heap.size = W.heap.size := by
      unfold World.setCell; simp
    rw [Array.getElem?_eq_none (by omega), Array.getElem?_eq_none (by omega)]

/-- how a round may be left: off its end, with the boxes of the iterator kept; or by a return -/
def post {α : Type} (Kp : World → World → Prop) (I : List α → World → Prop) (Ix : List α → World → Prop) (xs : List α) (W : World) : Exit → Act → World → Prop
  | .normal, _, W' => KeepsOthers W W' ∧ Kp W W' ∧ I xs W'
  | .ret, _, W' => KeepsOthers W W' ∧ Ix xs W'
  | _, _, _ => False

/-- an iterator that keeps what is left in a box of its own (block b) and hands it on round by round -/
def Seq {α : Type} (F : Fence) (n : Nat) (P : Program) (gf : Nat) (lb : Array Value) (enc : α → Array Value) (b : Nat) (Kp : World → World → Prop) (S Sp : List α → Prop) (W : World) : Prop :=
  ∀ (l : Nat) (J Jx : List α → World → Prop) (W1 : World), Kp W W1 →
    (∀ pre A v, J pre A → J pre (A.setCell ⟨b, 0, none⟩ v)) → (∀ pre A, J pre A → J pre A.drew) → (∀ pre A v, Jx pre A → Jx pre (A.setCell ⟨b, 0, none⟩ v)) → (∀ pre A, Jx pre A → Jx pre A.drew) →
    (∀ pre x A, J pre A → YieldAt F (n - 1) P l (enc x) A fun e A' => (e = .returned (.bool true) ∧ J (pre ++ [x]) A' ∧ Kp A A') ∨ (e = .returned (.bool false) ∧ Jx (pre ++ [x]) A')) →
    J [] W1 →
    CallsIn F n P gf (#[.func (.yield l) #[] #[]] ++ lb) W1 fun e W' => (∃ v, e = .returned v) ∧ ((∃ xs, S xs ∧ J xs W') ∨ (∃ pre, Sp pre ∧ Jx pre W'))

/-- what a statement about the caller's own cells must abide: new blocks and turns of the loop's own records, a store into the iterator's box, a draw -/
structure Abides {α : Type} (N b : Nat) (I : List α → World → Prop) : Prop where
  put : ∀ pre A l o o', I pre A → N ≤ l → A.heap[l]? = some o → o.isCells = false → I pre (A.putObj l o')
  alloc : ∀ pre A o, I pre A → I pre (A.alloc o)
  set : ∀ pre A v, I pre A → I pre (A.setCell ⟨b, 0, none⟩ v)
  drew : ∀ pre A, I pre A → I pre A.drew

/-- A RANGE OVER AN ITERATOR WITH A BOX OF ITS OWN -/
theorem range_law {α : Type} {g : Operand} {ps : Array Tmp} {assign body : Code} {Q : Exit → Act → World → Prop} {a : Act} {w : World}
    (hro : F.round = none) (h1 : 1 ≤ n) {gf : Nat} {lb : Array Value} (hg : a.eval g = .func (.func gf) #[] lb) (hFg : F.fn gf) (eg : ∀ args w, (callFunc gf args).run P w = .ok (.enter gf args) w)
    {enc : α → Array Value} (hps : ∀ x, (enc x).size = ps.size) {b : Nat} (hb : b < w.heap.size) {Kp : World → World → Prop} {S Sp : List α → Prop} (hseq : Seq F (n - 1) P gf lb enc b Kp S Sp w)
    (hKt : ∀ {A B C : World}, Kp A B → Kp B C → Kp A C) (hKput : ∀ (A : World) l o, w.heap.size ≤ l → Kp A (A.putObj l o)) (hKnew : ∀ o o', Kp w ((w.alloc o).alloc o'))
    (I : List α → World → Prop) (Ix : List α → World → Prop) (hI : Abides w.heap.size b I) (hIx : Abides w.heap.size b Ix) (h0 : I [] w) (a₁ : α → Act)
    (hassign : ∀ (l : Nat) (x : α) (W : World) (K : Act → World → Prop), K (a₁ x) W →
      assign.wpIn (F.inRound l) (n - 1 - 1) P (Exit.then K (fun _ _ _ => False)) { tmps := (ps.zip (enc x)).foldl (fun t (p, v) => t.setIfInBounds p v) a.tmps, defers := [] } W)
    (hbody : ∀ (l : Nat) (pre : List α) (x : α) (W : World), I pre W → body.wpIn (F.inRound l) (n - 1 - 1) P (post Kp I Ix (pre ++ [x]) W) (a₁ x) W)
    (hdone : ∀ (D : Nat) (xs : List α) (W : World), w.heap.size ≤ D → S xs → I xs W → W.heap[D]? = some (.deferred (some [])) → Q .normal { a with defers := { target := .collected D, args := #[] } :: a.defers } W)
    (hstop : ∀ (D : Nat) (pre : List α) (W : World), w.heap.size ≤ D → Sp pre → Ix pre W → W.heap[D]? = some (.deferred (some [])) → Code.ret.wpIn F n P Q { a with defers := { target := .collected D, args := #[] } :: a.defers } W) :
    (Code.rangeFunc g ps assign body).wpIn F n P Q a w := by
  refine wpIn_rangeFunc fun fn hfn => ?_
  rw [hro]
  -- the record, as it lies between two rounds and when a round has broken off
  let rec' : LoopState → Option Code → Loop := fun st pe => { state := st, pending := pe, fn := fn, tmps := a.tmps, params := ps, assign := assign, body := body, defers := w.heap.size }
  let N := w.heap.size
  let W1 := (w.alloc (.deferred (some []))).alloc (.loop (rec' .ready none))
  have hL1 : W1.heap[N + 1]? = some (.loop (rec' .ready none)) := by
    have := World.alloc_heap_new (w.alloc (.deferred (some []))) (.loop (rec' .ready none))
    rwa [World.size_alloc] at this
  have hD1 : W1.heap[N]? = some (.deferred (some [])) := (Below.heap_alloc _ _ _ (by simp [N])).trans (World.alloc_heap_new w _)
  refine ⟨N + 1, [{ target := .collected N, args := #[] }], W1, { target := .fn (.func gf) lb, args := #[.func (.yield (N + 1)) #[] #[]] }, W1, gf, #[.func (.yield (N + 1)) #[] #[]] ++ lb, W1,
    run_enterLoop_outer _ _ _ _ _, by simp only [resolve, hg]; simp [go_sem], fun f' hf' => by simp [Target.leads] at hf'; subst hf'; exact hFg, by simp [invoke, go_sem, eg], fun _ => h1, ?_⟩
  have neb : N ≠ b ∧ N + 1 ≠ b := ⟨by show w.heap.size ≠ b; omega, by show w.heap.size + 1 ≠ b; omega⟩
  let J : List α → World → Prop := fun pre A => I pre A ∧ A.heap[N + 1]? = some (.loop (rec' .ready none)) ∧ A.heap[N]? = some (.deferred (some []))
  let Jx : List α → World → Prop := fun pre A => Ix pre A ∧ A.heap[N + 1]? = some (.loop (rec' .done (some .ret))) ∧ A.heap[N]? = some (.deferred (some []))
  refine (hseq (N + 1) J Jx W1 (hKnew _ _)
    (fun pre A v h => ⟨hI.set pre A v h.1, (set_heap_other A b _ v neb.2).trans h.2.1, (set_heap_other A b _ v neb.1).trans h.2.2⟩)
    (fun pre A h => ⟨hI.drew pre A h.1, h.2.1, h.2.2⟩)
    (fun pre A v h => by obtain ⟨h1, h2, h3⟩ := h; exact ⟨hIx.set pre A v h1, (set_heap_other A b _ v neb.2).trans h2, (set_heap_other A b _ v neb.1).trans h3⟩)
    (fun pre A h => by obtain ⟨h1, h2, h3⟩ := h; exact ⟨hIx.drew pre A h1, h2, h3⟩) ?_ ⟨hI.alloc _ _ _ (hI.alloc _ _ _ h0), hL1, hD1⟩).mono ?_
  · -- one round
    rintro pre x A ⟨hi, hl, hd⟩
    have hlt : N + 1 < A.heap.size := (Array.getElem?_eq_some_iff.1 hl).1
    refine ⟨fn, _, assign, body, run_yield (P := P) (args := enc x) hl (hps x), roundIn_of_wpIn hfn (hassign _ x A _ ⟨_, run_beginRound hl rfl, ?_⟩)⟩
    have hl2 : (A.putObj (N + 1) (.loop { rec' .ready none with state := .busy })).heap[N + 1]? = some (.loop { rec' .ready none with state := .busy }) := World.putObj_heap_same hlt
    have hd2 : (A.putObj (N + 1) (.loop { rec' .ready none with state := .busy })).heap[N]? = some (.deferred (some [])) := (World.putObj_heap_other (by omega)).trans hd
    refine wpIn_mono (hbody _ pre x _ (hI.put _ _ _ _ _ hi (by omega) hl rfl)) ?_
    rintro e a3 A3 hp
    cases e with
    | normal =>
      obtain ⟨hk, hkp, hi3⟩ := hp
      have hl3 := hk.same _ _ hl2 rfl
      have hd3 := hk.same _ _ hd2 rfl
      exact ⟨_, _, run_endRound none hl3, .inl ⟨rfl, ⟨hI.put _ _ _ _ _ hi3 (by omega) hl3 rfl, World.putObj_heap_same (Array.getElem?_eq_some_iff.1 hl3).1, (World.putObj_heap_other (by omega)).trans hd3⟩, hKt (hKt (hKput _ _ _ (by omega)) hkp) (hKput _ _ _ (by omega))⟩⟩
    | exit id => exact hp.elim
    | ret =>
      obtain ⟨hk, hi3⟩ := hp
      have hl3 := hk.same _ _ hl2 rfl
      have hd3 := hk.same _ _ hd2 rfl
      exact ⟨_, _, run_endRound (some .ret) hl3, .inr ⟨rfl, hIx.put _ _ _ _ _ hi3 (by omega) hl3 rfl, World.putObj_heap_same (Array.getElem?_eq_some_iff.1 hl3).1, (World.putObj_heap_other (by omega)).trans hd3⟩⟩
    | goto t => exact hp.elim
    | panic ch => exact hp.elim
    | outgrown => exact hp.elim
  · -- behind the iterator
    rintro e W2 ⟨⟨v, rfl⟩, (⟨xs, hS, hi, hl, hd⟩ | ⟨pre, hSp, hi, hl, hd⟩)⟩
    · exact ⟨none, _, run_endLoop hl (by simp [rec']), hdone N xs _ (Nat.le_refl _) hS (hI.put _ _ _ _ _ hi (by omega) hl rfl) ((World.putObj_heap_other (by omega)).trans hd)⟩
    · exact ⟨some .ret, _, run_endLoop hl (by simp [rec']), hstop N pre _ (Nat.le_refl _) hSp (hIx.put _ _ _ _ _ hi (by omega) hl rfl) ((World.putObj_heap_other (by omega)).trans hd)⟩

end Go.Proofs.YtocpikgcbibcoaaGreatDoor.rgr

namespace Go.Proofs.YtocpikgcbibcoaaGreatDoor.fd
open Go.ChangeShapes Go.WideShapes Go.ChangeAt Go.RowKit Go.Proofs.YtocpikgcbibcoaaGreatDoor.common Go.Proofs.YtocpikgcbibcoaaGreatDoor.bk
attribute [local go_sem ↓] Go.wp_at_zero Go.wp_at_succ

theorem ext_take (s : ByteArray) (i : Nat) : s.extract 0 i = ⟨(s.data.toList.take i).toArray⟩ := by
  apply ba_ext; simp
theorem ext_drop (s : ByteArray) (i : Nat) : s.extract i s.size = ⟨(s.data.toList.drop i).toArray⟩ := by
  apply ba_ext
  have h : s.data.toList.length = s.size := by simp
  simp
  exact List.take_of_length_le (by rw [List.length_drop, h]; exact Nat.le_refl _)

/-- where a byte first stands -/
theorem index_cases (c : UInt8) (l : List UInt8) : (Lib.indexByte l c = -1 ∧ ∀ x ∈ l, x ≠ c) ∨ ∃ i : Nat, Lib.indexByte l c = (i : Int) ∧ i < l.length ∧ l = l.take i ++ c :: l.drop (i + 1) ∧ ∀ x ∈ l.take i, x ≠ c := by
  induction l with
  | nil => exact Or.inl ⟨rfl, fun x h => by cases h⟩
  | cons b r ih =>
    by_cases hb : b = c
    · subst hb
      exact Or.inr ⟨0, by simp [Lib.indexByte], by simp, by simp, fun x h => by simp at h⟩
    · have e : Lib.indexByte (b :: r) c = if Lib.indexByte r c == -1 then -1 else Lib.indexByte r c + 1 := by
        rw [Lib.indexByte, if_neg (by simpa using hb)]
      rcases ih with ⟨h1, h2⟩ | ⟨i, h1, h2, h3, h4⟩
      · refine Or.inl ⟨by rw [e, h1]; rfl, fun x hx => ?_⟩
        rcases List.mem_cons.1 hx with rfl | hx
        · exact hb
        · exact h2 x hx
      · refine Or.inr ⟨i + 1, ?_, by simpa using h2, ?_, ?_⟩
        · rw [e, h1, if_neg (by simp)]; rfl
        · show b :: r = b :: (r.take i ++ c :: r.drop (i + 1))
          rw [← h3]
        · intro x hx
          rw [List.take_succ_cons] at hx
          rcases List.mem_cons.1 hx with rfl | hx
          · exact hb
          · exact h4 x hx

set_option maxRecDepth 100000 in
theorem indexByte_any (s : ByteArray) (c : UInt8) (w : World) :
    Calls Tryz.prog 135 #[.string s, B c] w fun e w' => e = .returned (.int .i64 (Lib.indexByte s.data.toList c)) ∧ w' = w := by
  go_enter Tryz.func135, Tryz.ntmps135
  go_wp2_with fail
  rw [run_callFunc_extern Tryz.func159 (by kernel_rfl) (by kernel_rfl) (by kernel_rfl) (e := Extern.BytealgIndexByte.indexByte) (by kernel_rfl), Lib.run_indexByteString]
  have e : ((c.toNat : Int)).toNat.toUInt8 = c := by simp
  rw [e]
  simp only [Result.andThen]
  rw [Oper.upon_value]
  go_wp2
  go_ret
  exact ⟨rfl, rfl⟩

set_option maxRecDepth 100000 in
set_option maxHeartbeats 800000 in
theorem indexLite_any (s : ByteArray) (c : UInt8) (w : World) :
    Calls Tryz.prog 117 #[.string s, .string ⟨#[c]⟩] w fun e w' => e = .returned (.int .i64 (Lib.indexByte s.data.toList c)) ∧ w' = w := by
  by_cases hc : s = ⟨#[c]⟩
  · have H0 : Hid (Lib.indexByte s.data.toList c = 0) := by show _ = _; rw [hc]; simp [Lib.indexByte]
    have he : (([c] : List UInt8) == s.toList) = true := by rw [hc, ByteArray.toList_eq]; simp
    clear hc
    go_enter Tryz.func117, Tryz.ntmps117
    go_wp2_with fail
    go_ret
    exact ⟨by rw [H0.out]; rfl, rfl⟩
  · have he : (([c] : List UInt8) == s.toList) = false := beq_false_of_ne (fun e => hc (ba_ext (by rw [ByteArray.toList_eq] at e; rw [← e])))
    clear hc
    go_enter Tryz.func117, Tryz.ntmps117
    go_wp2_with (go_at_call 135; refine (indexByte_any s c _).mono ?_; rintro e w' ⟨rfl, rfl⟩)
    go_ret
    exact ⟨rfl, rfl⟩

/-- a text cut at a byte's first place -/
def before (c : UInt8) (l : List UInt8) : List UInt8 := l.takeWhile fun x => decide (x ≠ c)
def behind (c : UInt8) (l : List UInt8) : List UInt8 := (l.dropWhile fun x => decide (x ≠ c)).tail
theorem tw_all {p : UInt8 → Bool} {l : List UInt8} (h : ∀ x ∈ l, p x = true) : l.takeWhile p = l ∧ l.dropWhile p = [] := by
  induction l with
  | nil => exact ⟨rfl, rfl⟩
  | cons a r ih =>
    have ha := h a (by simp)
    have := ih fun x hx => h x (by simp [hx])
    simp [ha, this.1, this.2]
theorem cut_no {c : UInt8} {l : List UInt8} (h : ∀ x ∈ l, x ≠ c) : before c l = l ∧ behind c l = [] ∧ l.contains c = false := by
  have ht := tw_all (p := fun x => decide (x ≠ c)) (l := l) fun x hx => decide_eq_true (h x hx)
  refine ⟨ht.1, ?_, ?_⟩
  · unfold behind
    rw [ht.2]; rfl
  · rw [Bool.eq_false_iff]
    intro hc
    exact h c (List.contains_iff_mem.1 hc) rfl
theorem cut_at {c : UInt8} {m r : List UInt8} (h : ∀ x ∈ m, x ≠ c) : before c (m ++ c :: r) = m ∧ behind c (m ++ c :: r) = r ∧ (m ++ c :: r).contains c = true := by
  have h1 : ∀ x ∈ m, (fun x => decide (x ≠ c)) x = true := fun x hx => decide_eq_true (h x hx)
  refine ⟨?_, ?_, by simp⟩
  · unfold before
    rw [List.takeWhile_append_of_pos h1]
    simp
  · unfold behind
    rw [List.dropWhile_append_of_pos h1]
    simp

set_option maxRecDepth 100000 in
set_option maxHeartbeats 800000 in
theorem cutLite_any (s : ByteArray) (c : UInt8) (w : World) (hs : s.size ≤ 4611686018427387904) :
    Calls Tryz.prog 97 #[.string s, .string ⟨#[c]⟩] w fun e w' => e = .returned (.tuple #[S (before c s.data.toList), S (behind c s.data.toList), .bool (s.data.toList.contains c)]) ∧ Below w.heap.size w w' := by
  rcases index_cases c s.data.toList with ⟨h1, h2⟩ | ⟨i, h1, h2, h3, h4⟩
  · obtain ⟨a1, a2, a3⟩ := cut_no h2
    rw [a1, a2, a3]
    have HI := hide (fun W => indexLite_any s c W)
    rw [h1] at HI
    clear h1 h2 a1 a2 a3
    go_enter Tryz.func97, Tryz.ntmps97
    go_wp2_with (go_at_call 117; refine (HI.out _).mono ?_; rintro e w' ⟨rfl, rfl⟩)
    refine bodyPost_ret (results_tmp3 rfl _ _ _) rfl ⟨?_, Below.refl _ _⟩
    rfl
  · have HI := hide (fun W => indexLite_any s c W)
    rw [h1] at HI
    rw [len_list] at h2
    obtain ⟨a1, a2, a3⟩ := cut_at (r := s.data.toList.drop (i + 1)) h4
    rw [← h3] at a1 a2 a3
    rw [a1, a2, a3]
    clear h1 h3 h4 a1 a2 a3
    go_enter Tryz.func97, Tryz.ntmps97
    go_wp2_with (go_at_call 117; refine (HI.out _).mono ?_; rintro e w' ⟨rfl, rfl⟩)
    have k0 : (0 : Int) ≤ (i : Int) := Int.natCast_nonneg _
    have k1 : (i : Int) ≤ (s.size : Int) := by omega
    have k2 : (i : Int) + 1 ≤ (s.size : Int) := by omega
    have k3 : (0 : Int) ≤ (i : Int) + 1 := by omega
    have k4 : ((i : Int) + 1).toNat = i + 1 := by omega
    have ww : IntKind.i64.wrap ((i : Int) + 1) = (i : Int) + 1 := wrap_le _ (by omega) (by omega)
    have HX1 : Hid (Value.string (s.extract 0 i) = S (s.data.toList.take i)) := by show _ = _; exact congrArg Value.string (ext_take s i)
    have HX2 : Hid (Value.string (s.extract (i + 1) s.size) = S (s.data.toList.drop (i + 1))) := by show _ = _; exact congrArg Value.string (ext_drop s (i + 1))
    go_region
    all_goals
      go_wp2_with fail
      refine bodyPost_ret (results_tmp3 rfl _ _ _) rfl ⟨?_, (Below.refl _ _).drew⟩
      rw [← HX1.out, ← HX2.out]
      rfl

set_option maxRecDepth 100000 in
theorem cut_any (s : ByteArray) (c : UInt8) (w : World) (hs : s.size ≤ 4611686018427387904) :
    Calls Tryz.prog 82 #[.string s, .string ⟨#[c]⟩] w fun e w' => e = .returned (.tuple #[S (before c s.data.toList), S (behind c s.data.toList), .bool (s.data.toList.contains c)]) ∧ Below w.heap.size w w' := by
  have HC := hide (cutLite_any s c w hs)
  generalize s.data.toList.contains c = f at *
  go_enter Tryz.func82, Tryz.ntmps82
  go_wp2_with fail
  refine HC.out.mono ?_
  rintro e w' ⟨rfl, hb⟩
  have HB := hide hb
  clear hb
  go_wp2_with fail
  refine bodyPost_ret (results_tmp3 rfl _ _ _) rfl ⟨rfl, HB.out⟩

end Go.Proofs.YtocpikgcbibcoaaGreatDoor.fd

namespace Go.Proofs.YtocpikgcbibcoaaGreatDoor.Tm

/-- what stands between the bytes c -/
def split (c : UInt8) : List UInt8 → List (List UInt8)
  | [] => [[]]
  | b :: r => if b = c then [] :: split c r else match split c r with
    | h :: t => (b :: h) :: t
    | [] => [[b]]
theorem split_ne (c : UInt8) (l : List UInt8) : split c l ≠ [] := by
  cases l with
  | nil => simp [split]
  | cons b r =>
    unfold split
    split
    · simp
    · cases split c r <;> simp
theorem split_one (c : UInt8) : ∀ l : List UInt8, (∀ x ∈ l, x ≠ c) → split c l = [l]
  | [], _ => rfl
  | b :: r, h => by
    have h1 : b ≠ c := h b (List.mem_cons_self ..)
    have h2 := split_one c r fun x hx => h x (List.mem_cons_of_mem _ hx)
    rw [split, if_neg h1, h2]
theorem split_at (c : UInt8) : ∀ (l r : List UInt8), (∀ x ∈ l, x ≠ c) → split c (l ++ c :: r) = l :: split c r
  | [], r, _ => by rw [List.nil_append, split, if_pos rfl]
  | b :: l, r, h => by
    have h1 : b ≠ c := h b (List.mem_cons_self ..)
    have h2 := split_at c l r fun x hx => h x (List.mem_cons_of_mem _ hx)
    rw [List.cons_append, split, if_neg h1, h2]
end Go.Proofs.YtocpikgcbibcoaaGreatDoor.Tm

namespace Go.Proofs.YtocpikgcbibcoaaGreatDoor.tsq
open Go.RowKit Go.Shelf Go.Proofs.YtocpikgcbibcoaaGreatDoor.common
open Go.Proofs.YtocpikgcbibcoaaGreatDoor.rgr (Seq Abides range_law post)
open Go.Proofs.YtocpikgcbibcoaaGreatDoor.bk
open Go.Proofs.YtocpikgcbibcoaaGreatDoor.fd (index_cases ext_take ext_drop indexLite_any)
attribute [local go_sem] Oper.semAt_some

set_option maxRecDepth 100000 in
theorem index_any (s : ByteArray) (c : UInt8) (w : World) :
    Calls Tryz.prog 127 #[.string s, .string ⟨#[c]⟩] w fun e w' => e = .returned (.int .i64 (Lib.indexByte s.data.toList c)) ∧ w' = w := by
  go_enter Tryz.func127, Tryz.ntmps127
  go_wp2_with (go_at_call 117; refine (indexLite_any s c _).mono ?_; rintro e w' ⟨rfl, rfl⟩)
  go_ret
  exact ⟨rfl, rfl⟩

/-- what stands between the bytes c, as texts -/
def parts (c : UInt8) (s : ByteArray) : List ByteArray := (Tm.split c s.data.toList).map fun l => ⟨l.toArray⟩

theorem parts_none (c : UInt8) (r : ByteArray) (h : ∀ x ∈ r.data.toList, x ≠ c) : parts c r = [r] := by
  unfold parts
  rw [Tm.split_one c _ h]
  rfl
theorem parts_at (c : UInt8) (r : ByteArray) (i : Nat) (h : r.data.toList = r.data.toList.take i ++ c :: r.data.toList.drop (i + 1)) (h4 : ∀ x ∈ r.data.toList.take i, x ≠ c) : parts c r = r.extract 0 i :: parts c (r.extract (i + 1) r.size) := by
  unfold parts
  conv => lhs; rw [h]
  rw [Tm.split_at c _ _ h4, ext_take, ext_drop]
  rfl

/-- the iterator's three boxes -/
structure Boxes (c : UInt8) (W : World) (bp bs bv : Nat) (r : ByteArray) : Prop where
  p : Boxed W bp 9 (.string ⟨#[c]⟩)
  s : Boxed W bs 9 (.string r)
  v : Boxed W bv 3 (.int .i64 0)

def Kp (bp bs bv : Nat) (A C : World) : Prop := C.heap[bp]? = A.heap[bp]? ∧ C.heap[bs]? = A.heap[bs]? ∧ C.heap[bv]? = A.heap[bv]?
theorem Boxes.kept {c : UInt8} {A C : World} {bp bs bv : Nat} {r : ByteArray} (h : Boxes c A bp bs bv r) (k : Kp bp bs bv A C) : Boxes c C bp bs bv r := ⟨k.1.trans h.p, k.2.1.trans h.s, k.2.2.trans h.v⟩

/-- how much is left -/
def left (b : Nat) (W : World) : Nat := match W.cell? ⟨b, 0, none⟩ with
  | some (.string r) => r.size
  | _ => 0
theorem left_eq {c : UInt8} {W : World} {bp bs bv : Nat} {r : ByteArray} (h : Boxes c W bp bs bv r) : left bs W = r.size := by unfold left; rw [h.s.cell]

set_option maxRecDepth 100000 in
set_option maxHeartbeats 3200000 in
theorem split_seq (c : UInt8) (n : Nat) (s : ByteArray) (hs : s.size ≤ reachBytes) (bp bs bv : Nat) (hps : bs ≠ bp) (hvs : bs ≠ bv) (W : World) (hW : Boxes c W bp bs bv s) :
    Seq Fence.wide n Tryz.prog 143 #[.pointer (some ⟨bp, 0, none⟩), .pointer (some ⟨bs, 0, none⟩), .pointer (some ⟨bv, 0, none⟩)] (fun x : ByteArray => #[Value.string x]) bs (Kp bp bs bv) (fun xs => xs = parts c s) (fun pre => pre <+: parts c s) W := by
  intro l J Jx W1 hk hJs hJd hXs hXd hY h0
  have HW := hide (hW.kept hk)
  clear hW hk
  unfold reachBytes at hs
  refine callsIn_of_wp Tryz.func143 rfl trivial ?_ rfl
  simp only [Tryz.ntmps143, List.size_toArray, List.length_cons, List.length_nil, Nat.reduceAdd, Nat.reduceSub, Array.replicate_succ, Array.replicate_zero, List.push_toArray, List.append_toArray, List.nil_append, List.cons_append]
  have cp := HW.out.p.cell
  gi_wp2
  gi_loopw [7] (fun _ wr => ∃ (pre : List ByteArray) (r : ByteArray), parts c s = pre ++ parts c r ∧ r.size ≤ s.size ∧ Boxes c wr bp bs bv r ∧ J pre wr) (fun _ wr => left bs wr + 1)
  case atStart => exact ⟨[], s, rfl, Nat.le_refl _, HW.out, h0⟩
  case round =>
    clear cp
    obtain ⟨pre, r, hp, hr, hbx, hJ⟩ := hrel
    have cp := hbx.p.cell
    have cs := hbx.s.cell
    have cv := hbx.v.cell
    have fs := hbx.s.frozen
    have HBX := hide hbx
    have HLE := hide (left_eq hbx)
    clear hbx
    rcases index_cases c r.data.toList with ⟨h1, h2⟩ | ⟨i, h1, h2, h3, h4⟩
    · have HPN := hide (parts_none c r h2)
      have HI : Hid (∀ X, Calls Tryz.prog 127 #[.string r, .string ⟨#[c]⟩] X fun e X' => e = .returned (.int .i64 (-1)) ∧ X' = X) := fun X => by rw [← h1]; exact index_any r c X
      clear h1 h2
      obtain ⟨fn, tmps, assign, body, hy, hR⟩ := hY pre r wr hJ
      gi_wp2
      refine ⟨trivial, fun h => (by cases h), (callsIn_wide.2 (HI.out _)).mono ?_⟩
      rintro e w' ⟨rfl, hw⟩
      subst hw
      gi_wp2
      refine ⟨fun h => (by cases h), hR.mono ?_⟩
      rintro e W3 (⟨rfl, hJ3, hk3⟩ | ⟨rfl, hJx3⟩)
      · gi_wp2
        go_end0
        exact ⟨⟨_, rfl⟩, .inl ⟨_, by rw [hp, HPN.out], hJ3⟩⟩
      · gi_wp2
        go_end0
        exact ⟨⟨_, rfl⟩, .inr ⟨pre ++ [r], by rw [hp, HPN.out]; exact List.prefix_refl _, hJx3⟩⟩
    · have HPN := hide (parts_at c r i h3 h4)
      have HI : Hid (∀ X, Calls Tryz.prog 127 #[.string r, .string ⟨#[c]⟩] X fun e X' => e = .returned (.int .i64 (i : Int)) ∧ X' = X) := fun X => by rw [← h1]; exact index_any r c X
      rw [len_list] at h2
      clear h1 h3 h4
      have k0 : (0 : Int) ≤ (i : Int) := Int.natCast_nonneg _
      have k1 : (i : Int) ≤ (r.size : Int) := by omega
      have k2 : (i : Int) + 1 ≤ (r.size : Int) := by omega
      have k3 : (0 : Int) ≤ (i : Int) + 1 := by omega
      have k4 : ((i : Int) + 1).toNat = i + 1 := by omega
      obtain ⟨fn, tmps, assign, body, hy, hR⟩ := hY pre (r.extract 0 i) wr hJ
      gi_wp2
      refine ⟨trivial, fun h => (by cases h), (callsIn_wide.2 (HI.out _)).mono ?_⟩
      rintro e w' ⟨rfl, hw⟩
      subst hw
      gi_wp2
      refine ⟨fun h => (by cases h), hR.mono ?_⟩
      rintro e W3 (⟨rfl, hJ3, hk3⟩ | ⟨rfl, hJx3⟩)
      · have B3 := HBX.out.kept hk3
        have cp3 := B3.p.cell
        have cs3 := B3.s.cell
        have fs3 := B3.s.frozen
        gi_wp2
        have hnew : Boxes c (W3.setCell ⟨bs, 0, none⟩ (.string (r.extract (i + 1) r.size))) bp bs bv (r.extract (i + 1) r.size) := ⟨B3.p.other (fun e => hps e.symm) _, B3.s.set _, B3.v.other (fun e => hvs e.symm) _⟩
        have hsz : (r.extract (i + 1) r.size).size = r.size - (i + 1) := by rw [ByteArray.size_extract]; omega
        refine ⟨⟨pre ++ [r.extract 0 i], _, by rw [hp, HPN.out]; simp, by omega, hnew, hJs _ _ _ hJ3⟩, ?_⟩
        rw [left_eq hnew, HLE.out, hsz]; omega
      · gi_wp2
        refine bodyPost_ret (results_none rfl _ _ _) rfl ?_
        exact ⟨⟨_, rfl⟩, .inr ⟨pre ++ [r.extract 0 i], ⟨parts c (r.extract (i + 1) r.size), by rw [hp, HPN.out]; simp⟩, hJx3⟩⟩

def boxesOf (c : UInt8) (w : World) (s : ByteArray) : World := ((w.alloc (.cells #[.string s] 9)).alloc (.cells #[.string ⟨#[c]⟩] 9)).alloc (.cells #[.int .i64 0] 3)

set_option maxRecDepth 100000 in
theorem splitHead_any (c : UInt8) (s : ByteArray) (w : World) :
    Calls Tryz.prog 124 #[.string s, .string ⟨#[c]⟩, .int .i64 0] w fun e w' => e = .returned (.func (.func 143) #[] #[.pointer (some ⟨w.heap.size + 1, 0, none⟩), .pointer (some ⟨w.heap.size, 0, none⟩), .pointer (some ⟨w.heap.size + 2, 0, none⟩)]) ∧ w' = boxesOf c w s := by
  go_enter Tryz.func124, Tryz.ntmps124
  go_wp2
  go_ret
  exact ⟨rfl, rfl⟩

set_option maxRecDepth 100000 in
theorem splitFace_any (c : UInt8) (s : ByteArray) (w : World) :
    Calls Tryz.prog 101 #[.string s, .string ⟨#[c]⟩] w fun e w' => e = .returned (.func (.func 143) #[] #[.pointer (some ⟨w.heap.size + 1, 0, none⟩), .pointer (some ⟨w.heap.size, 0, none⟩), .pointer (some ⟨w.heap.size + 2, 0, none⟩)]) ∧ w' = boxesOf c w s := by
  go_enter Tryz.func101, Tryz.ntmps101
  go_wp2_with fail
  refine (splitHead_any c s w).mono ?_
  rintro e w' ⟨rfl, rfl⟩
  go_wp2
  go_ret
  exact ⟨rfl, rfl⟩

theorem boxes_size (c : UInt8) (w : World) (s : ByteArray) : (boxesOf c w s).heap.size = w.heap.size + 3 := by simp [boxesOf]
theorem boxes_new (c : UInt8) (w : World) (s : ByteArray) : Boxes c (boxesOf c w s) (w.heap.size + 1) w.heap.size (w.heap.size + 2) s := by
  have h0 := Boxed.new w 9 (.string s)
  have h1 := Boxed.new (w.alloc (.cells #[.string s] 9)) 9 (.string ⟨#[c]⟩)
  have h2 := Boxed.new ((w.alloc (.cells #[.string s] 9)).alloc (.cells #[.string ⟨#[c]⟩] 9)) 3 (.int .i64 0)
  rw [World.size_alloc] at h1
  rw [World.size_alloc, World.size_alloc] at h2
  exact ⟨h1.alloc _, (h0.alloc _).alloc _, h2⟩
theorem boxes_below (c : UInt8) (w : World) (s : ByteArray) : Below w.heap.size w (boxesOf c w s) := (((Below.refl _ w).alloc (Nat.le_refl _) _).alloc (by simp) _).alloc (by simp; omega) _


end Go.Proofs.YtocpikgcbibcoaaGreatDoor.tsq

namespace Go.Proofs.YtocpikgcbibcoaaGreatDoor.tm
open Go.ChangeShapes Go.WideShapes Go.ChangeAt Go.RowKit Go.Proofs.YtocpikgcbibcoaaGreatDoor.common Go.Proofs.YtocpikgcbibcoaaGreatDoor.bk
attribute [local go_sem ↓] Go.wp_at_zero Go.wp_at_succ

/-- a scope's byte -/
def scB (b : UInt8) : Bool := Tm.btw 33 126 b && decide (b.toNat ≠ 34) && decide (b.toNat ≠ 92)

set_option maxHeartbeats 1600000 in
theorem sc_tests : Tests 109 scB := by
  intro w c
  have HV := hide (vis_tests w c)
  have HS : Hid (scB c = (Tm.btw 33 126 c && decide (c.toNat ≠ 34) && decide (c.toNat ≠ 92))) := rfl
  generalize Tm.btw 33 126 c = t at *
  cases t with
  | false =>
    go_enter Tryz.func109, Tryz.ntmps109
    go_wp2_with (go_at_call 54; refine HV.out.mono ?_; rintro x w2 ⟨rfl, rfl⟩)
    go_ret
    exact ⟨by rw [HS.out]; rfl, rfl⟩
  | true =>
    by_cases h1 : c.toNat = 34
    · have h1i : (c.toNat : Int) = 34 := by omega
      have HR : Hid (scB c = false) := by show _ = _; rw [HS.out, h1]; rfl
      go_enter Tryz.func109, Tryz.ntmps109
      go_wp2_with (go_at_call 54; refine HV.out.mono ?_; rintro x w2 ⟨rfl, rfl⟩)
      go_ret
      exact ⟨by rw [HR.out]; rfl, rfl⟩
    · have h1i : ¬ (c.toNat : Int) = 34 := by omega
      have h1b : ((c.toNat : Int) == 34) = false := beq_false_of_ne h1i
      by_cases h2 : c.toNat = 92
      · have h2i : (c.toNat : Int) = 92 := by omega
        have HR : Hid (scB c = false) := by show _ = _; rw [HS.out, h2]; rfl
        go_enter Tryz.func109, Tryz.ntmps109
        go_wp2_with (go_at_call 54; refine HV.out.mono ?_; rintro x w2 ⟨rfl, rfl⟩)
        go_ret
        exact ⟨by rw [HR.out]; rfl, rfl⟩
      · have h2i : ¬ (c.toNat : Int) = 92 := by omega
        have h2b : ((c.toNat : Int) == 92) = false := beq_false_of_ne h2i
        have HR : Hid (scB c = true) := by show _ = _; rw [HS.out, decide_eq_true h1, decide_eq_true h2]; rfl
        go_enter Tryz.func109, Tryz.ntmps109
        go_wp2_with (go_at_call 54; refine HV.out.mono ?_; rintro x w2 ⟨rfl, rfl⟩)
        go_ret
        exact ⟨by rw [HR.out]; show Ending.returned (Value.bool ((c.toNat : Int) != 34 && (c.toNat : Int) != 92)) = _; rw [bne_iff_ne.2 h1i, bne_iff_ne.2 h2i]; rfl, rfl⟩
theorem sc_enters : Enters 109 := enters_of Tryz.func109 (by kernel_rfl) rfl

set_option maxRecDepth 100000 in
set_option maxHeartbeats 1600000 in
/-- of a text of any length -/
theorem isWord_most (s : ByteArray) (most : Nat) (g : Nat) (p : UInt8 → Bool) (w : World) (hmost : most ≤ 4611686018427387904) (eg : Enters g) (hf : Tests g p) :
    Calls Tryz.prog 53 #[.string s, .int .i64 most, .func (.func g) #[] #[]] w fun e w' => e = .returned (.bool (Tm.word most p s.data.toList)) ∧ w' = w := by
  by_cases hm : s.size ≤ most
  · exact isWord_any s most g p w (Nat.le_trans hm hmost) eg hf
  · clear hf eg
    have he : s ≠ ⟨#[]⟩ := fun e => hm (by rw [e]; exact Nat.zero_le _)
    obtain ⟨h1, h2, h3⟩ := word_ne he
    have hmi : ¬ (s.size : Int) ≤ (most : Int) := by omega
    have HR : Hid (Tm.word most p s.data.toList = false) := by
      show _ = _
      unfold Tm.word
      rw [len_list, decide_eq_false hm]; simp
    rw [HR.out]
    go_enter Tryz.func53, Tryz.ntmps53
    go_wp2_with fail
    go_ret
    exact ⟨rfl, rfl⟩

/-- one result, a bool in a cell -/
theorem results_bool {fn : Func} {p : Tmp} {w : World} {b : Nat} {v : Value} (h : fn.results = #[.cell p 4]) (tmps : Array Value) (hx : tmps.getD p undef = .pointer (some ⟨b, 0, none⟩)) (hc : w.cell? ⟨b, 0, none⟩ = some v) :
    (results fn tmps).run Tryz.prog w = .ok v w := by
  have hx' : tmps[p]?.getD undef = .pointer (some ⟨b, 0, none⟩) := by simpa using hx
  simp only [results, h]
  simp [hx', asAddr, loadVar, Tryz.isAgg4, hc]

/-- one scope -/
def isSc (s : ByteArray) : Bool := Tm.word 32 scB s.data.toList
/-- scopes with one blank between each two -/
def areSc (s : ByteArray) : Bool := (tsq.parts 32 s).all isSc

end Go.Proofs.YtocpikgcbibcoaaGreatDoor.tm

namespace Go.Proofs.YtocpikgcbibcoaaGreatDoor.tm
open Go.RowKit Go.Shelf Go.Proofs.YtocpikgcbibcoaaGreatDoor.common Go.Proofs.YtocpikgcbibcoaaGreatDoor.bk
open Go.Proofs.YtocpikgcbibcoaaGreatDoor.rgr (Seq range_law post)
open Go.Proofs.YtocpikgcbibcoaaGreatDoor.tsq
attribute [local go_sem] Oper.semAt_some

/-- the walk's own cell, and nothing below it -/
def ScInv (w : World) (v : Value) (W : World) : Prop := Boxed W w.heap.size 4 v ∧ Below w.heap.size w W
theorem sc_abides (w : World) (N b : Nat) (v : Value) (p : List ByteArray → Prop) (hN : w.heap.size < N) (hb : w.heap.size < b) : rgr.Abides (α := ByteArray) N b (fun pre W => ScInv w v W ∧ p pre) where
  put := by
    rintro pre A l o o' ⟨⟨hv, hB⟩, hp⟩ hl ho hc
    refine ⟨⟨hv.kept (grownBy_putObj' A l o') (fun e => by cases e; omega), ?_⟩, hp⟩
    exact hB.trans ((Below.refl _ A).grown (grownBy_putObj' A l o') hB.size (fun k e => by cases e; omega))
  alloc := by
    rintro pre A o ⟨⟨hv, hB⟩, hp⟩
    exact ⟨⟨hv.alloc o, hB.alloc hB.size o⟩, hp⟩
  set := by
    rintro pre A u ⟨⟨hv, hB⟩, hp⟩
    exact ⟨⟨hv.other (by omega) u, hB.setCell (p := ⟨b, 0, none⟩) (by show w.heap.size ≤ b; omega) u⟩, hp⟩
  drew := by
    rintro pre A ⟨⟨hv, hB⟩, hp⟩
    exact ⟨⟨hv, hB.drew⟩, hp⟩

set_option maxRecDepth 100000 in
set_option maxHeartbeats 6400000 in
theorem areScopes_any (s : ByteArray) (w : World) (hs : s.size ≤ reachBytes) :
    Calls Tryz.prog 91 #[.string s] w fun e w' => e = .returned (.bool (areSc s)) ∧ Below w.heap.size w w' := by
  refine (callsIn_wide (n := 5)).1 ?_
  refine callsIn_of_wp_marks Tryz.func91 rfl trivial ?_ rfl
  simp only [Tryz.ntmps91, List.size_toArray, List.length_cons, List.length_nil, Nat.reduceAdd, Nat.reduceSub, Array.replicate_succ, Array.replicate_zero, List.push_toArray, List.append_toArray, List.nil_append, List.cons_append]
  gi_wp2
  refine ⟨trivial, (callsIn_wide.2 (splitFace_any 32 s _)).mono ?_⟩
  rintro e w' ⟨rfl, rfl⟩
  gi_wp2
  have hsz : (w.alloc (.cells #[.bool false] 4)).heap.size = w.heap.size + 1 := by simp
  have hN := boxes_size 32 (w.alloc (.cells #[.bool false] 4)) s
  have hBX := boxes_new 32 (w.alloc (.cells #[.bool false] 4)) s
  have hB0 := ((Below.refl _ w).alloc (Nat.le_refl _) (.cells #[.bool false] 4)).trans ((boxes_below 32 (w.alloc (.cells #[.bool false] 4)) s).mono (by rw [hsz]; omega))
  have hbo : Boxed (boxesOf 32 (w.alloc (.cells #[.bool false] 4)) s) w.heap.size 4 (.bool false) := (((Boxed.new w 4 (.bool false)).alloc _).alloc _).alloc _
  rw [hsz] at hN hBX
  generalize boxesOf 32 (w.alloc (.cells #[.bool false] 4)) s = W0 at *
  refine range_law (b := w.heap.size + 1) rfl (by omega) (gf := 143) rfl trivial (enters_of Tryz.func143 (by kernel_rfl) rfl) (enc := fun x : ByteArray => #[Value.string x]) (fun _ => rfl) (by omega)
    (split_seq 32 4 s hs (w.heap.size + 1 + 1) (w.heap.size + 1) (w.heap.size + 1 + 2) (by omega) (by omega) W0 hBX)
    (fun h k => ⟨k.1.trans h.1, k.2.1.trans h.2.1, k.2.2.trans h.2.2⟩)
    (fun A l o hl => ⟨World.putObj_heap_other (by omega), World.putObj_heap_other (by omega), World.putObj_heap_other (by omega)⟩)
    (fun o o' => ⟨?n1, ?n2, ?n3⟩)
    (fun pre W => ScInv w (.bool false) W ∧ pre.all isSc = true) (fun pre W => ScInv w (.bool false) W ∧ pre.all isSc = false)
    (sc_abides w _ _ _ (fun pre => pre.all isSc = true) (by omega) (by omega)) (sc_abides w _ _ _ (fun pre => pre.all isSc = false) (by omega) (by omega))
    ⟨⟨hbo, hB0⟩, rfl⟩
    (fun x => { tmps := #[.string s, undef, .pointer (some ⟨w.heap.size, 0, none⟩), .string x, .string s, .func (.func 143) #[] #[.pointer (some ⟨w.heap.size + 1 + 1, 0, none⟩), .pointer (some ⟨w.heap.size + 1, 0, none⟩), .pointer (some ⟨w.heap.size + 1 + 2, 0, none⟩)], .string x, undef, undef, undef], defers := [] }) ?assign ?body ?done ?stop
  case n1 => exact ((Below.heap_alloc _ _ _ (by simp; omega)).trans (Below.heap_alloc _ _ _ (by omega)))
  case n2 => exact ((Below.heap_alloc _ _ _ (by simp; omega)).trans (Below.heap_alloc _ _ _ (by omega)))
  case n3 => exact ((Below.heap_alloc _ _ _ (by simp; omega)).trans (Below.heap_alloc _ _ _ (by omega)))
  case assign =>
    intro l x W K hK
    gi_wp2
    exact hK
  case body =>
    rintro l pre x W ⟨⟨hv, hB⟩, hp⟩
    have HW := hide (isWord_most x 32 _ scB W (by decide) sc_enters sc_tests)
    have HA : Hid ((pre ++ [x]).all isSc = Tm.word 32 scB x.data.toList) := by show _ = _; rw [List.all_append, hp]; simp [isSc]
    have HV := hide hv
    have HB := hide hB
    clear hv hB hp
    gi_wp2
    refine ⟨trivial, ((callsIn_wide.2 HW.out).inRound l).mono ?_⟩
    rintro e W2 ⟨rfl, rfl⟩
    have hc := HV.out.cell
    have hf := HV.out.frozen
    cases ht : Tm.word 32 scB x.data.toList with
    | true =>
      rw [ht] at HA
      gi_wp2
      exact ⟨KeepsOthers.refl _, ⟨rfl, rfl, rfl⟩, ⟨HV.out, HB.out⟩, HA.out⟩
    | false =>
      rw [ht] at HA
      gi_wp2
      exact ⟨KeepsOthers.setCell _ _ _, ⟨HV.out.set _, HB.out.setCell (p := ⟨w.heap.size, 0, none⟩) (Nat.le_refl _) _⟩, HA.out⟩
  case done =>
    rintro D xs W hD rfl ⟨⟨hv, hB⟩, hp⟩ hK
    have hc := hv.cell
    have hf := hv.frozen
    gi_wp2
    have hv2 := hv.set (.bool true)
    have hB2 := hB.setCell (p := ⟨w.heap.size, 0, none⟩) (Nat.le_refl _) (.bool true)
    have hK2 : (W.setCell ⟨w.heap.size, 0, none⟩ (.bool true)).heap[D]? = some (.deferred (some [])) := (rgr.set_heap_other W w.heap.size D (.bool true) (by omega)).trans hK
    refine ⟨by simp, .inl ⟨_, _, rfl, run_takeDeferred hK2, ?_⟩⟩
    refine ⟨_, results_bool rfl _ rfl (hv2.kept (grownBy_putObj' _ D _) (fun e => by cases e; omega)).cell, ?_, hB2.trans ((Below.refl _ _).grown (grownBy_putObj' _ D _) hB2.size (fun k e => by cases e; omega))⟩
    show Ending.returned (.bool true) = _
    unfold areSc
    rw [hp]
  case stop =>
    rintro D pre W hD hpre ⟨⟨hv, hB⟩, hp⟩ hK
    gi_wp2
    refine ⟨by simp, .inl ⟨_, _, rfl, run_takeDeferred hK, ?_⟩⟩
    refine ⟨_, results_bool rfl _ rfl (hv.kept (grownBy_putObj' W D _) (fun e => by cases e; omega)).cell, ?_, hB.trans ((Below.refl _ W).grown (grownBy_putObj' W D _) hB.size (fun k e => by cases e; omega))⟩
    show Ending.returned (.bool false) = _
    obtain ⟨t, ht⟩ := hpre
    unfold areSc
    rw [← ht, List.all_append, hp]; rfl

end Go.Proofs.YtocpikgcbibcoaaGreatDoor.tm

namespace Go.Proofs.YtocpikgcbibcoaaGreatDoor.jl
open Go.Shelf
def lays216_ren : Go.Shelf.Ren := ⟨fun | 16 => 110 | n => n, fun | 24 => 24 | 9 => 9 | 4 => 4 | n => n, fun | n => n⟩
theorem lays216 : Go.Proofs.Lays2.n16 Tryz.prog lays216_ren := {
  mixed := by kernel_rfl
  f16 := Tryz.func110.trans (congrArg some (by kernel_rfl))
  t4 := Tryz.underlying4
  a4 := Tryz.isAgg4
  z4 := Tryz.sizeOf4
  v4 := Tryz.zeroValue4
  t9 := Tryz.underlying9
  a9 := Tryz.isAgg9
  z9 := Tryz.sizeOf9
  v9 := Tryz.zeroValue9
  t24 := Tryz.underlying24
  a24 := Tryz.isAgg24
  z24 := Tryz.sizeOf24
  v24 := Tryz.zeroValue24
  i9 := by kernel_rfl }
def lays190_ren : Go.Shelf.Ren := ⟨fun | 190 => 111 | 125 => 131 | 258 => 130 | 128 => 155 | 129 => 156 | 302 => 146 | 303 => 147 | 304 => 148 | 305 => 149 | 306 => 150 | 307 => 151 | 308 => 152 | 309 => 153 | 310 => 154 | 333 => 168 | 329 => 169 | 330 => 170 | 334 => 171 | 335 => 172 | 336 => 173 | 344 => 177 | n => n, fun | 31 => 24 | 9 => 9 | 3 => 3 | 46 => 112 | 0 => 0 | 51 => 114 | 53 => 116 | 4 => 4 | 183 => 164 | 182 => 163 | 131 => 168 | 5 => 5 | 218 => 180 | 222 => 57 | 228 => 192 | 229 => 76 | n => n, fun | n => n⟩
theorem lays190 : Go.Proofs.Lays.n190 Tryz.prog lays190_ren := {
  mixed := by kernel_rfl
  f125 := Tryz.func131.trans (congrArg some (by kernel_rfl))
  f128 := Tryz.func155.trans (congrArg some (by kernel_rfl))
  f129 := Tryz.func156.trans (congrArg some (by kernel_rfl))
  f190 := Tryz.func111.trans (congrArg some (by kernel_rfl))
  f258 := Tryz.func130.trans (congrArg some (by kernel_rfl))
  f302 := Tryz.func146.trans (congrArg some (by kernel_rfl))
  f303 := Tryz.func147.trans (congrArg some (by kernel_rfl))
  f304 := Tryz.func148.trans (congrArg some (by kernel_rfl))
  f305 := Tryz.func149.trans (congrArg some (by kernel_rfl))
  f306 := Tryz.func150.trans (congrArg some (by kernel_rfl))
  f307 := Tryz.func151.trans (congrArg some (by kernel_rfl))
  f308 := Tryz.func152.trans (congrArg some (by kernel_rfl))
  f309 := Tryz.func153.trans (congrArg some (by kernel_rfl))
  f310 := Tryz.func154.trans (congrArg some (by kernel_rfl))
  f329 := Tryz.func169.trans (congrArg some (by kernel_rfl))
  f330 := Tryz.func170.trans (congrArg some (by kernel_rfl))
  f333 := Tryz.func168.trans (congrArg some (by kernel_rfl))
  f334 := Tryz.func171.trans (congrArg some (by kernel_rfl))
  f335 := Tryz.func172.trans (congrArg some (by kernel_rfl))
  f336 := Tryz.func173.trans (congrArg some (by kernel_rfl))
  f344 := Tryz.func177.trans (congrArg some (by kernel_rfl))
  t0 := Tryz.underlying0
  a0 := Tryz.isAgg0
  z0 := Tryz.sizeOf0
  v0 := Tryz.zeroValue0
  t3 := Tryz.underlying3
  a3 := Tryz.isAgg3
  z3 := Tryz.sizeOf3
  v3 := Tryz.zeroValue3
  t4 := Tryz.underlying4
  a4 := Tryz.isAgg4
  z4 := Tryz.sizeOf4
  v4 := Tryz.zeroValue4
  t5 := Tryz.underlying5
  a5 := Tryz.isAgg5
  z5 := Tryz.sizeOf5
  v5 := Tryz.zeroValue5
  t9 := Tryz.underlying9
  a9 := Tryz.isAgg9
  z9 := Tryz.sizeOf9
  v9 := Tryz.zeroValue9
  t31 := Tryz.underlying24
  a31 := Tryz.isAgg24
  z31 := Tryz.sizeOf24
  v31 := Tryz.zeroValue24
  t46 := Tryz.underlying112
  a46 := Tryz.isAgg112
  z46 := Tryz.sizeOf112
  v46 := Tryz.zeroValue112
  t51 := Tryz.underlying114
  a51 := Tryz.isAgg114
  z51 := Tryz.sizeOf114
  v51 := Tryz.zeroValue114
  t53 := Tryz.underlying116
  a53 := Tryz.isAgg116
  z53 := Tryz.sizeOf116
  v53 := Tryz.zeroValue116
  t131 := Tryz.underlying168
  a131 := Tryz.isAgg168
  z131 := Tryz.sizeOf168
  v131 := Tryz.zeroValue168
  t182 := Tryz.underlying163
  a182 := Tryz.isAgg163
  z182 := Tryz.sizeOf163
  v182 := Tryz.zeroValue163
  t183 := Tryz.underlying164
  a183 := Tryz.isAgg164
  z183 := Tryz.sizeOf164
  v183 := Tryz.zeroValue164
  t218 := Tryz.underlying180
  a218 := Tryz.isAgg180
  z218 := Tryz.sizeOf180
  v218 := Tryz.zeroValue180
  t222 := Tryz.underlying57
  a222 := Tryz.isAgg57
  z222 := Tryz.sizeOf57
  v222 := Tryz.zeroValue57
  t228 := Tryz.underlying192
  a228 := Tryz.isAgg192
  z228 := Tryz.sizeOf192
  v228 := Tryz.zeroValue192
  t229 := Tryz.underlying76
  a229 := Tryz.isAgg76
  z229 := Tryz.sizeOf76
  v229 := Tryz.zeroValue76 }
def lays194_ren : Go.Shelf.Ren := ⟨fun | 194 => 112 | n => n, fun | 31 => 24 | 9 => 9 | 3 => 3 | 4 => 4 | 0 => 0 | n => n, fun | n => n⟩
theorem lays194 : Go.Proofs.Lays.n194 Tryz.prog lays194_ren := {
  mixed := by kernel_rfl
  f194 := Tryz.func112.trans (congrArg some (by kernel_rfl))
  t0 := Tryz.underlying0
  a0 := Tryz.isAgg0
  z0 := Tryz.sizeOf0
  v0 := Tryz.zeroValue0
  t3 := Tryz.underlying3
  a3 := Tryz.isAgg3
  z3 := Tryz.sizeOf3
  v3 := Tryz.zeroValue3
  t4 := Tryz.underlying4
  a4 := Tryz.isAgg4
  z4 := Tryz.sizeOf4
  v4 := Tryz.zeroValue4
  t9 := Tryz.underlying9
  a9 := Tryz.isAgg9
  z9 := Tryz.sizeOf9
  v9 := Tryz.zeroValue9
  t31 := Tryz.underlying24
  a31 := Tryz.isAgg24
  z31 := Tryz.sizeOf24
  v31 := Tryz.zeroValue24 }
def lays146_ren : Go.Shelf.Ren := ⟨fun | 146 => 93 | 221 => 113 | 268 => 132 | 138 => 133 | 143 => 127 | 195 => 157 | 197 => 144 | 218 => 158 | 219 => 117 | 260 => 167 | 217 => 135 | 225 => 136 | 224 => 137 | 267 => 138 | 266 => 159 | 314 => 160 | n => n, fun | 9 => 9 | 31 => 24 | 3 => 3 | 4 => 4 | 0 => 0 | 105 => 160 | 21 => 21 | 5 => 5 | 46 => 112 | 119 => 103 | 139 => 191 | 138 => 190 | 146 => 173 | 51 => 114 | n => n, fun | 1 => 19 | 3 => 22 | 4 => 23 | n => n⟩
theorem lays146 : Go.Proofs.LaysM.n146 Tryz.prog lays146_ren := {
  mixed := by kernel_rfl
  f138 := Tryz.func133.trans (congrArg some (by kernel_rfl))
  f143 := Tryz.func127.trans (congrArg some (by kernel_rfl))
  f146 := Tryz.func93.trans (congrArg some (by kernel_rfl))
  f195 := Tryz.func157.trans (congrArg some (by kernel_rfl))
  f197 := Tryz.func144.trans (congrArg some (by kernel_rfl))
  f217 := Tryz.func135.trans (congrArg some (by kernel_rfl))
  f218 := Tryz.func158.trans (congrArg some (by kernel_rfl))
  f219 := Tryz.func117.trans (congrArg some (by kernel_rfl))
  f221 := Tryz.func113.trans (congrArg some (by kernel_rfl))
  f224 := Tryz.func137.trans (congrArg some (by kernel_rfl))
  f225 := Tryz.func136.trans (congrArg some (by kernel_rfl))
  f260 := Tryz.func167.trans (congrArg some (by kernel_rfl))
  f266 := Tryz.func159.trans (congrArg some (by kernel_rfl))
  f267 := Tryz.func138.trans (congrArg some (by kernel_rfl))
  f268 := Tryz.func132.trans (congrArg some (by kernel_rfl))
  f314 := Tryz.func160.trans (congrArg some (by kernel_rfl))
  t0 := Tryz.underlying0
  a0 := Tryz.isAgg0
  z0 := Tryz.sizeOf0
  v0 := Tryz.zeroValue0
  t3 := Tryz.underlying3
  a3 := Tryz.isAgg3
  z3 := Tryz.sizeOf3
  v3 := Tryz.zeroValue3
  t4 := Tryz.underlying4
  a4 := Tryz.isAgg4
  z4 := Tryz.sizeOf4
  v4 := Tryz.zeroValue4
  t5 := Tryz.underlying5
  a5 := Tryz.isAgg5
  z5 := Tryz.sizeOf5
  v5 := Tryz.zeroValue5
  t9 := Tryz.underlying9
  a9 := Tryz.isAgg9
  z9 := Tryz.sizeOf9
  v9 := Tryz.zeroValue9
  t21 := Tryz.underlying21
  a21 := Tryz.isAgg21
  z21 := Tryz.sizeOf21
  v21 := Tryz.zeroValue21
  t31 := Tryz.underlying24
  a31 := Tryz.isAgg24
  z31 := Tryz.sizeOf24
  v31 := Tryz.zeroValue24
  t46 := Tryz.underlying112
  a46 := Tryz.isAgg112
  z46 := Tryz.sizeOf112
  v46 := Tryz.zeroValue112
  t51 := Tryz.underlying114
  a51 := Tryz.isAgg114
  z51 := Tryz.sizeOf114
  v51 := Tryz.zeroValue114
  t105 := Tryz.underlying160
  a105 := Tryz.isAgg160
  z105 := Tryz.sizeOf160
  v105 := Tryz.zeroValue160
  t119 := Tryz.underlying103
  a119 := Tryz.isAgg103
  z119 := Tryz.sizeOf103
  t138 := Tryz.underlying190
  a138 := Tryz.isAgg190
  z138 := Tryz.sizeOf190
  v138 := Tryz.zeroValue190
  t139 := Tryz.underlying191
  a139 := Tryz.isAgg191
  z139 := Tryz.sizeOf191
  v139 := Tryz.zeroValue191
  t146 := Tryz.underlying173
  a146 := Tryz.isAgg173
  z146 := Tryz.sizeOf173
  v146 := Tryz.zeroValue173
  g1 := by kernel_rfl
  g3 := by kernel_rfl
  g4 := by kernel_rfl
  i0 := by kernel_rfl
  i3 := by kernel_rfl
  i4 := by kernel_rfl
  i5 := by kernel_rfl
  i9 := by kernel_rfl
  i21 := by kernel_rfl
  i31 := by kernel_rfl
  i46 := by kernel_rfl
  i51 := by kernel_rfl
  i105 := by kernel_rfl
  i138 := by kernel_rfl
  i139 := by kernel_rfl
  i146 := by kernel_rfl
  m1 := by kernel_rfl
  s1_3 := fun w h => Go.Proofs.cell_of_shapedOpen_int (zero := #[.int .i64 0]) (t := 3) h (of_decide_eq_true (by kernel_rfl)) (by kernel_rfl) rfl (by kernel_rfl) (by kernel_rfl) Tryz.underlying3
  m3 := by kernel_rfl
  m4 := by kernel_rfl }
end Go.Proofs.YtocpikgcbibcoaaGreatDoor.jl
