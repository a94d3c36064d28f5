import Derived.RangeFuncNested
import Derived.RangeFuncBound
import Derived.RangeFuncCalls
import Derived.RangeFuncLeaves
import Derived.RangeFuncBox
import Derived.Below
import Derived.Test.YtilhfmhjgfmejaaGreatDoorMByteKit
import Derived.Lib.Bytealg
import Derived.Laws.Externs
import Derived.WalkKit
namespace Go.Proofs.YtilhfmhjgfmejaaGreatDoor.rgr
open Go.RowKit

variable {F : Fence} {n : Nat} {P : Program}

theorem set_heap_other (W : World) (b k : Nat) (v : Value) (h : k ≠ b) : (W.setCell ⟨b, 0, none⟩ v).heap[k]? = W.heap[k]? := by
  by_cases hk : k < W.heap.size
  · exact (grownBy_setCell' W b v).block k hk (fun e => h (by cases e; rfl))
  · have hs := (grownBy_setCell' W b v).size
    have hs2 : (W.setCell ⟨b, 0, none⟩ v).heap.size = W.heap.size := by
      unfold World.setCell; simp
    rw [Array.getElem?_eq_none (by omega), Array.getElem?_eq_none (by omega)]

/-- how a round may be left: off its end, with the boxes of the iterator kept; or by a return -/
def post {α : Type} (Kp : World → World → Prop) (I : List α → World → Prop) (Ix : List α → World → Prop) (xs : List α) (W : World) : Exit → Act → World → Prop
  | .normal, _, W' => KeepsOthers W W' ∧ Kp W W' ∧ I xs W'
  | .ret, _, W' => KeepsOthers W W' ∧ Ix xs W'
  | _, _, _ => False

/-- an iterator that keeps what is left in a box of its own (block b) and hands it on round by round -/
def Seq {α : Type} (F : Fence) (n : Nat) (P : Program) (gf : Nat) (lb : Array Value) (enc : α → Array Value) (b : Nat) (Kp : World → World → Prop) (S Sp : List α → Prop) (W : World) : Prop :=
  ∀ (l : Nat) (J Jx : List α → World → Prop) (W1 : World), Kp W W1 →
    (∀ pre A v, J pre A → J pre (A.setCell ⟨b, 0, none⟩ v)) → (∀ pre A, J pre A → J pre A.drew) → (∀ pre A v, Jx pre A → Jx pre (A.setCell ⟨b, 0, none⟩ v)) → (∀ pre A, Jx pre A → Jx pre A.drew) →
    (∀ pre x A, J pre A → YieldAt F (n - 1) P l (enc x) A fun e A' => (e = .returned (.bool true) ∧ J (pre ++ [x]) A' ∧ Kp A A') ∨ (e = .returned (.bool false) ∧ Jx (pre ++ [x]) A')) →
    J [] W1 →
    CallsIn F n P gf (#[.func (.yield l) #[] #[]] ++ lb) W1 fun e W' => (∃ v, e = .returned v) ∧ ((∃ xs, S xs ∧ J xs W') ∨ (∃ pre, Sp pre ∧ Jx pre W'))

/-- what a statement about the caller's own cells must abide: new blocks and turns of the loop's own records, a store into the iterator's box, a draw -/
structure Abides {α : Type} (N b : Nat) (I : List α → World → Prop) : Prop where
  put : ∀ pre A l o o', I pre A → N ≤ l → A.heap[l]? = some o → o.isCells = false → I pre (A.putObj l o')
  alloc : ∀ pre A o, I pre A → I pre (A.alloc o)
  set : ∀ pre A v, I pre A → I pre (A.setCell ⟨b, 0, none⟩ v)
  drew : ∀ pre A, I pre A → I pre A.drew

/-- A RANGE OVER AN ITERATOR WITH A BOX OF ITS OWN -/
theorem range_law {α : Type} {g : Operand} {ps : Array Tmp} {assign body : Code} {Q : Exit → Act → World → Prop} {a : Act} {w : World}
    (hro : F.round = none) (h1 : 1 ≤ n) {gf : Nat} {lb : Array Value} (hg : a.eval g = .func (.func gf) #[] lb) (hFg : F.fn gf) (eg : ∀ args w, (callFunc gf args).run P w = .ok (.enter gf args) w)
    {enc : α → Array Value} (hps : ∀ x, (enc x).size = ps.size) {b : Nat} (hb : b < w.heap.size) {Kp : World → World → Prop} {S Sp : List α → Prop} (hseq : Seq F (n - 1) P gf lb enc b Kp S Sp w)
    (hKt : ∀ {A B C : World}, Kp A B → Kp B C → Kp A C) (hKput : ∀ (A : World) l o, w.heap.size ≤ l → Kp A (A.putObj l o)) (hKnew : ∀ o o', Kp w ((w.alloc o).alloc o'))
    (I : List α → World → Prop) (Ix : List α → World → Prop) (hI : Abides w.heap.size b I) (hIx : Abides w.heap.size b Ix) (h0 : I [] w) (a₁ : α → Act)
    (hassign : ∀ (l : Nat) (x : α) (W : World) (K : Act → World → Prop), K (a₁ x) W →
      assign.wpIn (F.inRound l) (n - 1 - 1) P (Exit.then K (fun _ _ _ => False)) { tmps := (ps.zip (enc x)).foldl (fun t (p, v) => t.setIfInBounds p v) a.tmps, defers := [] } W)
    (hbody : ∀ (l : Nat) (pre : List α) (x : α) (W : World), I pre W → body.wpIn (F.inRound l) (n - 1 - 1) P (post Kp I Ix (pre ++ [x]) W) (a₁ x) W)
    (hdone : ∀ (D : Nat) (xs : List α) (W : World), w.heap.size ≤ D → S xs → I xs W → W.heap[D]? = some (.deferred (some [])) → Q .normal { a with defers := { target := .collected D, args := #[] } :: a.defers } W)
    (hstop : ∀ (D : Nat) (pre : List α) (W : World), w.heap.size ≤ D → Sp pre → Ix pre W → W.heap[D]? = some (.deferred (some [])) → Code.ret.wpIn F n P Q { a with defers := { target := .collected D, args := #[] } :: a.defers } W) :
    (Code.rangeFunc g ps assign body).wpIn F n P Q a w := by
  refine wpIn_rangeFunc fun fn hfn => ?_
  rw [hro]
  -- the record, as it lies between two rounds and when a round has broken off
  let rec' : LoopState → Option Code → Loop := fun st pe => { state := st, pending := pe, fn := fn, tmps := a.tmps, params := ps, assign := assign, body := body, defers := w.heap.size }
  let N := w.heap.size
  let W1 := (w.alloc (.deferred (some []))).alloc (.loop (rec' .ready none))
  have hL1 : W1.heap[N + 1]? = some (.loop (rec' .ready none)) := by
    have := World.alloc_heap_new (w.alloc (.deferred (some []))) (.loop (rec' .ready none))
    rwa [World.size_alloc] at this
  have hD1 : W1.heap[N]? = some (.deferred (some [])) := (Below.heap_alloc _ _ _ (by simp [N])).trans (World.alloc_heap_new w _)
  refine ⟨N + 1, [{ target := .collected N, args := #[] }], W1, { target := .fn (.func gf) lb, args := #[.func (.yield (N + 1)) #[] #[]] }, W1, gf, #[.func (.yield (N + 1)) #[] #[]] ++ lb, W1,
    run_enterLoop_outer _ _ _ _ _, by simp only [resolve, hg]; simp [go_sem], fun f' hf' => by simp [Target.leads] at hf'; subst hf'; exact hFg, by simp [invoke, go_sem, eg], fun _ => h1, ?_⟩
  have neb : N ≠ b ∧ N + 1 ≠ b := ⟨by show w.heap.size ≠ b; omega, by show w.heap.size + 1 ≠ b; omega⟩
  let J : List α → World → Prop := fun pre A => I pre A ∧ A.heap[N + 1]? = some (.loop (rec' .ready none)) ∧ A.heap[N]? = some (.deferred (some []))
  let Jx : List α → World → Prop := fun pre A => Ix pre A ∧ A.heap[N + 1]? = some (.loop (rec' .done (some .ret))) ∧ A.heap[N]? = some (.deferred (some []))
  refine (hseq (N + 1) J Jx W1 (hKnew _ _)
    (fun pre A v h => ⟨hI.set pre A v h.1, (set_heap_other A b _ v neb.2).trans h.2.1, (set_heap_other A b _ v neb.1).trans h.2.2⟩)
    (fun pre A h => ⟨hI.drew pre A h.1, h.2.1, h.2.2⟩)
    (fun pre A v h => by obtain ⟨h1, h2, h3⟩ := h; exact ⟨hIx.set pre A v h1, (set_heap_other A b _ v neb.2).trans h2, (set_heap_other A b _ v neb.1).trans h3⟩)
    (fun pre A h => by obtain ⟨h1, h2, h3⟩ := h; exact ⟨hIx.drew pre A h1, h2, h3⟩) ?_ ⟨hI.alloc _ _ _ (hI.alloc _ _ _ h0), hL1, hD1⟩).mono ?_
  · -- one round
    rintro pre x A ⟨hi, hl, hd⟩
    have hlt : N + 1 < A.heap.size := (Array.getElem?_eq_some_iff.1 hl).1
    refine ⟨fn, _, assign, body, run_yield (P := P) (args := enc x) hl (hps x), roundIn_of_wpIn hfn (hassign _ x A _ ⟨_, run_beginRound hl rfl, ?_⟩)⟩
    have hl2 : (A.putObj (N + 1) (.loop { rec' .ready none with state := .busy })).heap[N + 1]? = some (.loop { rec' .ready none with state := .busy }) := World.putObj_heap_same hlt
    have hd2 : (A.putObj (N + 1) (.loop { rec' .ready none with state := .busy })).heap[N]? = some (.deferred (some [])) := (World.putObj_heap_other (by omega)).trans hd
    refine wpIn_mono (hbody _ pre x _ (hI.put _ _ _ _ _ hi (by omega) hl rfl)) ?_
    rintro e a3 A3 hp
    cases e with
    | normal =>
      obtain ⟨hk, hkp, hi3⟩ := hp
      have hl3 := hk.same _ _ hl2 rfl
      have hd3 := hk.same _ _ hd2 rfl
      exact ⟨_, _, run_endRound none hl3, .inl ⟨rfl, ⟨hI.put _ _ _ _ _ hi3 (by omega) hl3 rfl, World.putObj_heap_same (Array.getElem?_eq_some_iff.1 hl3).1, (World.putObj_heap_other (by omega)).trans hd3⟩, hKt (hKt (hKput _ _ _ (by omega)) hkp) (hKput _ _ _ (by omega))⟩⟩
    | exit id => exact hp.elim
    | ret =>
      obtain ⟨hk, hi3⟩ := hp
      have hl3 := hk.same _ _ hl2 rfl
      have hd3 := hk.same _ _ hd2 rfl
      exact ⟨_, _, run_endRound (some .ret) hl3, .inr ⟨rfl, hIx.put _ _ _ _ _ hi3 (by omega) hl3 rfl, World.putObj_heap_same (Array.getElem?_eq_some_iff.1 hl3).1, (World.putObj_heap_other (by omega)).trans hd3⟩⟩
    | goto t => exact hp.elim
    | panic ch => exact hp.elim
    | outgrown => exact hp.elim
  · -- behind the iterator
    rintro e W2 ⟨⟨v, rfl⟩, (⟨xs, hS, hi, hl, hd⟩ | ⟨pre, hSp, hi, hl, hd⟩)⟩
    · exact ⟨none, _, run_endLoop hl (by simp [rec']), hdone N xs _ (Nat.le_refl _) hS (hI.put _ _ _ _ _ hi (by omega) hl rfl) ((World.putObj_heap_other (by omega)).trans hd)⟩
    · exact ⟨some .ret, _, run_endLoop hl (by simp [rec']), hstop N pre _ (Nat.le_refl _) hSp (hIx.put _ _ _ _ _ hi (by omega) hl rfl) ((World.putObj_heap_other (by omega)).trans hd)⟩

end Go.Proofs.YtilhfmhjgfmejaaGreatDoor.rgr

namespace Go.Proofs.YtilhfmhjgfmejaaGreatDoor.fd
open Go.ChangeShapes Go.WideShapes Go.ChangeAt Go.RowKit Go.Proofs.YtilhfmhjgfmejaaGreatDoor.common Go.Proofs.YtilhfmhjgfmejaaGreatDoor.bk
attribute [local go_sem ↓] Go.wp_at_zero Go.wp_at_succ

theorem ext_take (s : ByteArray) (i : Nat) : s.extract 0 i = ⟨(s.data.toList.take i).toArray⟩ := by
  apply ba_ext; simp
theorem ext_drop (s : ByteArray) (i : Nat) : s.extract i s.size = ⟨(s.data.toList.drop i).toArray⟩ := by
  apply ba_ext
  have h : s.data.toList.length = s.size := by simp
  simp
  exact List.take_of_length_le (by rw [List.length_drop, h]; exact Nat.le_refl _)

/-- where a byte first stands -/
theorem index_cases (c : UInt8) (l : List UInt8) : (Lib.indexByte l c = -1 ∧ ∀ x ∈ l, x ≠ c) ∨ ∃ i : Nat, Lib.indexByte l c = (i : Int) ∧ i < l.length ∧ l = l.take i ++ c :: l.drop (i + 1) ∧ ∀ x ∈ l.take i, x ≠ c := by
  induction l with
  | nil => exact Or.inl ⟨rfl, fun x h => by cases h⟩
  | cons b r ih =>
    by_cases hb : b = c
    · subst hb
      exact Or.inr ⟨0, by simp [Lib.indexByte], by simp, by simp, fun x h => by simp at h⟩
    · have e : Lib.indexByte (b :: r) c = if Lib.indexByte r c == -1 then -1 else Lib.indexByte r c + 1 := by
        rw [Lib.indexByte, if_neg (by simpa using hb)]
      rcases ih with ⟨h1, h2⟩ | ⟨i, h1, h2, h3, h4⟩
      · refine Or.inl ⟨by rw [e, h1]; rfl, fun x hx => ?_⟩
        rcases List.mem_cons.1 hx with rfl | hx
        · exact hb
        · exact h2 x hx
      · refine Or.inr ⟨i + 1, ?_, by simpa using h2, ?_, ?_⟩
        · rw [e, h1, if_neg (by simp)]; rfl
        · show b :: r = b :: (r.take i ++ c :: r.drop (i + 1))
          rw [← h3]
        · intro x hx
          rw [List.take_succ_cons] at hx
          rcases List.mem_cons.1 hx with rfl | hx
          · exact hb
          · exact h4 x hx

set_option maxRecDepth 100000 in
theorem indexByte_any (s : ByteArray) (c : UInt8) (w : World) :
    Calls Tryz.prog 174 #[.string s, B c] w fun e w' => e = .returned (.int .i64 (Lib.indexByte s.data.toList c)) ∧ w' = w := by
  go_enter Tryz.func174, Tryz.ntmps174
  go_wp2_with fail
  rw [run_callFunc_extern Tryz.func190 (by kernel_rfl) (by kernel_rfl) (by kernel_rfl) (e := Extern.BytealgIndexByte.indexByte) (by kernel_rfl), Lib.run_indexByteString]
  have e : ((c.toNat : Int)).toNat.toUInt8 = c := by simp
  rw [e]
  simp only [Result.andThen]
  rw [Oper.upon_value]
  go_wp2
  go_ret
  exact ⟨rfl, rfl⟩

set_option maxRecDepth 100000 in
set_option maxHeartbeats 800000 in
theorem indexLite_any (s : ByteArray) (c : UInt8) (w : World) :
    Calls Tryz.prog 148 #[.string s, .string ⟨#[c]⟩] w fun e w' => e = .returned (.int .i64 (Lib.indexByte s.data.toList c)) ∧ w' = w := by
  by_cases hc : s = ⟨#[c]⟩
  · have H0 : Hid (Lib.indexByte s.data.toList c = 0) := by show _ = _; rw [hc]; simp [Lib.indexByte]
    have he : (([c] : List UInt8) == s.toList) = true := by rw [hc, ByteArray.toList_eq]; simp
    clear hc
    go_enter Tryz.func148, Tryz.ntmps148
    go_wp2_with fail
    go_ret
    exact ⟨by rw [H0.out]; rfl, rfl⟩
  · have he : (([c] : List UInt8) == s.toList) = false := beq_false_of_ne (fun e => hc (ba_ext (by rw [ByteArray.toList_eq] at e; rw [← e])))
    clear hc
    go_enter Tryz.func148, Tryz.ntmps148
    go_wp2_with (go_at_call 174; refine (indexByte_any s c _).mono ?_; rintro e w' ⟨rfl, rfl⟩)
    go_ret
    exact ⟨rfl, rfl⟩

/-- a text cut at a byte's first place -/
def before (c : UInt8) (l : List UInt8) : List UInt8 := l.takeWhile fun x => decide (x ≠ c)
def behind (c : UInt8) (l : List UInt8) : List UInt8 := (l.dropWhile fun x => decide (x ≠ c)).tail
theorem tw_all {p : UInt8 → Bool} {l : List UInt8} (h : ∀ x ∈ l, p x = true) : l.takeWhile p = l ∧ l.dropWhile p = [] := by
  induction l with
  | nil => exact ⟨rfl, rfl⟩
  | cons a r ih =>
    have ha := h a (by simp)
    have := ih fun x hx => h x (by simp [hx])
    simp [ha, this.1, this.2]
theorem cut_no {c : UInt8} {l : List UInt8} (h : ∀ x ∈ l, x ≠ c) : before c l = l ∧ behind c l = [] ∧ l.contains c = false := by
  have ht := tw_all (p := fun x => decide (x ≠ c)) (l := l) fun x hx => decide_eq_true (h x hx)
  refine ⟨ht.1, ?_, ?_⟩
  · unfold behind
    rw [ht.2]; rfl
  · rw [Bool.eq_false_iff]
    intro hc
    exact h c (List.contains_iff_mem.1 hc) rfl
theorem cut_at {c : UInt8} {m r : List UInt8} (h : ∀ x ∈ m, x ≠ c) : before c (m ++ c :: r) = m ∧ behind c (m ++ c :: r) = r ∧ (m ++ c :: r).contains c = true := by
  have h1 : ∀ x ∈ m, (fun x => decide (x ≠ c)) x = true := fun x hx => decide_eq_true (h x hx)
  refine ⟨?_, ?_, by simp⟩
  · unfold before
    rw [List.takeWhile_append_of_pos h1]
    simp
  · unfold behind
    rw [List.dropWhile_append_of_pos h1]
    simp

set_option maxRecDepth 100000 in
set_option maxHeartbeats 800000 in
theorem cutLite_any (s : ByteArray) (c : UInt8) (w : World) (hs : s.size ≤ 4611686018427387904) :
    Calls Tryz.prog 130 #[.string s, .string ⟨#[c]⟩] w fun e w' => e = .returned (.tuple #[S (before c s.data.toList), S (behind c s.data.toList), .bool (s.data.toList.contains c)]) ∧ Below w.heap.size w w' := by
  rcases index_cases c s.data.toList with ⟨h1, h2⟩ | ⟨i, h1, h2, h3, h4⟩
  · obtain ⟨a1, a2, a3⟩ := cut_no h2
    rw [a1, a2, a3]
    have HI := hide (fun W => indexLite_any s c W)
    rw [h1] at HI
    clear h1 h2 a1 a2 a3
    go_enter Tryz.func130, Tryz.ntmps130
    go_wp2_with (go_at_call 148; refine (HI.out _).mono ?_; rintro e w' ⟨rfl, rfl⟩)
    refine bodyPost_ret (results_tmp3 rfl _ _ _) rfl ⟨?_, Below.refl _ _⟩
    rfl
  · have HI := hide (fun W => indexLite_any s c W)
    rw [h1] at HI
    rw [len_list] at h2
    obtain ⟨a1, a2, a3⟩ := cut_at (r := s.data.toList.drop (i + 1)) h4
    rw [← h3] at a1 a2 a3
    rw [a1, a2, a3]
    clear h1 h3 h4 a1 a2 a3
    go_enter Tryz.func130, Tryz.ntmps130
    go_wp2_with (go_at_call 148; refine (HI.out _).mono ?_; rintro e w' ⟨rfl, rfl⟩)
    have k0 : (0 : Int) ≤ (i : Int) := Int.natCast_nonneg _
    have k1 : (i : Int) ≤ (s.size : Int) := by omega
    have k2 : (i : Int) + 1 ≤ (s.size : Int) := by omega
    have k3 : (0 : Int) ≤ (i : Int) + 1 := by omega
    have k4 : ((i : Int) + 1).toNat = i + 1 := by omega
    have ww : IntKind.i64.wrap ((i : Int) + 1) = (i : Int) + 1 := wrap_le _ (by omega) (by omega)
    have HX1 : Hid (Value.string (s.extract 0 i) = S (s.data.toList.take i)) := by show _ = _; exact congrArg Value.string (ext_take s i)
    have HX2 : Hid (Value.string (s.extract (i + 1) s.size) = S (s.data.toList.drop (i + 1))) := by show _ = _; exact congrArg Value.string (ext_drop s (i + 1))
    go_region
    all_goals
      go_wp2_with fail
      refine bodyPost_ret (results_tmp3 rfl _ _ _) rfl ⟨?_, (Below.refl _ _).drew⟩
      rw [← HX1.out, ← HX2.out]
      rfl

set_option maxRecDepth 100000 in
theorem cut_any (s : ByteArray) (c : UInt8) (w : World) (hs : s.size ≤ 4611686018427387904) :
    Calls Tryz.prog 110 #[.string s, .string ⟨#[c]⟩] w fun e w' => e = .returned (.tuple #[S (before c s.data.toList), S (behind c s.data.toList), .bool (s.data.toList.contains c)]) ∧ Below w.heap.size w w' := by
  have HC := hide (cutLite_any s c w hs)
  generalize s.data.toList.contains c = f at *
  go_enter Tryz.func110, Tryz.ntmps110
  go_wp2_with fail
  refine HC.out.mono ?_
  rintro e w' ⟨rfl, hb⟩
  have HB := hide hb
  clear hb
  go_wp2_with fail
  refine bodyPost_ret (results_tmp3 rfl _ _ _) rfl ⟨rfl, HB.out⟩

end Go.Proofs.YtilhfmhjgfmejaaGreatDoor.fd

namespace Go.Proofs.YtilhfmhjgfmejaaGreatDoor.Tm

/-- what stands between the bytes c -/
def split (c : UInt8) : List UInt8 → List (List UInt8)
  | [] => [[]]
  | b :: r => if b = c then [] :: split c r else match split c r with
    | h :: t => (b :: h) :: t
    | [] => [[b]]
theorem split_ne (c : UInt8) (l : List UInt8) : split c l ≠ [] := by
  cases l with
  | nil => simp [split]
  | cons b r =>
    unfold split
    split
    · simp
    · cases split c r <;> simp
theorem split_one (c : UInt8) : ∀ l : List UInt8, (∀ x ∈ l, x ≠ c) → split c l = [l]
  | [], _ => rfl
  | b :: r, h => by
    have h1 : b ≠ c := h b (List.mem_cons_self ..)
    have h2 := split_one c r fun x hx => h x (List.mem_cons_of_mem _ hx)
    rw [split, if_neg h1, h2]
theorem split_at (c : UInt8) : ∀ (l r : List UInt8), (∀ x ∈ l, x ≠ c) → split c (l ++ c :: r) = l :: split c r
  | [], r, _ => by rw [List.nil_append, split, if_pos rfl]
  | b :: l, r, h => by
    have h1 : b ≠ c := h b (List.mem_cons_self ..)
    have h2 := split_at c l r fun x hx => h x (List.mem_cons_of_mem _ hx)
    rw [List.cons_append, split, if_neg h1, h2]
end Go.Proofs.YtilhfmhjgfmejaaGreatDoor.Tm
