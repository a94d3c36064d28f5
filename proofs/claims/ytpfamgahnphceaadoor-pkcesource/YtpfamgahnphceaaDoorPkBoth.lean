import Derived.Test.YtpfamgahnphceaaDoorPkS4
namespace Go.Proofs.YtpfamgahnphceaaDoor.pk
open Go.ChangeShapes Go.WideShapes Go.ChangeAt Go.RowKit Go.Proofs.YtpfamgahnphceaaDoor.common
open Go.Proofs.YtpfamgahnphceaaDoor.errw (Errs E)

/-- what a Fresh answers in the program, in the document, and that both mean the same -/
structure Both (w : World) (n kb kk : Nat) (kind : Int) (L M : Nat → List ByteArray) (sv : Value) (sn : List ByteArray) (e : Nat → Addr) (fv : Value) (x : ByteArray) (ev : Value) (f : Int) (D : List ByteArray) : Prop where
  c1 : ∀ X G H, S4 w X n (some kb) kind G H L M sv sn → Calls Tryd.prog 10 #[ptr (n + kk), fv] X fun a w' => a = .returned (.tuple #[.string x, ev]) ∧ ∃ G', S4 w w' n (some kb) kind G' H (upd L kk D) M sv sn
  c2 : ∀ X G H L', S4 w X n (some kb) kind G H L' M sv sn → Calls Tryd.prog 17 #[ptr (n + 3 + kk), .int .i64 kind, sv] X fun a w' => a = .returned (.tuple #[.string x, .int .i64 f]) ∧ ∃ H', S4 w w' n (some kb) kind G H' L' (upd M kk D) sv sn
  c3 : ∀ X, Errs X e → Calls Tryd.prog 11 #[ev] X fun a w' => a = .returned (.int .i64 f) ∧ w' = X

theorem upd_nil {f : Nat → List ByteArray} {k : Nat} {l : List ByteArray} (h : f k = l) : upd f k l = f := by rw [← h]; exact upd_self f k

theorem both_dry (w : World) (n kb kk : Nat) (hkk : kk < 2) (kind : Int) (L : Nat → List ByteArray) (sv : Value) (sn : List ByteArray) (e : Nat → Addr) (fv : Value) (hL : L kk = []) (hn : n = w.heap.size) (he : Errs w e) : Both w n kb kk kind L L sv sn e fv ⟨#[]⟩ (E e 6) 7 [] := by
  subst hn
  refine ⟨fun X G H h => ?_, fun X G H L' h => ?_, fun X hX => errw.num_6 X e hX⟩
  · have hs := h.src kk hkk
    rw [hL] at hs
    refine (fresh_dry X _ _ fv (e 6) hs ((he.below h.low).cell 6 (by decide))).mono ?_
    rintro a w' ⟨rfl, rfl⟩
    exact ⟨rfl, G, by rw [upd_nil hL]; exact h.drew⟩
  · have hs := h.dsr kk hkk
    rw [hL] at hs
    refine (drawn_dry X _ _ kind sv hs).mono ?_
    rintro a w' ⟨rfl, rfl⟩
    exact ⟨rfl, H, by rw [upd_nil hL]; exact h⟩

/-- the document's side -/
theorem both_doc (w : World) (n kb kk : Nat) (hkk : kk < 2) (kind : Int) (L : Nat → List ByteArray) (sv : Value) (sn : List ByteArray) (d : ByteArray) (D : List ByteArray) (hL : L kk = d :: D) (hd : d.size = 32) (hsn : sn.length ≤ 4611686018427387904) :
    ∀ X G H L', S4 w X n (some kb) kind G H L' L sv sn → Calls Tryd.prog 17 #[ptr (n + 3 + kk), .int .i64 kind, sv] X fun a w' => a = .returned (.tuple #[.string (dA (tk kind sn (idn d.data.toList)) (idn d.data.toList)), .int .i64 (dF (tk kind sn (idn d.data.toList)))]) ∧ ∃ H', S4 w w' n (some kb) kind G H' L' (upd L kk D) sv sn := by
  intro X G H L' h
  have hs := h.dsr kk hkk
  rw [hL] at hs
  refine (drawn_any X _ _ kind sv sn d D hd hs (fun W hW => ?_) hsn).mono ?_
  · obtain ⟨H', h2⟩ := h.dtake kk hkk D hW
    exact ss.lies_of_own h2.row
  · rintro a w' ⟨rfl, hW⟩
    exact ⟨rfl, h.dtake kk hkk D hW⟩

theorem both_num (e : Nat → Addr) (t : Bool) : ∀ X, Errs X e → Calls Tryd.prog 11 #[if t then E e 7 else .nilIface] X fun a w' => a = .returned (.int .i64 (dF t)) ∧ w' = X := by
  intro X hX
  cases t with
  | true => exact errw.num_7 X e hX
  | false => exact errw.num_nil X

theorem both_nil (w : World) (n kb kk : Nat) (hkk : kk < 2) (kind : Int) (L : Nat → List ByteArray) (sv : Value) (sn : List ByteArray) (e : Nat → Addr) (d : ByteArray) (D : List ByteArray) (hL : L kk = d :: D) (hd : d.size = 32) (hn : n = w.heap.size) (hu : radw.UrlTab w) (hsn : sn.length ≤ 4611686018427387904) (ht : tk kind sn (idn d.data.toList) = false) :
    Both w n kb kk kind L L sv sn e .nilFunc (idn d.data.toList) .nilIface 0 D := by
  subst hn
  have hug : 13 < w.heap.size := hu.lt (by decide)
  refine ⟨fun X G H h => ?_, ?_, fun X _ => errw.num_nil X⟩
  · have hs := h.src kk hkk
    rw [hL] at hs
    refine (fresh_nil X _ _ d.data.toList (rawL D) hs (hu.below h.low hug) (by omega)).mono ?_
    rintro a w' ⟨rfl, hW⟩
    exact ⟨rfl, h.take kk hkk D hW⟩
  · have := both_doc w w.heap.size kb kk hkk kind L sv sn d D hL hd hsn
    rw [ht] at this
    exact this

theorem both_fn (w : World) (n kb kk : Nat) (hkk : kk < 2) (kind : Int) (L : Nat → List ByteArray) (sv : Value) (sn : List ByteArray) (e : Nat → Addr) (d : ByteArray) (D : List ByteArray) (hL : L kk = d :: D) (hd : d.size = 32) (hn : n = w.heap.size) (hu : radw.UrlTab w) (he : Errs w e) (hsn : sn.length ≤ 4611686018427387904) :
    Both w n kb kk kind L L sv sn e (.func (.func 15) #[] #[ptr kb, ptr (n + 6)]) (dA (tk kind sn (idn d.data.toList)) (idn d.data.toList)) (if tk kind sn (idn d.data.toList) then E e 7 else .nilIface) (dF (tk kind sn (idn d.data.toList))) D := by
  subst hn
  have hug : 13 < w.heap.size := hu.lt (by decide)
  refine ⟨fun X G H h => ?_, both_doc w w.heap.size kb kk hkk kind L sv sn d D hL hd hsn, both_num e _⟩
  have hs := h.src kk hkk
  rw [hL] at hs
  refine (fresh_fn X _ _ d.data.toList (rawL D) hs (hu.below h.low hug) (by omega) _ _ (tk kind sn (idn d.data.toList)) (e 7) (fun W => TkOut (w.heap.size + kk) (G kk) (rawL D) X W) says_enters (fun W hW => ?_) (fun W hW => ?_)).mono ?_
  · obtain ⟨G', h2⟩ := h.take kk hkk D hW
    exact (he.below h2.low).cell 7 (by decide)
  · obtain ⟨G', h2⟩ := h.take kk hkk D hW
    refine (says_any W (idn d.data.toList) kb (w.heap.size + 6) kind sv sn (h2.kc kb rfl).2 h2.sen (ss.lies_of_own h2.row) hsn).mono ?_
    rintro a w' ⟨rfl, rfl⟩
    exact ⟨rfl, hW⟩
  · rintro a w' hout
    rcases hout with ⟨ht, rfl, W, hW, rfl⟩ | ⟨ht, rfl, hW⟩
    · rw [ht]
      obtain ⟨G', h2⟩ := h.take kk hkk D hW
      exact ⟨rfl, G', h2.drew⟩
    · rw [ht]
      exact ⟨rfl, h.take kk hkk D hW⟩

/-- what a Push answers -/
structure Pushes (w : World) (n kb kk : Nat) (kind : Int) (L : Nat → List ByteArray) (sv : Value) (sn : List ByteArray) (e : Nat → Addr) (s : ByteArray) (ev : Value) (f : Int) (D : List ByteArray) : Prop where
  c1 : ∀ X G H, S4 w X n (some kb) kind G H L L sv sn → Calls Tryd.prog 6 #[ptr (n + kk), .string s] X fun a w' => a = .returned ev ∧ ∃ G', S4 w w' n (some kb) kind G' H (upd L kk D) L sv sn
  c2 : ∀ X G H L', S4 w X n (some kb) kind G H L' L sv sn → Calls Tryd.prog 14 #[ptr (n + 3 + kk), .string s] X fun a w' => a = .returned (.int .i64 f) ∧ ∃ H', S4 w w' n (some kb) kind G H' L' (upd L kk D) sv sn
  c3 : ∀ X, Errs X e → Calls Tryd.prog 11 #[ev] X fun a w' => a = .returned (.int .i64 f) ∧ w' = X
theorem raw_len (l : List ByteArray) : (rawL l).length = l.length := by simp [rawL]
theorem pushes_any (w : World) (n kb kk : Nat) (hkk : kk < 2) (kind : Int) (L : Nat → List ByteArray) (sv : Value) (sn : List ByteArray) (e : Nat → Addr) (s : ByteArray) (hn : n = w.heap.size) (he : Errs w e) : ∃ ev f D, Pushes w n kb kk kind L sv sn e s ev f D := by
  subst hn
  by_cases h32 : s.size = 32
  · by_cases h24 : (L kk).length < 1024
    · refine ⟨.nilIface, 0, L kk ++ [s], fun X G H h => ?_, fun X G H L' h => ?_, fun X _ => errw.num_nil X⟩
      · refine (push_good X _ _ _ s h32 (by rw [raw_len]; exact h24) (h.src kk hkk)).mono ?_
        rintro a w' ⟨rfl, hp⟩
        rw [← raw_snoc] at hp
        exact ⟨rfl, h.push kk hkk _ hp⟩
      · refine (dpush_good X _ _ _ s h32 h24 (h.dsr kk hkk)).mono ?_
        rintro a w' ⟨rfl, hp⟩
        exact ⟨rfl, h.dpush kk hkk _ hp⟩
    · refine ⟨E e 2, 3, L kk, fun X G H h => ?_, fun X G H L' h => ?_, fun X hX => errw.num_2 X e hX⟩
      · refine (push_many X _ _ _ s (e 2) h32 (by rw [raw_len]; omega) (h.src kk hkk) ((he.below h.low).cell 2 (by decide))).mono ?_
        rintro a w' ⟨rfl, rfl⟩
        exact ⟨rfl, G, by rw [upd_self]; exact h⟩
      · refine (dpush_many X _ _ _ s h32 (by omega) (h.dsr kk hkk)).mono ?_
        rintro a w' ⟨rfl, rfl⟩
        exact ⟨rfl, H, by rw [upd_self]; exact h⟩
  · refine ⟨E e 0, 1, L kk, fun X G H h => ?_, fun X G H L' h => ?_, fun X hX => errw.num_0 X e hX⟩
    · refine (push_size X _ s (e 0) h32 ((he.below h.low).cell 0 (by decide))).mono ?_
      rintro a w' ⟨rfl, rfl⟩
      exact ⟨rfl, G, by rw [upd_self]; exact h⟩
    · refine (dpush_size X _ s h32).mono ?_
      rintro a w' ⟨rfl, rfl⟩
      exact ⟨rfl, H, by rw [upd_self]; exact h⟩

end Go.Proofs.YtpfamgahnphceaaDoor.pk
