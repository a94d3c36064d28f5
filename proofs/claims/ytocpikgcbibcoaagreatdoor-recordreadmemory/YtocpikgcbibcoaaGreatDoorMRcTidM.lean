import Derived.Test.YtocpikgcbibcoaaGreatDoorMRcWk
import Derived.Test.YtocpikgcbibcoaaGreatDoorMShaWords
import Derived.Test.YtocpikgcbibcoaaGreatDoorMRefPlan
import Derived.Test.YtocpikgcbibcoaaGreatDoorMRefDigest
import Derived.Test.YtocpikgcbibcoaaGreatDoorMTmNames
import Derived.Deep.RegionHeld3
namespace Go.Proofs.YtocpikgcbibcoaaGreatDoor.pk
open Go.ChangeShapes Go.WideShapes Go.ChangeAt Go.RowKit Go.Proofs.YtocpikgcbibcoaaGreatDoor.common

/-- the challenge of a text -/
def ch (s : ByteArray) : ByteArray := ⟨(Rad.b64 Rad.urlT (Sha.digest s.data.toList)).toArray⟩
theorem digest_len (l : List UInt8) : (Sha.digest l).length = 32 := by unfold Sha.digest Sha.bytes; rfl
theorem ch_list (s : ByteArray) : (ch s).data.toList = Rad.b64 Rad.urlT (Sha.digest s.data.toList) := by unfold ch; simp
theorem ch_proof (s : ByteArray) : Pk.proof (ch s).data.toList = true := by rw [ch_list]; exact Pk.b64_proof _ (digest_len _)
theorem ba_size (l : List UInt8) : (⟨l.toArray⟩ : ByteArray).size = l.length := by show l.toArray.size = _; simp

/-- what lies in the variables -/
structure Env (w : World) : Prop where
  rw : shaw.RW w
  fw : shaw.FW w
  url : radw.UrlTab w
theorem Env.below {w w' : World} (h : Env w) (hb : Below w.heap.size w w') : Env w' := ⟨h.rw.below hb h.rw.lt, h.fw.below hb h.fw.lt, h.url.below hb (h.url.lt (by decide))⟩
theorem s256_any (s : ByteArray) (w : World) (hs : s.size ≤ 562949953421312) (he : Env w) :
    Calls Tryz.prog 36 #[.string s] w fun e w' => e = .returned (.string (ch s)) ∧ Below w.heap.size w w' := by
  have H1 := hide (shaw.sha_any s w hs he.rw he.fw)
  have H2 : Hid (∀ W, Below w.heap.size w W → Calls Tryz.prog 50 #[.string ⟨(Sha.digest s.data.toList).toArray⟩] W fun e w' => e = .returned (.string (ch s)) ∧ Below W.heap.size W w') := fun W hW =>
    radw.url_any _ W (by rw [ba_size, digest_len]; decide) (he.below hW).url
  clear he hs
  generalize ch s = C at *
  generalize (⟨(Sha.digest s.data.toList).toArray⟩ : ByteArray) = D at *
  go_enter Tryz.func36, Tryz.ntmps36
  go_wp2_with fail
  refine H1.out.mono ?_
  rintro x w1 ⟨rfl, h1⟩
  have B1 := hide h1
  clear h1
  go_wp2_with fail
  refine (H2.out _ B1.out).mono ?_
  rintro x w2 ⟨rfl, h2⟩
  have B2 := hide (B1.out.trans (h2.mono B1.out.size))
  clear h2
  go_wp2
  go_ret
  exact ⟨rfl, B2.out⟩

end Go.Proofs.YtocpikgcbibcoaaGreatDoor.pk

namespace Go.Proofs.YtocpikgcbibcoaaGreatDoor.rc
open Go.ChangeShapes Go.WideShapes Go.ChangeAt Go.RowKit Go.Proofs.YtocpikgcbibcoaaGreatDoor.common Go.Proofs.YtocpikgcbibcoaaGreatDoor.dk

theorem idOf_any (s : ByteArray) (w : World) (hs : s.size ≤ 562949953421312) (he : pk.Env w) :
    Calls Tryz.prog 32 #[.string s] w fun e w' => e = .returned (.string (pk.ch s)) ∧ Below w.heap.size w w' := by
  have H1 := hide (shaw.sha_any s w hs he.rw he.fw)
  have H2 : Hid (∀ W, Below w.heap.size w W → Calls Tryz.prog 50 #[.string ⟨(Sha.digest s.data.toList).toArray⟩] W fun e w' => e = .returned (.string (pk.ch s)) ∧ Below W.heap.size W w') := fun W hW =>
    radw.url_any _ W (by rw [pk.ba_size, pk.digest_len]; decide) (he.below hW).url
  clear he hs
  generalize pk.ch s = C at *
  generalize (⟨(Sha.digest s.data.toList).toArray⟩ : ByteArray) = D at *
  go_enter Tryz.func32, Tryz.ntmps32
  go_wp2_with fail
  refine H1.out.mono ?_
  rintro x w1 ⟨rfl, h1⟩
  have B1 := hide h1
  clear h1
  go_wp2_with fail
  refine (H2.out _ B1.out).mono ?_
  rintro x w2 ⟨rfl, h2⟩
  have B2 := hide (B1.out.trans (h2.mono B1.out.size))
  clear h2
  go_wp2
  go_ret
  exact ⟨rfl, B2.out⟩
/-- what idOf makes is an identifier -/
theorem idB_ch (s : ByteArray) : idB (pk.ch s) = true := idB_b64 _ (pk.digest_len _)
end Go.Proofs.YtocpikgcbibcoaaGreatDoor.rc

namespace Go.Proofs.YtocpikgcbibcoaaGreatDoor.rc
open Go.ChangeShapes Go.WideShapes Go.ChangeAt Go.RowKit Go.Proofs.YtocpikgcbibcoaaGreatDoor.common Go.Proofs.YtocpikgcbibcoaaGreatDoor.dk
attribute [local go_sem ↓] Go.wp_at_zero Go.wp_at_succ

/-- the scopes that tidy makes of texts -/
def scT1 (i : Nat) (s : ByteArray) : ByteArray := ⟨(UInt8.ofNat (98 + i) :: kpL s.data.toList 33 126 34 92 31).toArray⟩
def scT (l : List ByteArray) : List ByteArray := (⟨#[97]⟩ : ByteArray) :: (l.take 15).mapIdx scT1
theorem scT_len (l : List ByteArray) : (scT l).length = min 15 l.length + 1 := by unfold scT; simp
theorem scT_snoc (l : List ByteArray) (k : Nat) (h : k < l.length) (h15 : k < 15) : scT (l.take (k + 1)) = scT (l.take k) ++ [scT1 k l[k]] := by
  unfold scT
  rw [List.take_take, List.take_take, Nat.min_eq_right (by omega), Nat.min_eq_right (by omega), List.take_succ_eq_append_getElem h, List.mapIdx_append]
  simp [Nat.min_eq_left (Nat.le_of_lt h)]
theorem scT_all (l : List ByteArray) (k : Nat) (h : ¬ k < l.length ∨ ¬ k < 15) : scT (l.take k) = scT l := by
  unfold scT
  rw [List.take_take]
  congr 2
  rcases h with h | h
  · by_cases h2 : k ≤ 15
    · rw [Nat.min_eq_right h2, List.take_of_length_le (by omega), List.take_of_length_le (by omega)]
    · rw [Nat.min_eq_left (by omega)]
  · rw [Nat.min_eq_left (by omega)]
theorem scT_add (i : Nat) (s : ByteArray) : (⟨#[UInt8.ofNat (98 + i)]⟩ : ByteArray) ++ (⟨(kpL s.data.toList 33 126 34 92 31).toArray⟩ : ByteArray) = scT1 i s := by
  unfold scT1
  apply ByteArray.ext
  apply Array.ext'
  simp
theorem infoSt9 : (Tryz.prog.info? 9).map (fun i => (i.zero, i.size, i.bytes)) = some (some (.string ⟨#[]⟩), 1, 16) := by kernel_rfl
theorem rd_drew {w : World} {v : Value} {l : List UInt8} (h : Rd w v l) : Rd w.drew v l := h
theorem own_one (w : World) (B : Nat) (hB : B ≤ w.heap.size) (x : Value) (t : TypeId) : (w.alloc (.cells #[x] t)).ownsRow B t 1 (.slice (some ⟨w.heap.size, 0, none⟩) 1 1) 1 [x] :=
  ⟨rfl, .inr ⟨w.heap.size, 1, #[x], rfl, hB, heap_alloc_new w _, Nat.le_refl _, by unfold maxLen; omega, rfl, rfl⟩⟩
end Go.Proofs.YtocpikgcbibcoaaGreatDoor.rc

namespace Go.Proofs.YtocpikgcbibcoaaGreatDoor.rc
open Go.Proofs.YtocpikgcbibcoaaGreatDoor.common

/-- the number at the head of l, in its one way, of f groups at most; b: nothing of it was read yet -/
def rdF : Nat → Bool → List UInt8 → Option (Nat × List UInt8)
  | 0, _, _ => none
  | _ + 1, _, [] => none
  | f + 1, b, c :: t =>
    if c.toNat = 0 ∧ b = false then none
    else if c.toNat < 128 then some (c.toNat, t)
    else match rdF f false t with
      | none => none
      | some (m, r) => some (c.toNat % 128 + 128 * m, r)
def rdN (l : List UInt8) : Option (Nat × List UInt8) := rdF 9 true l
theorem u8_lt (c : UInt8) : c.toNat < 256 := c.toNat_lt
theorem u8_of (c : UInt8) (n : Nat) (h : n = c.toNat) : UInt8.ofNat n = c := by rw [h]; exact UInt8.ofNat_toNat
theorem rdF_num : ∀ (f g n : Nat) (b : Bool) (rest : List UInt8), n < 128 ^ (f + 1) → f ≤ g → (n ≠ 0 ∨ b = true) → rdF (f + 1) b (numF g n ++ rest) = some (n, rest)
  | f, g, n, b, rest, hn, hg, hb => by
    by_cases h : n < 128
    · rw [numF_small g n h]
      have e : (UInt8.ofNat n).toNat = n := by rw [UInt8.toNat_ofNat']; omega
      show rdF (f + 1) b (UInt8.ofNat n :: rest) = _
      unfold rdF
      rw [e, if_neg (by rcases hb with h0 | h0 <;> simp [h0]), if_pos h]
    · obtain ⟨f', rfl⟩ : ∃ f', f = f' + 1 := ⟨f - 1, by
        rcases f with _ | f
        · exact absurd hn (by omega)
        · omega⟩
      obtain ⟨g', rfl⟩ : ∃ g', g = g' + 1 := ⟨g - 1, by omega⟩
      rw [numF_big g' n h]
      have e : (UInt8.ofNat (128 + n % 128)).toNat = 128 + n % 128 := by rw [UInt8.toNat_ofNat']; omega
      show rdF (f' + 1 + 1) b (UInt8.ofNat (128 + n % 128) :: (numF g' (n / 128) ++ rest)) = _
      have ih := rdF_num f' g' (n / 128) false rest (by
        rw [Nat.pow_succ] at hn
        exact (Nat.div_lt_iff_lt_mul (by decide)).2 hn) (by omega) (Or.inl (by omega))
      unfold rdF
      rw [e, if_neg (by omega), if_neg (by omega), ih]
      simp only [Option.some.injEq, Prod.mk.injEq, and_true]
      omega
theorem rdF_is : ∀ (f : Nat) (b : Bool) (l : List UInt8) (n : Nat) (r : List UInt8), rdF f b l = some (n, r) → (∀ g, f ≤ g + 1 → l = numF g n ++ r) ∧ n < 128 ^ f ∧ (b = false → n ≠ 0)
  | 0, _, _, _, _, h => by simp [rdF] at h
  | _ + 1, _, [], _, _, h => by simp [rdF] at h
  | f + 1, b, c :: t, n, r, h => by
    unfold rdF at h
    by_cases h0 : c.toNat = 0 ∧ b = false
    · rw [if_pos h0] at h; cases h
    rw [if_neg h0] at h
    by_cases h1 : c.toNat < 128
    · rw [if_pos h1] at h
      simp only [Option.some.injEq, Prod.mk.injEq] at h
      obtain ⟨rfl, rfl⟩ := h
      refine ⟨fun g _ => ?_, ?_, fun hb hc => h0 ⟨hc, hb⟩⟩
      · rw [numF_small g _ h1, u8_of c _ rfl]; rfl
      · rw [Nat.pow_succ]; exact Nat.lt_of_lt_of_le h1 (Nat.le_mul_of_pos_left _ (Nat.pow_pos (by decide)))
    rw [if_neg h1] at h
    cases hm : rdF f false t with
    | none => rw [hm] at h; cases h
    | some x =>
      obtain ⟨m, r'⟩ := x
      rw [hm] at h
      simp only [Option.some.injEq, Prod.mk.injEq] at h
      obtain ⟨rfl, rfl⟩ := h
      obtain ⟨i1, i2, i3⟩ := rdF_is f false t m r' hm
      have hm0 := i3 rfl
      have hc := u8_lt c
      have hf : f ≠ 0 := by rintro rfl; simp [rdF] at hm
      refine ⟨fun g hg => ?_, ?_, fun _ => by omega⟩
      · obtain ⟨g', rfl⟩ : ∃ g', g = g' + 1 := ⟨g - 1, by omega⟩
        rw [numF_big g' _ (by omega), show (c.toNat % 128 + 128 * m) / 128 = m by omega, u8_of c _ (by omega), i1 g' (by omega)]
        rfl
      · rw [Nat.pow_succ]; omega
theorem rdN_num (n : Nat) (rest : List UInt8) (h : n < 9223372036854775808) : rdN (numL n ++ rest) = some (n, rest) := rdF_num 8 9 n true rest h (by decide) (Or.inr rfl)
theorem rdN_is {l : List UInt8} {n : Nat} {r : List UInt8} (h : rdN l = some (n, r)) : l = numL n ++ r ∧ n < 9223372036854775808 := by
  obtain ⟨h1, h2, _⟩ := rdF_is 9 true l n r h
  exact ⟨h1 9 (by decide), h2⟩
theorem rdN_nil : rdN [] = none := rfl

/-- what is left to read: nothing any more, once it has failed -/
abbrev St := Option (List UInt8)
/-- x was read, or it has failed; and what was written is read -/
structure Step {α : Type} (enc : α → List UInt8) (ok : α → Prop) (s : St) (x : α) (s' : St) : Prop where
  back : s' = none ∨ ∃ l, s = some (enc x ++ l) ∧ s' = some l
  on : ∀ y l, ok y → s = some (enc y ++ l) → x = y ∧ s' = some l
abbrev TStep := Step txL (fun s => s.size < 9223372036854775808)
abbrev NStep := Step numL (fun n => n < 9223372036854775808)
abbrev LStep := Step lsL (fun l => l.length ≤ 16 ∧ ∀ s ∈ l, s.size < 9223372036854775808)
theorem step_none {α : Type} (enc : α → List UInt8) (ok : α → Prop) (x : α) : Step enc ok none x none := ⟨Or.inl rfl, fun _ _ _ h => by cases h⟩
theorem nstep_some {l : List UInt8} {n : Nat} {r : List UInt8} (h : rdN l = some (n, r)) : NStep (some l) n (some r) := by
  obtain ⟨h1, h2⟩ := rdN_is h
  refine ⟨Or.inr ⟨r, by rw [← h1], rfl⟩, fun y t hy e => ?_⟩
  cases e
  rw [rdN_num y t hy] at h
  cases h
  exact ⟨rfl, rfl⟩
theorem nstep_fail {l : List UInt8} (h : rdN l = none) (x : Nat) : NStep (some l) x none :=
  ⟨Or.inl rfl, fun y t hy e => by cases e; rw [rdN_num y t hy] at h; cases h⟩
/-- n texts one behind the other -/
abbrev TsStep (n : Nat) := Step (fun l : List ByteArray => l.flatMap txL) (fun l => l.length = n ∧ ∀ s ∈ l, s.size < 9223372036854775808)
theorem tsstep_nil (s : St) : TsStep 0 s [] s := by
  refine ⟨?_, fun y l hy e => ?_⟩
  · cases s with
    | none => exact Or.inl rfl
    | some l => exact Or.inr ⟨l, rfl, rfl⟩
  · obtain rfl := List.eq_nil_of_length_eq_zero hy.1
    exact ⟨rfl, e⟩
theorem tsstep_snoc {n : Nat} {s s1 s2 : St} {l : List ByteArray} {x : ByteArray} (h : TsStep n s l s1) (hx : TStep s1 x s2) : TsStep (n + 1) s (l ++ [x]) s2 := by
  refine ⟨?_, fun y t hy e => ?_⟩
  · rcases hx.back with h0 | ⟨r, h1, h2⟩
    · exact Or.inl h0
    · rcases h.back with h0 | ⟨r', h3, h4⟩
      · rw [h0] at h1; cases h1
      · rw [h4] at h1
        cases h1
        exact Or.inr ⟨r, by rw [h3]; simp [List.flatMap_append], h2⟩
  · obtain ⟨z, u, rfl⟩ : ∃ z u, y = z ++ [u] := ⟨y.dropLast, y.getLast (by rintro rfl; simp at hy), (List.dropLast_concat_getLast _).symm⟩
    have hz : z.length = n := by have := hy.1; simp at this; exact this
    obtain ⟨a1, a2⟩ := h.on z (txL u ++ t) ⟨hz, fun q hq => hy.2 q (by simp [hq])⟩ (by rw [e]; simp [List.flatMap_append])
    obtain ⟨b1, b2⟩ := hx.on u t (hy.2 u (by simp)) a2
    exact ⟨by rw [a1, b1], b2⟩
end Go.Proofs.YtocpikgcbibcoaaGreatDoor.rc

namespace Go.Proofs.YtocpikgcbibcoaaGreatDoor.rc
open Go.Proofs.YtocpikgcbibcoaaGreatDoor.common

theorem bay_len (s : ByteArray) : s.data.toList.length = s.size := by simp
theorem id_size (s : ByteArray) (h : idB s = true) : s.size ≤ 43 := by
  rw [idB_iff] at h
  have h2 := h.2
  rw [Rad.un64_len] at h2
  unfold Rad.n8 at h2
  have := bay_len s
  omega
theorem sc_size (s : ByteArray) (h : oneSc s = true) : s.size ≤ 32 := by
  unfold oneSc at h
  simp only [Bool.and_eq_true, decide_eq_true_eq, Bool.not_eq_true'] at h
  obtain ⟨⟨h1, h2⟩, h3⟩ := h
  unfold tm.scL at h3
  rw [h1, h2] at h3
  have h4 : tm.riseB (tsq.parts 32 s) = [s] := h3
  have h5 : s.data.toList ∈ tm.rise (tm.raw (tsq.parts 32 s)) := by
    unfold tm.riseB at h4
    have h6 : s ∈ (tm.rise (tm.raw (tsq.parts 32 s))).map fun l => (⟨l.toArray⟩ : ByteArray) := by rw [h4]; exact List.mem_singleton.2 rfl
    obtain ⟨l, hl, e⟩ := List.mem_map.1 h6
    have e2 : s.data.toList = l := by rw [← e]
    rw [e2]
    exact hl
  have h7 := ((Tm.rise_spec _).2 _).1 h5
  unfold tm.raw at h7
  obtain ⟨z, hz, ez⟩ := List.mem_map.1 h7
  unfold tm.areSc at h1
  have h8 := List.all_eq_true.1 h1 z hz
  unfold tm.isSc Tm.word at h8
  simp only [Bool.and_eq_true, decide_eq_true_eq] at h8
  have h9 := h8.1.2
  rw [ez, bay_len] at h9
  exact h9
/-- how great what may be is -/
structure Rec.Sz (r : Rec) : Prop where
  k0 : 0 < r.k
  k1 : r.k < 12
  id : r.id.size ≤ 43
  us : r.us.size ≤ 64
  cl : r.cl.size ≤ 64
  rd : r.rd.size ≤ 512
  ch : r.ch.size ≤ 128
  cd : r.cd.size ≤ 43
  len : r.ss.length ≤ 16
  ss : ∀ s ∈ r.ss, s.size ≤ 32
  at0 : 0 ≤ r.at_
  at1 : r.at_ ≤ 1099511627776
theorem fit_sz {b t : Bool} {s : ByteArray} {n : Nat} (h : fitS b s t = true) (ht : t = true → s.size ≤ n) : s.size ≤ n := by
  unfold fitS at h
  split at h
  · exact ht h
  · simp only [decide_eq_true_eq] at h; omega
theorem may_sz {r : Rec} (h : mayB r = true) : r.Sz := by
  unfold mayB isK at h
  simp only [Bool.and_eq_true, decide_eq_true_eq] at h
  obtain ⟨⟨k0, k1⟩, h1, h2, h3, h4, h5, h6, hL, hT⟩ := h
  have word : ∀ s : ByteArray, Tm.word 64 (Tm.btw 33 126) s.data.toList = true → s.size ≤ 64 := fun s hs => by
    unfold Tm.word at hs
    simp only [Bool.and_eq_true, decide_eq_true_eq] at hs
    have := hs.1.2
    rwa [bay_len] at this
  have hlen : r.ss.length ≤ 16 ∧ ∀ s ∈ r.ss, s.size ≤ 32 := by
    unfold fitL at hL
    split at hL
    · simp only [Bool.and_eq_true, decide_eq_true_eq, Bool.not_eq_true', List.any_eq_false] at hL
      refine ⟨hL.1.1.2, fun s hs => sc_size s ?_⟩
      have := hL.2 s hs
      simpa using this
    · simp only [decide_eq_true_eq] at hL
      refine ⟨by omega, fun s hs => ?_⟩
      rw [List.eq_nil_of_length_eq_zero hL] at hs
      cases hs
  have hat : 0 ≤ r.at_ ∧ r.at_ ≤ 1099511627776 := by
    unfold fitT at hT
    split at hT
    · simpa only [Bool.and_eq_true, decide_eq_true_eq] using hT
    · simp only [decide_eq_true_eq] at hT
      omega
  refine ⟨k0, k1, fit_sz h1 (id_size _), fit_sz h2 (word _), fit_sz h3 (word _), fit_sz h4 (fun h => ?_), fit_sz h5 (fun h => ?_), fit_sz h6 (id_size _), hlen.1, hlen.2, hat.1, hat.2⟩
  · unfold tm.redL at h
    simp only [Bool.and_eq_true, decide_eq_true_eq] at h
    have := h.1
    rwa [bay_len] at this
  · unfold Pk.proof at h
    simp only [Bool.and_eq_true, decide_eq_true_eq] at h
    have := h.1.2
    rwa [bay_len] at this
theorem Rec.Sz.low {r : Rec} (h : r.Sz) : r.Low := by
  obtain ⟨_, _, h1, h2, h3, h4, h5, h6, _, h7, _, _⟩ := h
  exact ⟨by omega, by omega, by omega, by omega, by omega, by omega, fun s hs => by have := h7 s hs; omega⟩
theorem Rec.Sz.small {r : Rec} (h : r.Sz) : r.Small := by
  obtain ⟨_, _, h1, h2, h3, h4, h5, h6, hn, h7, _, _⟩ := h
  have hr : 1048576 ≤ reachBytes := by unfold reachBytes; decide
  exact ⟨by omega, by omega, by omega, by omega, by omega, by omega, by omega, fun s hs => by have := h7 s hs; omega⟩
theorem num1 {n : Nat} (h : n < 128) : (numL n).length = 1 := by unfold numL; rw [numF_small 9 n h]; rfl
theorem num2 {n : Nat} (h : n < 16384) : (numL n).length ≤ 2 := by
  by_cases h1 : n < 128
  · rw [num1 h1]; omega
  · unfold numL
    rw [numF_big 8 n h1, numF_small 8 _ (by omega)]
    exact Nat.le_refl _
theorem numF_le : ∀ (f g n : Nat), n < 128 ^ (g + 1) → (numF f n).length ≤ g + 1
  | 0, g, n, _ => by simp [numF]
  | f + 1, g, n, h => by
    by_cases h1 : n < 128
    · rw [numF_small _ n h1]; simp
    · rw [numF_big f n h1]
      cases g with
      | zero => exact absurd h (by omega)
      | succ g =>
        have := numF_le f g (n / 128) (by
          rw [Nat.pow_succ] at h
          exact (Nat.div_lt_iff_lt_mul (by decide)).2 h)
        simp only [List.length_cons]
        omega
theorem num6 {n : Nat} (h : n ≤ 1099511627776) : (numL n).length ≤ 6 := numF_le 9 5 n (by omega)
theorem num_pos (n : Nat) : 0 < (numL n).length := (numF_len 9 n).1
theorem tx1 {s : ByteArray} (h : s.size < 128) : (txL s).length = s.size + 1 := by
  unfold txL
  rw [List.length_append, num1 h, bay_len]
  omega
theorem tx2 {s : ByteArray} (h : s.size < 16384) : (txL s).length ≤ s.size + 2 := by
  unfold txL
  have := num2 h
  rw [List.length_append, bay_len]
  omega
theorem tx_pos (s : ByteArray) : 0 < (txL s).length := by
  unfold txL
  have := num_pos s.size
  rw [List.length_append]
  omega
theorem flat33 (l : List ByteArray) (h : ∀ s ∈ l, s.size ≤ 32) : (l.flatMap txL).length ≤ l.length * 33 := by
  induction l with
  | nil => simp
  | cons a t ih =>
    have h1 := ih (fun s hs => h s (List.mem_cons_of_mem _ hs))
    have h2 := h a (List.mem_cons_self ..)
    have h3 : (txL a).length = a.size + 1 := tx1 (by omega)
    rw [List.flatMap_cons, List.length_append, List.length_cons]
    omega
theorem ls_len (l : List ByteArray) (hn : l.length ≤ 16) (h : ∀ s ∈ l, s.size ≤ 32) : (lsL l).length ≤ 529 := by
  unfold lsL
  have h1 := flat33 l h
  have h2 : (numL l.length).length = 1 := num1 (by omega)
  rw [List.length_append]
  omega
theorem rec_len {r : Rec} (hm : mayB r = true) : 1 < (recL r).length ∧ (recL r).length ≤ 1354 := by
  have hz := may_sz hm
  have t1 := tx1 (s := r.id) (by have := hz.id; omega)
  have t2 := tx1 (s := r.us) (by have := hz.us; omega)
  have t3 := tx1 (s := r.cl) (by have := hz.cl; omega)
  have t4 := tx2 (s := r.rd) (by have := hz.rd; omega)
  have t5 := tx2 (s := r.ch) (by have := hz.ch; omega)
  have t6 := tx1 (s := r.cd) (by have := hz.cd; omega)
  have s1 := ls_len r.ss hz.len hz.ss
  have n1 : (numL r.at_.toNat).length ≤ 6 := num6 (by have := hz.at1; omega)
  have hid := hz.id
  have hus := hz.us
  have hcl := hz.cl
  have hrd := hz.rd
  have hch := hz.ch
  have hcd := hz.cd
  have k0 := hz.k0
  have k1 := hz.k1
  have e : (recL r).length = 1 + ((idL r).length + ((midL r).length + (endL r).length)) := by
    unfold recL
    simp only [List.length_append, List.length_cons, List.length_nil]
  have i1 : (idL r).length ≤ 44 := by unfold idL; split <;> (try simp) <;> omega
  have i2 : (midL r).length ≤ 644 := by unfold midL; split <;> (try split) <;> (try simp) <;> omega
  have i3 : (endL r).length ≤ 665 := by unfold endL; split <;> (try split) <;> (try split) <;> (try simp) <;> omega
  refine ⟨?_, by omega⟩
  rw [e]
  have hk : r.k = 1 ∨ r.k = 2 ∨ r.k = 3 ∨ r.k = 4 ∨ r.k = 5 ∨ r.k = 6 ∨ r.k = 7 ∨ r.k = 8 ∨ r.k = 9 ∨ r.k = 10 ∨ r.k = 11 := by omega
  have p1 := tx_pos r.id
  have p2 := tx_pos r.cl
  by_cases h3 : r.k = 3
  · have : 0 < (endL r).length := by unfold endL; rw [if_pos (by omega)]; simp; omega
    omega
  by_cases h11 : r.k = 11
  · have : 0 < (endL r).length := by unfold endL; rw [if_neg (by omega), if_neg (by omega), if_pos h11]; simp; omega
    omega
  have hnm : nm r.k 1 = true := by
    rcases hk with h | h | h | h | h | h | h | h | h | h | h
    all_goals first
      | (exfalso; omega)
      | (rw [h]; decide)
  have : 0 < (idL r).length := by unfold idL; rw [if_pos hnm]; exact p1
  omega
end Go.Proofs.YtocpikgcbibcoaaGreatDoor.rc

namespace Go.Proofs.YtocpikgcbibcoaaGreatDoor.rc
open Go.Proofs.YtocpikgcbibcoaaGreatDoor.common

/-- the address that tidy makes of a text -/
def rdT (s : ByteArray) : ByteArray := ⟨(hostT ++ kpL s.data.toList 97 122 0 0 490).toArray⟩
abbrev eB : ByteArray := ⟨#[]⟩
/-- what tidy makes of a record, of the kind k, at the time a -/
def tid (k a : Int) (r : Rec) : Rec :=
  if k = 1 then ⟨1, pk.ch r.id, nmT r.us, eB, eB, eB, eB, [], a⟩
  else if k = 3 then ⟨3, eB, nmT r.us, nmT r.cl, eB, eB, eB, scT r.ss, a⟩
  else if k = 4 then ⟨4, pk.ch r.id, nmT r.us, nmT r.cl, rdT r.rd, pk.ch r.ch, eB, scT r.ss, a⟩
  else if k = 6 then ⟨6, pk.ch r.id, nmT r.us, nmT r.cl, eB, eB, pk.ch r.cd, scT r.ss, a⟩
  else if k = 9 then ⟨9, pk.ch r.id, nmT r.us, nmT r.cl, eB, eB, pk.ch r.cd, scT r.ss, a⟩
  else if k = 11 then ⟨11, eB, nmT r.us, nmT r.cl, eB, eB, eB, [], 0⟩
  else ⟨k, pk.ch r.id, eB, eB, eB, eB, eB, [], 0⟩
theorem name_may (s : ByteArray) : Tm.word 64 (Tm.btw 33 126) (nmT s).data.toList = true := by
  have := word_name s.data.toList
  simpa [nmT] using this
theorem red_may (s : ByteArray) : tm.redL (rdT s).data.toList = true := by
  have := red_of (kpL s.data.toList 97 122 0 0 490) (kp_len _ _ _ _ _ _) (fun c hc => by have := kp_mem hc; exact ⟨this.1, this.2.1⟩)
  simpa [rdT] using this
theorem sc1_may (i : Nat) (h : i < 15) (s : ByteArray) : oneSc (scT1 i s) = true := by
  have hl := kp_len s.data.toList 33 126 34 92 31
  have e : (scT1 i s).data.toList = UInt8.ofNat (98 + i) :: kpL s.data.toList 33 126 34 92 31 := by simp [scT1]
  have hc : (UInt8.ofNat (98 + i)).toNat = 98 + i := by rw [UInt8.toNat_ofNat']; omega
  refine oneSc_of _ (by rw [e]; simp) (by rw [e]; simp; omega) (fun c hx => ?_)
  rw [e] at hx
  rcases List.mem_cons.1 hx with rfl | hx
  · rw [hc]; omega
  · exact kp_mem hx
theorem sca_may : oneSc ⟨#[97]⟩ = true := oneSc_of _ (by decide) (by decide) (fun c hx => by
  have hx : c ∈ [97] := hx
  rw [List.mem_singleton.1 hx]
  decide)
theorem scT_may (l : List ByteArray) : ∀ s ∈ scT l, oneSc s = true := fun s hs => by
  unfold scT at hs
  rcases List.mem_cons.1 hs with rfl | hs
  · exact sca_may
  · obtain ⟨i, hi, rfl⟩ := List.mem_mapIdx.1 hs
    rw [List.length_take] at hi
    exact sc1_may i (by omega) _
theorem scT_getD (l : List ByteArray) (i : Nat) (h : i < (scT l).length) : ∃ t, ((scT l).getD i ByteArray.empty).data.toList = UInt8.ofNat (97 + i) :: t := by
  rw [List.getD_eq_getElem?_getD]
  cases i with
  | zero => exact ⟨[], rfl⟩
  | succ i =>
    have hi : i < (l.take 15).length := by rw [scT_len] at h; rw [List.length_take]; omega
    have h2 : (scT l)[i + 1]? = some (scT1 i (l.take 15)[i]) := by
      unfold scT
      rw [List.getElem?_cons_succ, List.getElem?_mapIdx, List.getElem?_eq_getElem hi]
      rfl
    rw [h2]
    refine ⟨kpL (l.take 15)[i].data.toList 33 126 34 92 31, ?_⟩
    show (scT1 i (l.take 15)[i]).data.toList = _
    unfold scT1
    rw [show 98 + i = 97 + (i + 1) by omega]
theorem scT_ris (l : List ByteArray) : risB (scT l) = true := by
  unfold risB
  rw [decide_eq_true_eq]
  intro i h1 h2
  obtain ⟨t, ht⟩ := scT_getD l i h1
  obtain ⟨u, hu⟩ := scT_getD l (i + 1) h2
  rw [ht, hu]
  have hl := scT_len l
  have a1 : (UInt8.ofNat (97 + i)).toNat = 97 + i := by rw [UInt8.toNat_ofNat']; omega
  have a2 : (UInt8.ofNat (97 + (i + 1))).toNat = 97 + (i + 1) := by rw [UInt8.toNat_ofNat']; omega
  exact List.cons_lt_cons_iff.2 (Or.inl (UInt8.lt_iff_toNat_lt.2 (by rw [a1, a2]; omega)))
theorem scT_fit (l : List ByteArray) : fitL true (scT l) = true := by
  unfold fitL
  have hl := scT_len l
  have h1 : (scT l).any (fun s => !oneSc s) = false := by
    rw [List.any_eq_false]
    intro s hs
    rw [scT_may l s hs]
    decide
  rw [if_pos rfl, scT_ris, h1, decide_eq_true (by omega), decide_eq_true (by omega)]
  rfl
theorem may_of {r : Rec} (hk : isK r.k = true) (h1 : t_id r = true) (h2 : t_us r = true) (h3 : t_cl r = true) (h4 : t_rd r = true) (h5 : t_ch r = true) (h6 : t_cd r = true) (h7 : fitL (nm r.k 64) r.ss = true) (h8 : fitT (nm r.k 128) r.at_ = true) : mayB r = true := by
  unfold mayB
  rw [hk, h1, h2, h3, h4, h5, h6, h7, h8]
  rfl
theorem fitY {b t : Bool} {s : ByteArray} (h : b = true) (ht : t = true) : fitS b s t = true := by rw [h]; exact ht
theorem fitN {b t : Bool} (h : b = false) : fitS b eB t = true := by rw [h]; rfl
theorem fitLY {b : Bool} (h : b = true) (l : List ByteArray) : fitL b (scT l) = true := by rw [h]; exact scT_fit l
theorem fitLN {b : Bool} (h : b = false) : fitL b [] = true := by rw [h]; rfl
theorem fitTN {b : Bool} (h : b = false) : fitT b 0 = true := by rw [h]; rfl
theorem tid_may (k a : Int) (r : Rec) (k0 : 0 < k) (k1 : k < 12) (a0 : 0 ≤ a) (a1 : a ≤ 1099511627776) : mayB (tid k a r) = true := by
  have hc : k = 1 ∨ k = 2 ∨ k = 3 ∨ k = 4 ∨ k = 5 ∨ k = 6 ∨ k = 7 ∨ k = 8 ∨ k = 9 ∨ k = 10 ∨ k = 11 := by omega
  have hT : ∀ b, b = true → fitT b a = true := fun b h => by unfold fitT; rw [if_pos h, decide_eq_true a0, decide_eq_true a1]; rfl
  rcases hc with rfl | rfl | rfl | rfl | rfl | rfl | rfl | rfl | rfl | rfl | rfl
  · rw [show tid 1 a r = ⟨1, pk.ch r.id, nmT r.us, eB, eB, eB, eB, [], a⟩ from rfl]
    exact may_of (show isK (1 : Int) = true by decide) (fitY (show nm (1 : Int) 1 = true by decide) (idB_ch _)) (fitY (show nm (1 : Int) 2 = true by decide) (name_may _)) (fitN (show nm (1 : Int) 4 = false by decide)) (fitN (show nm (1 : Int) 8 = false by decide)) (fitN (show nm (1 : Int) 16 = false by decide)) (fitN (show nm (1 : Int) 32 = false by decide)) (fitLN (show nm (1 : Int) 64 = false by decide)) (hT _ (show nm (1 : Int) 128 = true by decide))
  · rw [show tid 2 a r = ⟨2, pk.ch r.id, eB, eB, eB, eB, eB, [], 0⟩ from rfl]
    exact may_of (show isK (2 : Int) = true by decide) (fitY (show nm (2 : Int) 1 = true by decide) (idB_ch _)) (fitN (show nm (2 : Int) 2 = false by decide)) (fitN (show nm (2 : Int) 4 = false by decide)) (fitN (show nm (2 : Int) 8 = false by decide)) (fitN (show nm (2 : Int) 16 = false by decide)) (fitN (show nm (2 : Int) 32 = false by decide)) (fitLN (show nm (2 : Int) 64 = false by decide)) (fitTN (show nm (2 : Int) 128 = false by decide))
  · rw [show tid 3 a r = ⟨3, eB, nmT r.us, nmT r.cl, eB, eB, eB, scT r.ss, a⟩ from rfl]
    exact may_of (show isK (3 : Int) = true by decide) (fitN (show nm (3 : Int) 1 = false by decide)) (fitY (show nm (3 : Int) 2 = true by decide) (name_may _)) (fitY (show nm (3 : Int) 4 = true by decide) (name_may _)) (fitN (show nm (3 : Int) 8 = false by decide)) (fitN (show nm (3 : Int) 16 = false by decide)) (fitN (show nm (3 : Int) 32 = false by decide)) (fitLY (show nm (3 : Int) 64 = true by decide) _) (hT _ (show nm (3 : Int) 128 = true by decide))
  · rw [show tid 4 a r = ⟨4, pk.ch r.id, nmT r.us, nmT r.cl, rdT r.rd, pk.ch r.ch, eB, scT r.ss, a⟩ from rfl]
    exact may_of (show isK (4 : Int) = true by decide) (fitY (show nm (4 : Int) 1 = true by decide) (idB_ch _)) (fitY (show nm (4 : Int) 2 = true by decide) (name_may _)) (fitY (show nm (4 : Int) 4 = true by decide) (name_may _)) (fitY (show nm (4 : Int) 8 = true by decide) (red_may _)) (fitY (show nm (4 : Int) 16 = true by decide) (pk.ch_proof _)) (fitN (show nm (4 : Int) 32 = false by decide)) (fitLY (show nm (4 : Int) 64 = true by decide) _) (hT _ (show nm (4 : Int) 128 = true by decide))
  · rw [show tid 5 a r = ⟨5, pk.ch r.id, eB, eB, eB, eB, eB, [], 0⟩ from rfl]
    exact may_of (show isK (5 : Int) = true by decide) (fitY (show nm (5 : Int) 1 = true by decide) (idB_ch _)) (fitN (show nm (5 : Int) 2 = false by decide)) (fitN (show nm (5 : Int) 4 = false by decide)) (fitN (show nm (5 : Int) 8 = false by decide)) (fitN (show nm (5 : Int) 16 = false by decide)) (fitN (show nm (5 : Int) 32 = false by decide)) (fitLN (show nm (5 : Int) 64 = false by decide)) (fitTN (show nm (5 : Int) 128 = false by decide))
  · rw [show tid 6 a r = ⟨6, pk.ch r.id, nmT r.us, nmT r.cl, eB, eB, pk.ch r.cd, scT r.ss, a⟩ from rfl]
    exact may_of (show isK (6 : Int) = true by decide) (fitY (show nm (6 : Int) 1 = true by decide) (idB_ch _)) (fitY (show nm (6 : Int) 2 = true by decide) (name_may _)) (fitY (show nm (6 : Int) 4 = true by decide) (name_may _)) (fitN (show nm (6 : Int) 8 = false by decide)) (fitN (show nm (6 : Int) 16 = false by decide)) (fitY (show nm (6 : Int) 32 = true by decide) (idB_ch _)) (fitLY (show nm (6 : Int) 64 = true by decide) _) (hT _ (show nm (6 : Int) 128 = true by decide))
  · rw [show tid 7 a r = ⟨7, pk.ch r.id, eB, eB, eB, eB, eB, [], 0⟩ from rfl]
    exact may_of (show isK (7 : Int) = true by decide) (fitY (show nm (7 : Int) 1 = true by decide) (idB_ch _)) (fitN (show nm (7 : Int) 2 = false by decide)) (fitN (show nm (7 : Int) 4 = false by decide)) (fitN (show nm (7 : Int) 8 = false by decide)) (fitN (show nm (7 : Int) 16 = false by decide)) (fitN (show nm (7 : Int) 32 = false by decide)) (fitLN (show nm (7 : Int) 64 = false by decide)) (fitTN (show nm (7 : Int) 128 = false by decide))
  · rw [show tid 8 a r = ⟨8, pk.ch r.id, eB, eB, eB, eB, eB, [], 0⟩ from rfl]
    exact may_of (show isK (8 : Int) = true by decide) (fitY (show nm (8 : Int) 1 = true by decide) (idB_ch _)) (fitN (show nm (8 : Int) 2 = false by decide)) (fitN (show nm (8 : Int) 4 = false by decide)) (fitN (show nm (8 : Int) 8 = false by decide)) (fitN (show nm (8 : Int) 16 = false by decide)) (fitN (show nm (8 : Int) 32 = false by decide)) (fitLN (show nm (8 : Int) 64 = false by decide)) (fitTN (show nm (8 : Int) 128 = false by decide))
  · rw [show tid 9 a r = ⟨9, pk.ch r.id, nmT r.us, nmT r.cl, eB, eB, pk.ch r.cd, scT r.ss, a⟩ from rfl]
    exact may_of (show isK (9 : Int) = true by decide) (fitY (show nm (9 : Int) 1 = true by decide) (idB_ch _)) (fitY (show nm (9 : Int) 2 = true by decide) (name_may _)) (fitY (show nm (9 : Int) 4 = true by decide) (name_may _)) (fitN (show nm (9 : Int) 8 = false by decide)) (fitN (show nm (9 : Int) 16 = false by decide)) (fitY (show nm (9 : Int) 32 = true by decide) (idB_ch _)) (fitLY (show nm (9 : Int) 64 = true by decide) _) (hT _ (show nm (9 : Int) 128 = true by decide))
  · rw [show tid 10 a r = ⟨10, pk.ch r.id, eB, eB, eB, eB, eB, [], 0⟩ from rfl]
    exact may_of (show isK (10 : Int) = true by decide) (fitY (show nm (10 : Int) 1 = true by decide) (idB_ch _)) (fitN (show nm (10 : Int) 2 = false by decide)) (fitN (show nm (10 : Int) 4 = false by decide)) (fitN (show nm (10 : Int) 8 = false by decide)) (fitN (show nm (10 : Int) 16 = false by decide)) (fitN (show nm (10 : Int) 32 = false by decide)) (fitLN (show nm (10 : Int) 64 = false by decide)) (fitTN (show nm (10 : Int) 128 = false by decide))
  · rw [show tid 11 a r = ⟨11, eB, nmT r.us, nmT r.cl, eB, eB, eB, [], 0⟩ from rfl]
    exact may_of (show isK (11 : Int) = true by decide) (fitN (show nm (11 : Int) 1 = false by decide)) (fitY (show nm (11 : Int) 2 = true by decide) (name_may _)) (fitY (show nm (11 : Int) 4 = true by decide) (name_may _)) (fitN (show nm (11 : Int) 8 = false by decide)) (fitN (show nm (11 : Int) 16 = false by decide)) (fitN (show nm (11 : Int) 32 = false by decide)) (fitLN (show nm (11 : Int) 64 = false by decide)) (fitTN (show nm (11 : Int) 128 = false by decide))
end Go.Proofs.YtocpikgcbibcoaaGreatDoor.rc
