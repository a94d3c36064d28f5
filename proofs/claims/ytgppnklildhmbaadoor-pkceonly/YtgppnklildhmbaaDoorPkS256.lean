import Derived.Test.YtgppnklildhmbaaDoorPkChal
import Derived.Test.YtgppnklildhmbaaDoorPkRefV
import Derived.Test.YtgppnklildhmbaaDoorPkSame
import Derived.Test.YtgppnklildhmbaaDoorShaWalks
import Derived.Test.YtgppnklildhmbaaDoorRefDigest
import Derived.Test.YtgppnklildhmbaaDoorUrlWalks
import Derived.Deep.RegionHeld3
namespace Go.Proofs.YtgppnklildhmbaaDoor.pk
open Go.ChangeShapes Go.WideShapes Go.ChangeAt Go.RowKit Go.Proofs.YtgppnklildhmbaaDoor.common

/-- the challenge of a text -/
def ch (s : ByteArray) : ByteArray := ⟨(Rad.b64 Rad.urlT (Sha.digest s.data.toList)).toArray⟩
theorem digest_len (l : List UInt8) : (Sha.digest l).length = 32 := by unfold Sha.digest Sha.bytes; rfl
theorem ch_list (s : ByteArray) : (ch s).data.toList = Rad.b64 Rad.urlT (Sha.digest s.data.toList) := by unfold ch; simp
theorem ch_size (s : ByteArray) : (ch s).size = 43 := by rw [← plen, ch_list, Rad.b64_len, digest_len]; rfl
theorem ch_proof (s : ByteArray) : Pk.proof (ch s).data.toList = true := by rw [ch_list]; exact Pk.b64_proof _ (digest_len _)
theorem ba_size (l : List UInt8) : (⟨l.toArray⟩ : ByteArray).size = l.length := by show l.toArray.size = _; simp

/-- what lies in the variables -/
structure Env (w : World) : Prop where
  rw : shaw.RW w
  fw : shaw.FW w
  url : radw.UrlTab w
structure EnvR (w : World) : Prop where
  rr : refw.RR w
  fr : refw.FR w
theorem Env.below {w w' : World} (h : Env w) (hb : Below w.heap.size w w') : Env w' := ⟨h.rw.below hb h.rw.lt, h.fw.below hb h.fw.lt, h.url.below hb (h.url.lt (by decide))⟩
theorem EnvR.below {w w' : World} (h : EnvR w) (hb : Below w.heap.size w w') : EnvR w' := ⟨h.rr.below hb h.rr.lt, h.fr.below hb h.fr.lt⟩

theorem s256_any (s : ByteArray) (w : World) (hs : s.size ≤ 562949953421312) (he : Env w) :
    Calls Tryd.prog 12 #[.string s] w fun e w' => e = .returned (.string (ch s)) ∧ Below w.heap.size w w' := by
  have H1 := hide (shaw.sha_any s w hs he.rw he.fw)
  have H2 : Hid (∀ W, Below w.heap.size w W → Calls Tryd.prog 16 #[.string ⟨(Sha.digest s.data.toList).toArray⟩] W fun e w' => e = .returned (.string (ch s)) ∧ Below W.heap.size W w') := fun W hW =>
    radw.url_any _ W (by rw [ba_size, digest_len]; decide) (he.below hW).url
  clear he hs
  generalize ch s = C at *
  generalize (⟨(Sha.digest s.data.toList).toArray⟩ : ByteArray) = D at *
  go_enter Tryd.func12, Tryd.ntmps12
  go_wp2_with fail
  refine H1.out.mono ?_
  rintro x w1 ⟨rfl, h1⟩
  have B1 := hide h1
  clear h1
  go_wp2_with fail
  refine (H2.out _ B1.out).mono ?_
  rintro x w2 ⟨rfl, h2⟩
  have B2 := hide (B1.out.trans (h2.mono B1.out.size))
  clear h2
  go_wp2
  go_ret
  exact ⟨rfl, B2.out⟩

theorem refS256_any (s : ByteArray) (w : World) (hs : s.size ≤ 562949953421312) (he : EnvR w) :
    Calls Tryd.prog 17 #[.string s] w fun e w' => e = .returned (.string (ch s)) ∧ Below w.heap.size w w' := by
  have H1 := hide (refw.refSha_any s w hs he.rr he.fr)
  have H2 : Hid (∀ W, Calls Tryd.prog 30 #[.string ⟨(Sha.digest s.data.toList).toArray⟩] W fun e w' => e = .returned (.string (ch s)) ∧ Below W.heap.size W w') := fun W =>
    radw.refUrl_any _ W (by rw [ba_size, digest_len]; decide)
  clear he hs
  generalize ch s = C at *
  generalize (⟨(Sha.digest s.data.toList).toArray⟩ : ByteArray) = D at *
  go_enter Tryd.func17, Tryd.ntmps17
  go_wp2_with fail
  refine H1.out.mono ?_
  rintro x w1 ⟨rfl, h1⟩
  have B1 := hide h1
  clear h1
  go_wp2_with fail
  refine (H2.out _).mono ?_
  rintro x w2 ⟨rfl, h2⟩
  have B2 := hide (B1.out.trans (h2.mono B1.out.size))
  clear h2
  go_wp2
  go_ret
  exact ⟨rfl, B2.out⟩

/-- a verifier and its challenge -/
def mt (a b : ByteArray) : Bool := Pk.proof a.data.toList && sm b (ch a)

set_option maxHeartbeats 800000 in
theorem match_any (a b : ByteArray) (w : World) (ha : a.size ≤ 562949953421312) (hb : b.size ≤ 4611686018427387904) (he : Env w) (ht : Tab w) :
    Calls Tryd.prog 11 #[.string a, .string b] w fun e w' => e = .returned (.bool (mt a b)) ∧ Below w.heap.size w w' := by
  have H1 := hide (verifier_any a w ht)
  have H2 := hide (s256_any a w ha he)
  have H3 := hide (fun W => same_any b (ch a) W hb)
  obtain ⟨R, hR⟩ : ∃ R, mt a b = R := ⟨_, rfl⟩
  rw [hR]
  unfold mt at hR
  clear he ht ha hb
  generalize ch a = C at *
  cases hp : Pk.proof a.data.toList with
  | false =>
    rw [hp] at H1 hR
    have HR := hide hR
    clear hp hR
    go_enter Tryd.func11, Tryd.ntmps11
    go_wp2_with fail
    refine H1.out.mono ?_
    rintro x w1 ⟨rfl, rfl⟩
    go_wp2
    go_ret
    exact ⟨by rw [← HR.out]; rfl, Below.refl _ _⟩
  | true =>
    rw [hp] at H1 hR
    have HR := hide hR
    clear hp hR
    go_enter Tryd.func11, Tryd.ntmps11
    go_wp2_with fail
    refine H1.out.mono ?_
    rintro x w1 ⟨rfl, rfl⟩
    go_wp2_with fail
    refine H2.out.mono ?_
    rintro x w2 ⟨rfl, h2⟩
    have B2 := hide h2
    clear h2
    go_wp2_with fail
    refine (H3.out _).mono ?_
    rintro x w3 ⟨rfl, m, rfl⟩
    go_wp2
    go_ret
    exact ⟨by rw [← HR.out]; rfl, bdN B2.out _⟩

set_option maxHeartbeats 800000 in
theorem refMatch_any (a b : ByteArray) (w : World) (ha : a.size ≤ 562949953421312) (he : EnvR w) :
    Calls Tryd.prog 18 #[.string a, .string b] w fun e w' => e = .returned (.bool (mt a b)) ∧ Below w.heap.size w w' := by
  have H1 := hide (refVerifier_any a w)
  have H2 := hide (refS256_any a w ha he)
  obtain ⟨R, hR⟩ : ∃ R, mt a b = R := ⟨_, rfl⟩
  rw [hR]
  unfold mt at hR
  rw [sm_comm] at hR
  clear he ha
  generalize ch a = C at *
  cases hp : Pk.proof a.data.toList with
  | false =>
    rw [hp] at H1 hR
    have HR := hide hR
    clear hp hR
    go_enter Tryd.func18, Tryd.ntmps18
    go_wp2_with fail
    refine H1.out.mono ?_
    rintro x w1 ⟨rfl, rfl⟩
    go_wp2
    go_ret
    exact ⟨by rw [← HR.out]; rfl, Below.refl _ _⟩
  | true =>
    rw [hp] at H1 hR
    have HR := hide hR
    clear hp hR
    go_enter Tryd.func18, Tryd.ntmps18
    go_wp2_with fail
    refine H1.out.mono ?_
    rintro x w1 ⟨rfl, rfl⟩
    go_wp2_with fail
    refine H2.out.mono ?_
    rintro x w2 ⟨rfl, h2⟩
    have B2 := hide h2
    clear h2
    go_wp2
    go_ret
    exact ⟨by rw [← HR.out]; rfl, B2.out⟩

end Go.Proofs.YtgppnklildhmbaaDoor.pk
