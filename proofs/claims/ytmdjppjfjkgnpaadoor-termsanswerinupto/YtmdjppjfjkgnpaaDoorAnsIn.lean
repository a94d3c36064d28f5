import Derived.Test.YtmdjppjfjkgnpaaDoorAnsW
namespace Go.Proofs.YtmdjppjfjkgnpaaDoor.tm
open Go.ChangeShapes Go.WideShapes Go.ChangeAt Go.RowKit Go.Proofs.YtmdjppjfjkgnpaaDoor.common Go.Proofs.YtmdjppjfjkgnpaaDoor.bk
open Go.Proofs.YtmdjppjfjkgnpaaDoor.fd (before behind)
open Go.Proofs.YtmdjppjfjkgnpaaDoor.lst (PB Lies)
open Go.Proofs.YtmdjppjfjkgnpaaDoor.pctw (X Txt Mny Tab pr tot)
attribute [local go_sem ↓] Go.wp_at_zero Go.wp_at_succ

def exA : List UInt8 := [104, 116, 116, 112, 115, 58, 47, 47, 97, 47, 99, 98, 63, 120]
def exK : List UInt8 := [104, 116, 116, 112, 115, 58, 47, 47, 97, 47, 99, 98, 63, 120, 38, 99, 111, 100, 101, 61, 49, 43, 50]
def exP : List PB := [(⟨#[99, 111, 100, 101]⟩, ⟨#[49, 32, 50]⟩)]
theorem exA_red : redL exA = true := by decide +kernel
theorem exA_ans : ansL exA (Pct.form (exP.map pr)) = exK := by decide +kernel
theorem ex_ans (ea em : Addr) : ansR ea em exA exP = (exK, .nilIface) := by
  unfold ansR
  rw [exA_red, if_neg (by decide), if_neg (by decide), if_neg (by unfold exP; simp), exA_ans]
theorem red_long {l : List UInt8} (h : ¬ l.length ≤ 512) : redL l = false := by
  unfold redL
  rw [decide_eq_false h]; rfl
theorem ans_cases (ea em : Addr) (l : List UInt8) (q : List PB) : ((ansR ea em l q).1 = [] ∧ ∃ a, (ansR ea em l q).2 = X a) ∨ ((ansR ea em l q).2 = .nilIface ∧ redL (ansR ea em l q).1 = decide ((ansR ea em l q).1.length ≤ 512)) := by
  unfold ansR
  cases hr : redL l with
  | false => rw [if_pos rfl]; exact Or.inl ⟨rfl, _, rfl⟩
  | true =>
    rw [if_neg (by decide)]
    by_cases h : 32 < q.length
    · rw [if_pos h]; exact Or.inl ⟨rfl, _, rfl⟩
    · rw [if_neg h]
      by_cases hq : q = []
      · rw [if_pos hq]
        refine Or.inr ⟨rfl, ?_⟩
        show redL l = _
        rw [hr, decide_eq_true (red_len hr)]
      · rw [if_neg hq]
        exact Or.inr ⟨rfl, ans_red hr (made_form _)⟩
theorem ans_none (ea em : Addr) {l : List UInt8} (h : redL l = true) : ansR ea em l [] = (l, .nilIface) := by
  unfold ansR
  rw [h, if_neg (by decide), if_neg (by decide), if_pos rfl]
theorem lies_lit (w : World) : Lies (w.alloc (.cells #[.string ⟨#[99, 111, 100, 101]⟩, .string ⟨#[49, 32, 50]⟩] 33)) (.slice (some ⟨w.heap.size, 0, none⟩) 1 1) exP := by
  refine ⟨_, _, rfl, fun i hi => ?_⟩
  obtain rfl : i = 0 := by
    have : i < 1 := hi
    omega
  exact ⟨_, _, rfl, by simp, range_new w #[_, _] _ 0 _ rfl, range_new w #[_, _] _ 1 _ rfl⟩

set_option maxRecDepth 100000 in
set_option maxHeartbeats 3200000 in
theorem lawAnswerIn (A : ByteArray) (v : Value) (q : List PB) (w : World) (ea em : Addr) (hl : Lies w v q) (he : AEnv w ea em) (hs : tot q ≤ 1048576) (hn : q.length ≤ 1048576) :
    Calls Tryd.prog 4 #[.agg #[.string A, v]] w fun e w' => e = .returned (.bool true) ∧ Below w.heap.size w w' := by
  obtain ⟨ov, cv, rfl, _⟩ := id hl
  have HL := hide hl
  have HE := hide he
  have h0 : Below w.heap.size w (w.alloc (.cells #[.string A, .slice ov q.length cv] 27)) := (Below.refl _ _).alloc (Nat.le_refl _) _
  have B0 := hide h0
  have c0 : (w.alloc (.cells #[.string A, .slice ov q.length cv] 27)).cell? ⟨w.heap.size, 0, none⟩ = some (.string A) := range_new w #[_, _] _ 0 _ rfl
  have c1 : (w.alloc (.cells #[.string A, .slice ov q.length cv] 27)).cell? ⟨w.heap.size, 1, none⟩ = some (.slice ov q.length cv) := range_new w #[_, _] _ 1 _ rfl
  have hlt : w.heap.size < (w.alloc (.cells #[.string A, .slice ov q.length cv] 27)).heap.size := by simp
  have C0 := hide c0
  have C1 := hide c1
  clear hl he h0 c0 c1
  have HA1 : Hid (∀ V W, AEnv W ea em → Lies W V exP → Calls Tryd.prog 10 #[.string ⟨#[104, 116, 116, 112, 115, 58, 47, 47, 97, 47, 99, 98, 63, 120]⟩, V] W fun e w' => e = .returned (.tuple #[.string ⟨#[104, 116, 116, 112, 115, 58, 47, 47, 97, 47, 99, 98, 63, 120, 38, 99, 111, 100, 101, 61, 49, 43, 50]⟩, .nilIface]) ∧ Below W.heap.size W w') := fun V W h1 h2 => by
    have := answer_any ⟨exA.toArray⟩ V exP W ea em h2 h1 (by decide) (by decide)
    rw [show (⟨exA.toArray⟩ : ByteArray).data.toList = exA from rfl, ex_ans] at this
    exact this
  have HLL : Hid (Lies ((w.alloc (.cells #[.string A, .slice ov q.length cv] 27)).alloc (.cells #[.string ⟨#[99, 111, 100, 101]⟩, .string ⟨#[49, 32, 50]⟩] 33)) (.slice (some ⟨w.heap.size + 1, 0, none⟩) 1 1) exP) := by
    have := lies_lit (w.alloc (.cells #[.string A, .slice ov q.length cv] 27))
    rw [show (w.alloc (.cells #[.string A, .slice ov q.length cv] 27)).heap.size = w.heap.size + 1 by simp] at this
    exact this
  have HB0 : Hid (Below (w.alloc (.cells #[.string A, .slice ov q.length cv] 27)).heap.size (w.alloc (.cells #[.string A, .slice ov q.length cv] 27)) ((w.alloc (.cells #[.string A, .slice ov q.length cv] 27)).alloc (.cells #[.string ⟨#[99, 111, 100, 101]⟩, .string ⟨#[49, 32, 50]⟩] 33))) := (Below.refl _ _).alloc (Nat.le_refl _) _
  go_enter Tryd.func4, Tryd.ntmps4
  go_wp2_with fail
  refine (HA1.out _ _ ((HE.out.below B0.out).below HB0.out) HLL.out).mono ?_
  rintro x w1 ⟨rfl, hb⟩
  have hW := HB0.out.trans (hb.mono HB0.out.size)
  have c0 := (hW.cell (p := ⟨w.heap.size, 0, none⟩) hlt).trans C0.out
  have c1 := (hW.cell (p := ⟨w.heap.size, 1, none⟩) hlt).trans C1.out
  have B1 := hide (keepD B0.out hW)
  clear hb hW C0 C1 B0 HB0 HLL HA1 hlt
  go_wp2_with fail
  have HC := hide (ans_cases ea em A.data.toList q)
  refine (answer_any A _ q w1 ea em (HL.out.below B1.out) (HE.out.below B1.out) (by omega) (by omega)).mono ?_
  rintro x w2 ⟨rfl, hb⟩
  have B2 := hide (keepD B1.out hb)
  clear hb c0 c1 B1
  generalize ansR ea em A.data.toList q = P at *
  obtain ⟨p1, p2⟩ := P
  have HC2 : Hid ((p1 = [] ∧ ∃ a, p2 = X a) ∨ (p2 = .nilIface ∧ redL p1 = decide (p1.length ≤ 512))) := HC.out
  obtain ⟨T, hT⟩ : ∃ T : ByteArray, (⟨p1.toArray⟩ : ByteArray) = T := ⟨_, rfl⟩
  have hp : p1 = T.data.toList := by rw [← hT]
  rw [show S (p1, p2).1 = .string T from congrArg Value.string hT]
  rw [show (p1, p2).2 = p2 from rfl]
  rw [hp] at HC2
  clear hT hp HC
  rcases HC2.out with ⟨h1, a, rfl⟩ | ⟨rfl, hr⟩
  · obtain rfl := str_nil T h1
    clear h1 HC2
    go_wp2_with fail
    go_ret
    exact ⟨rfl, B2.out⟩
  · rw [len_list] at hr
    have HE2 := hide (HE.out.below B2.out)
    have HR := hide (fun W hb => red_any T W ((HE.out.below hb).nums) ((HE.out.below hb).loc))
    by_cases hlen : T.size ≤ 512
    · have hli : ¬ (512 : Int) < (T.size : Int) := by omega
      rw [decide_eq_true hlen] at hr
      rw [hr] at HR
      have HN : Hid (Calls Tryd.prog 10 #[.string T, .slice none 0 0] w2 fun e w' => e = .returned (.tuple #[.string T, .nilIface]) ∧ Below w2.heap.size w2 w') := by
        have := answer_any T (.slice none 0 0) [] w2 ea em ⟨none, 0, rfl, fun i hi => absurd hi (Nat.not_lt_zero _)⟩ HE2.out (by decide) (by decide)
        rw [ans_none ea em hr] at this
        have e : S T.data.toList = .string T := congrArg Value.string (str_of T)
        show Calls _ _ _ _ _
        rw [← e]
        exact this
      clear hr HC2
      go_wp2_with fail
      refine HN.out.mono ?_
      rintro x w3 ⟨rfl, hb⟩
      have B3 := hide (keepD B2.out hb)
      clear hb
      go_wp2_with fail
      refine (HR.out _ B3.out).mono ?_
      rintro x w4 ⟨rfl, hb⟩
      have B4 := hide (keepD B3.out hb)
      clear hb
      go_wp2_with fail
      go_ret
      exact ⟨by simp, B4.out⟩
    · have hli : (512 : Int) < (T.size : Int) := by omega
      rw [decide_eq_false hlen] at hr
      rw [hr] at HR
      clear hr HC2
      go_wp2_with fail
      refine (HR.out _ B2.out).mono ?_
      rintro x w4 ⟨rfl, hb⟩
      have B4 := hide (keepD B2.out hb)
      clear hb
      go_wp2_with fail
      go_ret
      exact ⟨rfl, B4.out⟩
end Go.Proofs.YtmdjppjfjkgnpaaDoor.tm
