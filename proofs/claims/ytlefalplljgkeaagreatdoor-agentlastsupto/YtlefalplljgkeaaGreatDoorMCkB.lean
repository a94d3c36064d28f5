import Derived.Test.YtlefalplljgkeaaGreatDoorMFieldTok
namespace Go.Proofs.YtlefalplljgkeaaGreatDoor.fd
open Go.ChangeShapes Go.WideShapes Go.ChangeAt Go.RowKit Go.Proofs.YtlefalplljgkeaaGreatDoor.common Go.Proofs.YtlefalplljgkeaaGreatDoor.bk
attribute [local go_sem ↓] Go.wp_at_zero Go.wp_at_succ

set_option maxHeartbeats 800000 in
theorem isCookieByte_any (b o : Nat) (c : UInt8) (w : World) (h : Tab w b o) :
    Calls Tryz.prog 33 #[.pointer (some ⟨b, o, none⟩), B c] w fun e w' => e = .returned (.bool (Fd.ck c)) ∧ w' = w := by
  have hc := c.toNat_lt
  have c0 := h.cell c
  clear h
  have hF := flag_ck c
  generalize Fd.flagN c.toNat = f at *
  generalize Fd.ck c = t at *
  have hci : (c.toNat : Int) < 256 := by omega
  have hc0 : (0 : Int) ≤ (c.toNat : Int) := Int.natCast_nonneg _
  rcases hF with ⟨rfl, rfl | rfl⟩ | ⟨rfl, rfl | rfl⟩
  all_goals
    go_enter Tryz.func33, Tryz.ntmps33
    go_wp2
    go_ret
    exact ⟨rfl, rfl⟩

theorem tests_ck (b o : Nat) (w : World) (h : Tab w b o) : Tests 33 (.pointer (some ⟨b, o, none⟩)) Fd.ck w :=
  fun W c hb => isCookieByte_any b o c W (h.below hb)
theorem enters_ck : ∀ args w, (callFunc 33 args).run Tryz.prog w = .ok (.enter 33 args) w := enters_of Tryz.func33 (by kernel_rfl) rfl

/-- may a cookie have this name and this value? -/
def isCk (n v : ByteArray) : Bool := Fd.token n.data.toList && v.data.toList.all Fd.ck

set_option maxRecDepth 100000 in
set_option maxHeartbeats 800000 in
theorem isCookie_any (b o : Nat) (n v : ByteArray) (w : World) (h : Tab w b o) (hn : n.size ≤ 4611686018427387904) (hv : v.size ≤ 4611686018427387904) :
    Calls Tryz.prog 16 #[.pointer (some ⟨b, o, none⟩), .string n, .string v] w fun e w' => e = .returned (.bool (isCk n v)) ∧ w' = w := by
  have HT := hide (isToken_any b o n w h hn)
  have HA := hide (all_m v _ (.pointer (some ⟨b, o, none⟩)) Fd.ck w hv enters_ck (tests_ck b o w h))
  clear h
  have hmf : ∀ (fn : Fn) (first cap : Array Value) (w : World), (Instr.makeFunc fn first cap).run Tryz.prog w = .ok (.func fn first cap) w := fun _ _ _ _ => rfl
  unfold isCk
  generalize Fd.token n.data.toList = t at *
  generalize v.data.toList.all Fd.ck = a at *
  cases t with
  | false =>
    go_enter Tryz.func16, Tryz.ntmps16
    go_wp2_with (go_at_call 31; refine HT.out.mono ?_; rintro x w2 ⟨rfl, rfl⟩)
    go_ret
    exact ⟨rfl, rfl⟩
  | true =>
    go_enter Tryz.func16, Tryz.ntmps16
    go_wp2_with (first
      | (go_at_call 31; refine HT.out.mono ?_; rintro x w2 ⟨rfl, rfl⟩)
      | (go_at_call 32; refine HA.out.mono ?_; rintro x w2 ⟨rfl, rfl⟩))
    go_ret
    exact ⟨rfl, rfl⟩

theorem ck_cases (c : UInt8) : (Fd.ck c = true ∧ (33 ≤ c.toNat ∧ c.toNat ≤ 126 ∧ c.toNat ≠ 34 ∧ c.toNat ≠ 44 ∧ c.toNat ≠ 59 ∧ c.toNat ≠ 92)) ∨ (Fd.ck c = false ∧ ¬ (33 ≤ c.toNat ∧ c.toNat ≤ 126 ∧ c.toNat ≠ 34 ∧ c.toNat ≠ 44 ∧ c.toNat ≠ 59 ∧ c.toNat ≠ 92)) := dec_cases rfl

end Go.Proofs.YtlefalplljgkeaaGreatDoor.fd

namespace Go.Proofs.YtlefalplljgkeaaGreatDoor.fd
open Go.ChangeShapes Go.WideShapes Go.ChangeAt Go.RowKit Go.Proofs.YtlefalplljgkeaaGreatDoor.common Go.Proofs.YtlefalplljgkeaaGreatDoor.bk
attribute [local go_sem ↓] Go.wp_at_zero Go.wp_at_succ

def ckB (n v : ByteArray) : ByteArray := (n ++ ⟨#[61]⟩) ++ v
theorem ckB_size (n v : ByteArray) : (ckB n v).size = n.size + 1 + v.size := by
  unfold ckB; rw [ByteArray.size_append, ByteArray.size_append]; rfl

theorem cookieText1_any (n v : ByteArray) (w : World) (hs : n.size + v.size ≤ 4611686018427387904) :
    Calls Tryz.prog 17 #[.string n, .string v] w fun e w' => e = .returned (.string (ckB n v)) ∧ w' = w := by
  have h1 : n.size ≤ 4611686018427387904 := by omega
  go_enter Tryz.func17, Tryz.ntmps17
  go_wp2_with fail
  go_ret
  exact ⟨rfl, rfl⟩

abbrev X (a : Addr) : Value := .iface 209 (.pointer (some a))
/-- a refusal lies in its variable -/
def Ev (g : Nat) (w : World) (x : Value) : Prop := w.cell? ⟨g, 0, none⟩ = some x
theorem Ev.lt {g : Nat} {w : World} {x : Value} (h : Ev g w x) : g < w.heap.size := World.block_lt_of_cell? w _ h
theorem Ev.below {g : Nat} {w w' : World} {x : Value} (h : Ev g w x) (hb : Below w.heap.size w w') : Ev g w' x := (hb.cell (p := ⟨g, 0, none⟩) h.lt).trans h

end Go.Proofs.YtlefalplljgkeaaGreatDoor.fd
