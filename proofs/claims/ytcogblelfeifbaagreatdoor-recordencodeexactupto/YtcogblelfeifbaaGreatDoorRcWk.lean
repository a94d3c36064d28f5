import Derived.Test.YtcogblelfeifbaaGreatDoorRcWl
import Derived.Test.YtcogblelfeifbaaGreatDoorRcCheck
namespace Go.Proofs.YtcogblelfeifbaaGreatDoor.rc
open Go.ChangeShapes Go.WideShapes Go.ChangeAt Go.RowKit Go.Proofs.YtcogblelfeifbaaGreatDoor.common Go.Proofs.YtcogblelfeifbaaGreatDoor.dk

/-- a record as bytes -/
def idL (r : Rec) : List UInt8 := if nm r.k 1 then txL r.id else []
def midL (r : Rec) : List UInt8 := if r.k = 4 then txL r.rd ++ txL r.ch else if r.k = 6 ∨ r.k = 9 then txL r.cd else []
def endL (r : Rec) : List UInt8 := if r.k = 4 ∨ r.k = 6 ∨ r.k = 9 ∨ r.k = 3 then txL r.cl ++ (lsL r.ss ++ (txL r.us ++ numL r.at_.toNat)) else if r.k = 1 then txL r.us ++ numL r.at_.toNat else if r.k = 11 then txL r.cl ++ txL r.us else []
def recL (r : Rec) : List UInt8 := [UInt8.ofNat r.k.toNat] ++ (idL r ++ (midL r ++ endL r))
theorem nil_kind (a : Addr) (W : World) : (nilAhead 329 65 (.pointer (some a)) "usher/record.kind").run Tryz.prog W = .ok (some false) W := by kernel_rfl
theorem met_kind (a : Addr) (W : World) : (method 329 65 (.pointer (some a)) "usher/record.kind").run Tryz.prog W = .ok (226, .pointer (some a)) W := by kernel_rfl
theorem nil_text (a : Addr) (W : World) : (nilAhead 329 65 (.pointer (some a)) "usher/record.text").run Tryz.prog W = .ok (some false) W := by kernel_rfl
theorem met_text (a : Addr) (W : World) : (method 329 65 (.pointer (some a)) "usher/record.text").run Tryz.prog W = .ok (229, .pointer (some a)) W := by kernel_rfl
theorem nil_list (a : Addr) (W : World) : (nilAhead 329 65 (.pointer (some a)) "usher/record.list").run Tryz.prog W = .ok (some false) W := by kernel_rfl
theorem met_list (a : Addr) (W : World) : (method 329 65 (.pointer (some a)) "usher/record.list").run Tryz.prog W = .ok (227, .pointer (some a)) W := by kernel_rfl
theorem nil_number (a : Addr) (W : World) : (nilAhead 329 65 (.pointer (some a)) "usher/record.number").run Tryz.prog W = .ok (some false) W := by kernel_rfl
theorem met_number (a : Addr) (W : World) : (method 329 65 (.pointer (some a)) "usher/record.number").run Tryz.prog W = .ok (228, .pointer (some a)) W := by kernel_rfl
/-- what the writer is handed: a record in its box below, its list, the table of kinds -/
structure Src (b p : Nat) (r : Rec) (v : Value) (w : World) : Prop where
  lt : b < p
  box : ∀ X, Below p w X → X.cell? ⟨b, 0, none⟩ = some (.int .i64 r.k) ∧ X.cell? ⟨b, 1, none⟩ = some (.string r.id) ∧ X.cell? ⟨b, 2, none⟩ = some (.string r.us) ∧ X.cell? ⟨b, 3, none⟩ = some (.string r.cl) ∧ X.cell? ⟨b, 4, none⟩ = some (.string r.rd) ∧ X.cell? ⟨b, 5, none⟩ = some (.string r.ch) ∧ X.cell? ⟨b, 6, none⟩ = some (.string r.cd) ∧ X.cell? ⟨b, 7, none⟩ = some v ∧ X.cell? ⟨b, 8, none⟩ = some (.int .i64 r.at_)
  own : ∀ X, Below p w X → Go.Proofs.YtcogblelfeifbaaGreatDoor.ss.Lies X v r.ss
  tab : ∀ X, Below p w X → KTab X
/-- texts that can be written -/
structure Rec.Fine (r : Rec) : Prop where
  id : r.id.size ≤ 281474976
  us : r.us.size ≤ 281474976
  cl : r.cl.size ≤ 281474976
  rd : r.rd.size ≤ 281474976
  ch : r.ch.size ≤ 281474976
  cd : r.cd.size ≤ 281474976
  len : r.ss.length ≤ 16
  ss : ∀ s ∈ r.ss, s.size ≤ 281474976
  at0 : 0 ≤ r.at_
  at1 : r.at_ ≤ 9223372036854775807
theorem lsL_len (l : List ByteArray) (h : l.length ≤ 16) (h2 : ∀ s ∈ l, s.size ≤ 281474976) : (lsL l).length ≤ 4503599786 := by
  unfold lsL
  have h3 := flat_len l 281474976 h2
  have h4 : (numL l.length).length ≤ 10 := (numF_len 9 l.length).2
  have h5 := Nat.mul_le_mul_right (281474976 + 10) h
  rw [List.length_append]
  omega
end Go.Proofs.YtcogblelfeifbaaGreatDoor.rc
