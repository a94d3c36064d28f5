import Derived.Test.YtpmmbnlfifbcfaaDoorPkSeal2
namespace Go.Proofs.YtpmmbnlfifbcfaaDoor.pk
open Go.ChangeShapes Go.WideShapes Go.ChangeAt Go.RowKit Go.Proofs.YtpmmbnlfifbcfaaDoor.common

abbrev pB : ByteArray := ⟨#[112, 97, 115, 115, 119, 111, 114, 100]⟩
abbrev qB : ByteArray := ⟨#[112, 97, 115, 115, 119, 111, 114, 101]⟩
abbrev lB : ByteArray := ⟨#[115, 97, 108, 116]⟩
set_option maxRecDepth 100000 in
theorem known : (shaw.foldOf [112, 97, 115, 115, 119, 111, 114, 100] [115, 97, 108, 116] 0 == shaw.foldOf [112, 97, 115, 115, 119, 111, 114, 101] [115, 97, 108, 116] 0) = false := by decide +kernel
theorem known_ne : sd pB lB 1 ≠ sd qB lB 1 := by
  intro h
  have h1 := congrArg (fun b : ByteArray => b.data.toList) h
  have h2 : shaw.foldOf [112, 97, 115, 115, 119, 111, 114, 100] [115, 97, 108, 116] 0 = shaw.foldOf [112, 97, 115, 115, 119, 111, 114, 101] [115, 97, 108, 116] 0 := by simpa [sd] using h1
  have := known
  rw [h2, beq_self_eq_true] at this
  cases this

end Go.Proofs.YtpmmbnlfifbcfaaDoor.pk
