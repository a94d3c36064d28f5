import Derived.Test.YtlbhiefamnpphaaDoorJdC2
namespace Go.Proofs.YtlbhiefamnpphaaDoor.jc
open Go.ChangeShapes Go.WideShapes Go.ChangeAt Go.RowKit Go.Proofs.YtlbhiefamnpphaaDoor.common Go.Proofs.YtlbhiefamnpphaaDoor.Jc

theorem has_date : ∀ n : Nat, ∃ x, Is n x
  | 0 => ⟨_, is_first⟩
  | n + 1 => by obtain ⟨x, h⟩ := has_date n; exact ⟨_, h.next⟩
end Go.Proofs.YtlbhiefamnpphaaDoor.jc
