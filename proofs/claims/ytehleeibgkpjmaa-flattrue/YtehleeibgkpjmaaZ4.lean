/- The page of 0. -/
import Derived.WalkKit
namespace Go.Proofs.Ytehleeibgkpjmaa
def Z4 : ByteArray := ⟨#[0, 0, 0, 0]⟩
end Go.Proofs.Ytehleeibgkpjmaa
