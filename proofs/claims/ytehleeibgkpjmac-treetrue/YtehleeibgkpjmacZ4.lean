/- The page of 0. -/
import Derived.WalkKit
namespace Go.Proofs.Ytehleeibgkpjmac
def Z4 : ByteArray := ⟨#[0, 0, 0, 0]⟩
end Go.Proofs.Ytehleeibgkpjmac
