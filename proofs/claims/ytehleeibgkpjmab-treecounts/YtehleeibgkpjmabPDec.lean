/- The image of pair: what is decided of it. -/
import Derived.Test.YtehleeibgkpjmabPair
namespace Go.Proofs.Ytehleeibgkpjmab
open Go.RowKit Go.Shelf
set_option maxRecDepth 20000

abbrev pD : ImgD := pairD 6 [0, 2, 2, 1, 1] [3, 0, 0, 0]
theorem pD_shape : shapeE pD = 0 := by decide +kernel
theorem pD_check : checkE pD = 0 := by decide +kernel
theorem pD_cnt : cntL pD = [0, 2, 2, 1, 1] := by decide +kernel
theorem pD_look2 : lookE pD 2 = 0 := by decide +kernel
theorem pD_look4 : lookE pD 4 = 0 := by decide +kernel
theorem pD_lv2 : lookV pD pD.root (2 : Int).toNat = -1 := by decide +kernel
theorem pD_lv4 : lookV pD pD.root (4 : Int).toNat = 3 := by decide +kernel
theorem pX_check : checkE (pairD 6 [0, 1, 2, 1, 1] [3, 0, 0, 0]) = 9 := by decide +kernel
theorem pY_shape : shapeE (pairD 5 [0, 2, 2, 1, 1] [3, 3, 0, 0]) = 1 := by decide +kernel

end Go.Proofs.Ytehleeibgkpjmab
