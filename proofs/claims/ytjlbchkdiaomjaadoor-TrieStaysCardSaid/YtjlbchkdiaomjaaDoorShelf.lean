/- Go's library's sort by a comparison, laid at this program's numbers. -/
import Derived.Shelf.Lay
import Derived.Shelf.LaySoft
import Derived.Shelf.SlSortCmp.NoneTotal
import Derived.Test.YtjlbchkdiaomjaaDoorProg
namespace Go.Proofs
shelf_try shelf_lay_g SlLaysF0.n6 Slsf 6 at Tryd 58 as Tryd.sortP
shelf_tried
end Go.Proofs
