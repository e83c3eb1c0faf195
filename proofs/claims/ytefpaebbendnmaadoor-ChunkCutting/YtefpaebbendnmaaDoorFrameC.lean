/- Proved: the tables that the law ChunkCutting's row lists. -/
import Derived.Test.YtefpaebbendnmaaDoorDFrame
namespace Go.Proofs.YtefpaebbendnmaaDoor
def laidC : List (String × DataW Unit) := [("unicode/utf8.acceptRanges", Rows.laid_unicode_utf8_acceptRanges), ("unicode/utf8.first", Rows.laid_unicode_utf8_first)]
end Go.Proofs.YtefpaebbendnmaaDoor
