/- What the document's own answer on days and dates (package shiftbellref) comes to: the same plain mathematics; each contract by a walk over its own text. -/
import Derived.Test.YthebcdadoinflaaDoorCiv
namespace Go.Proofs.YthebcdadoinflaaDoor
open Go.RowKit Cal

end Go.Proofs.YthebcdadoinflaaDoor
