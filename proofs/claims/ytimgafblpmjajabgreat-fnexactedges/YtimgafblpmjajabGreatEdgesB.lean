import Derived.Test.YtimgafblpmjajabGreatKa9
namespace Go.Proofs.YtimgafblpmjajabGreat
theorem fnExactEdges_holds : Rows.FnExactEdgesSaid := fnExactEdges_of edges_ok
#print axioms fnExactEdges_holds
end Go.Proofs.YtimgafblpmjajabGreat
