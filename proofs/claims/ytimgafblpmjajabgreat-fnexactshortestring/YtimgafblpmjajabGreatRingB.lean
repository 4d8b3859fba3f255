import Derived.Test.YtimgafblpmjajabGreatKb1
namespace Go.Proofs.YtimgafblpmjajabGreat
theorem fnExactShortestRing_holds : Rows.FnExactShortestRingSaid := fnExactShortestRing_of ring_ok
#print axioms fnExactShortestRing_holds
end Go.Proofs.YtimgafblpmjajabGreat
