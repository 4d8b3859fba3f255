import Derived.Test.YtimgafblpmjajabGreatKa9
namespace Go.Proofs.YtimgafblpmjajabGreat
theorem fnExactOrder_holds : Rows.FnExactOrderSaid := fnExactOrder_of order_ok
#print axioms fnExactOrder_holds
end Go.Proofs.YtimgafblpmjajabGreat
