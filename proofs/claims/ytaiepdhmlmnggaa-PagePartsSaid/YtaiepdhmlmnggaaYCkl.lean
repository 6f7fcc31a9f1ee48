/- CheckKey, CheckRow and CheckList of row. -/
import Derived.Test.YtaiepdhmlmnggaaYMbe
import Derived.Deep.RegionHeld3
namespace Go.Proofs.Ytaiepdhmlmnggaa
open Go.RowKit

def chkKey (bs : List BdD) (k : KeyD) : Int := if okS bs = true then keyE bs k else 150
def chkRow (bs : List BdD) (r : RowD) : Int := if okS bs = true then rowE bs r else 150
end Go.Proofs.Ytaiepdhmlmnggaa
