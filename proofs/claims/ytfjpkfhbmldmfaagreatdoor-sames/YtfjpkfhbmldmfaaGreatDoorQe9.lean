/-
  The document's host.
-/
import Derived.Test.YtfjpkfhbmldmfaaGreatDoorQd9
namespace Go.Proofs.YtfjpkfhbmldmfaaGreatDoor
open Go.RowKit
def RParseOk (w:World):Prop:=∀(t:ByteArray) (wide:Bool) (wx:World),Below w.heap.size w wx→Calls Tryz.prog 92 #[.string t,.bool wide] wx fun e w'=>e=.returned (.tuple #[hostV (parse t.data.toList wide).1,.agg (spotV (parse t.data.toList wide).2)])∧Below wx.heap.size wx w'
theorem RParseOk.later {w w':World} (h:RParseOk w) (hb:Below w.heap.size w w'):RParseOk w':=fun t wide wx hx=>h t wide wx (hb.trans (hx.mono hb.size))
end Go.Proofs.YtfjpkfhbmldmfaaGreatDoor
