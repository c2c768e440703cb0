/-
  The document's box.
-/
import Derived.Test.YtfjpkfhbmldmfaaGreatDoorQe9
namespace Go.Proofs.YtfjpkfhbmldmfaaGreatDoor
open Go.RowKit
theorem infoBx:(Tryz.prog.info? 27).map (·.size)=some 19:=by kernel_rfl
def boxC (l:List UInt8) (h:Ho):Array Value:=#[.string (txt l)]++hostC h
theorem boxC_size (l:List UInt8) (h:Ho) (ha:h.a.length=16):(boxC l h).size=19:=by
 unfold boxC
 rw[Array.size_append,hostC_size h ha]
 rfl
theorem boxC_one (l:List UInt8) (h:Ho):(boxC l h).all (·.oneCell')=true:=by
 have:=hostC_one h
 unfold boxC
 rw[Array.all_append,this]
 simp[Value.oneCell']
set_option maxHeartbeats 8000000 in
set_option maxRecDepth 100000 in
theorem build_box (M:ByteArray) (V:Array Value) (hV:V.size=18):Array.foldl (fun (cs:Array Value) (x:Value×Nat)=>cs.setIfInBounds (1+x.snd) x.fst) #[.string M,.int .i64 0,.string ⟨#[]⟩,.int .u8 0,.int .u8 0,.int .u8 0,.int .u8 0,.int .u8 0,.int .u8 0,.int .u8 0,.int .u8 0,.int .u8 0,.int .u8 0,.int .u8 0,.int .u8 0,.int .u8 0,.int .u8 0,.int .u8 0,.int .u8 0] V.zipIdx 0 18=#[.string M]++V:=by
 obtain⟨l⟩:=V
 match l,hV with
 |[a0,a1,a2,a3,a4,a5,a6,a7,a8,a9,a10,a11,a12,a13,a14,a15,a16,a17],_=>first|kernel_rfl|(simp)
end Go.Proofs.YtfjpkfhbmldmfaaGreatDoor
