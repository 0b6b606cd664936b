import Derived.Test.YtekpghcckdjnhaaGreatDoorBa27
import Derived.Test.YtekpghcckdjnhaaGreatDoorBa31
set_option maxRecDepth 100000
set_option maxHeartbeats 8000000
namespace Go.Proofs.YtekpghcckdjnhaaGreatDoor
open Go.RowKit Go.Sort Go.Proofs.Tryz
def zlU (t:List UInt8) : Value:=match zgh t with
 | some i=>.tuple #[.int .i64 (i:Int),.bool true]
 | none=>.tuple #[.int .i64 0,.bool false]
theorem zck (s:ByteArray) (w:World) (hs:s.size<=1048576) :
  Calls prog 162 #[.string s] w fun e w'=>e = .returned (zlU s.data.toList)/\w=w':=by
 have hbad:¬ zm9 s.data.toList=true->zlU s.data.toList = .tuple #[.int .i64 0,.bool false]:=fun h=>by unfold zlU zgh; rw[yf h]
 have hdl:=zak s
 have HD:=zab (zgX s 6 w hs (by decide))
 obtain⟨z,b,hzb⟩:=zsl 6 s.data.toList
 have hrest:¬ (s.data.toList.getD 0 0=(48:UInt8)/\1 < s.size)->zlU s.data.toList=zpM 6 s.data.toList:=fun hz=>by
  by_cases hok:zou 6 s.data.toList
  ·have hi:zm9 s.data.toList=true:=zbs.2 ⟨hok.1,hok.2.1,fun ⟨a,b⟩=>hz ⟨UInt8.toNat_inj.1 a,by omega⟩,hok.2.2⟩
   unfold zlU zgh zpM; rw[yg hi,yg hok]
  ·rw[hbad (fun h=>hok ⟨(zbs.1 h).1,(zbs.1 h).2.1,(zbs.1 h).2.2.2⟩)]
   unfold zpM; rw[yf hok]
 rw[hzb] at HD hrest
 by_cases h1:1 < s.size
 ·have h0:0 < s.size:=by omega
  have hg0:(s.data.toList.getD 0 0)=s[0]:=by rw[List.getD,yx (by omega)]; rfl
  have hI:(0:Int) < (s.size:Int):=by omega
  have t4:(1:Int) < (s.size:Int):=by omega
  by_cases hz:s[0].toNat=48
  ·have HB:=zab (hbad (fun h=>(zbs.1 h).2.2.1 ⟨by rw[hg0]; exact hz,by omega⟩))
   have t3:((s[0].toNat:Int) == 48)=true:=by rw[yC]; omega
   clear hbad h1 hz hg0 hrest HD hzb
   go_enter func162,ntmps162
   go_wp2
   go_ret2
   exact⟨by rw[uh HB]; rfl,rfl⟩
  ·have HB:=zab (hrest (fun h=>hz (by rw[← hg0,h.1]; rfl)))
   have t3:((s[0].toNat:Int) == 48)=false:=by rw[yd]; omega
   clear hbad h1 hz hg0 hrest hzb
   go_enter func162,ntmps162
   go_wp2_with fail
   refine (uh HD).mono ?_
   rintro e w2 ⟨rfl,rfl⟩
   clear HD
   go_wp2
   go_ret2
   exact⟨by rw[uh HB]; rfl,rfl⟩
 ·have HB:=zab (hrest (fun h=>h1 h.2))
  have t4:¬ (1:Int) < (s.size:Int):=by omega
  clear hbad h1 hrest hzb
  go_enter func162,ntmps162
  go_wp2_with fail
  refine (uh HD).mono ?_
  rintro e w2 ⟨rfl,rfl⟩
  clear HD
  go_wp2
  go_ret2
  exact⟨by rw[uh HB]; rfl,rfl⟩
end Go.Proofs.YtekpghcckdjnhaaGreatDoor
