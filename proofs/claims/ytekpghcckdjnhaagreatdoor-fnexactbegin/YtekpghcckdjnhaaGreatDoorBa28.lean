import Derived.Test.YtekpghcckdjnhaaGreatDoorBa18
import Derived.Test.YtekpghcckdjnhaaGreatDoorBa10
set_option maxRecDepth 100000
set_option maxHeartbeats 8000000
namespace Go.Proofs.YtekpghcckdjnhaaGreatDoor
open Go.RowKit Go.Proofs.Tryz
theorem zjr (s:ByteArray) (w:World) (hs:s.size<=10000000) :
  Calls prog 100 #[.iface 229 (.string s)] w fun e w'=>e = .returned (.string (zac (34 :: (rs s++[34]))))/\Below w.heap.size w w':=by
 have HC:=zab (zdz w.heap.size w.heap.size [] s (w.alloc (.cells #[.pointer none,.slice none 0 0] 192)) (Lib.fresh_isBuilder _ _ w) (by simp) (by simp) hs)
 rw[List.nil_append] at HC
 go_enter func100,ntmps100
 go_wp2_with fail
 refine (uh HC).mono ?_
 rintro e w1 ⟨rfl,h1,b1,_⟩
 have B1:Below w.heap.size w w1:=((yH _ _).alloc (ye _) _).trans b1
 have hw1:=B1.size
 have HS:=zab (zfa w.heap.size w.heap.size (34 :: (rs s++[34])) w1 h1 hw1)
 clear h1 b1 HC
 go_wp2_with fail
 refine (uh HS).mono ?_
 rintro e w2 ⟨rfl,b2⟩
 have B2:=B1.trans b2
 go_wp2
 go_ret
 exact⟨rfl,B2⟩
end Go.Proofs.YtekpghcckdjnhaaGreatDoor
