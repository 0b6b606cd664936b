import Derived.Test.YtpaecnbdoljafaaGreatDoorBz30
import Derived.Test.YtpaecnbdoljafaaGreatDoorBz7
import Derived.Test.YtpaecnbdoljafaaGreatDoorBz4
namespace Go.Proofs.YtpaecnbdoljafaaGreatDoor
open Go.RowKit Go.Sort Go.Shelf Go.Proofs.Tryz
def WU(ts:List (List UInt8)):List (List UInt8):=ts.mergeSort (fun x y=>decide (x<=y))
theorem FZ(ts:List (List UInt8)):(WU ts).length=ts.length:=List.length_mergeSort _
theorem BI{B:Nat}(v:Value)(ts:List (List UInt8))(w:Wo)(h:OT w B v ts)(hl:ts.length<=1000000):
  Calls prog 49 #[v] w fun e w'=>e= .returned (.tuple #[])/\OT w' B v (WU ts)/\w.grownBy w' v.ownBlock:=by
 rcases h.2 with ⟨f,j⟩ |⟨g,a,b,f,p,d,k,l,m,i⟩
 ·subst f;have:ts=[]:=yO j;subst this;refine (AnyM.slices_Sort_string_none Tryz.sortA none 0 w).mono ?_;rintro e w' ⟨rfl,rfl⟩;exact⟨rfl,by rw[show WU []=[] by simp[WU]];exact h,World.grownBy.refl _ _⟩
 ·subst f;have o:List.take ts.length b.toList=ts.map encStr:=by rw[Nat.mul_one]at i;exact i
  refine (AnyM.slices_Sort_string Tryz.sortA g 0 a ts w (holds_of_block d o) (yC.1 d).1 (by omega)).mono ?_;rintro e w' ⟨rfl,n,os,rfl⟩;refine⟨rfl,?_,grownBy_sorted _⟩;have:=ownsRow_sorted (n:=n) (os:=os) (ts:=WU ts) (ss:=ts) (FZ ts) p d k l m;unfold OT;rw[FZ];exact this
theorem BJ{B:Nat}(v:Value)(ts:List (List UInt8))(w:Wo)(h:OT w B v ts)(hl:ts.length<=1000000):
  Calls prog 50 #[v] w fun e w'=>∃ v',e= .returned v'/\OT w' B v' (Lib.compact ts)/\w.grownBy w' v.ownBlock:=by
 have A:=zen ts;rcases h.2 with ⟨f,r⟩ |⟨g,b,a,f,z,p,s,u,i,j⟩
 ·subst f;have:ts=[]:=yO r;subst this;refine (Tryz.slices_Compact_string_empty none 0 w).mono ?_;rintro e w' ⟨rfl,rfl⟩;exact⟨_,rfl,h,World.grownBy.refl _ _⟩
 ·subst f;have x:List.take ts.length a.toList=ts.map encStr:=by rw[Nat.mul_one]at j;exact j
  refine (Tryz.slices_Compact_string g 0 b ts w (holds_of_block p x) (by omega) s).mono ?_;rintro e w' ⟨rfl,q,rfl⟩;have m:(Lib.compact ts++List.replicate (ts.length - (Lib.compact ts).length) ([]:List UInt8)).length=ts.length:=by rw[yh,List.length_replicate];omega
  generalize hDD:Lib.compact ts++List.replicate (ts.length - (Lib.compact ts).length) ([]:List UInt8)=D at *;have o:=heap_sorted (n:=q) (os:=#[]) D.toArray p;rw[grow_empty]at o;have d:=grownBy_sorted (w:=w) (g:=g) (n:=q) (os:=#[]) D.toArray;rw[grow_empty]at d;refine⟨_,rfl,⟨by simp,.inr ⟨g,b,putCells encStr 0 D.toArray a,rfl,z,o,by omega,u,by simp[putCells,i],?_⟩⟩,d⟩;have k:=take_putCells a D (by rw[m,i];omega);rw[m]at k;have l:=congrArg (List.take (Lib.compact ts).length) k;have y:D.take (Lib.compact ts).length=Lib.compact ts:=by rw[← hDD,List.take_left]
  rw[List.take_take,Nat.min_eq_left A,← List.map_take,y]at l;rw[Nat.mul_one];exact l
end Go.Proofs.YtpaecnbdoljafaaGreatDoor
