import Derived.Test.YtpaecnbdoljafaaGreatDoorBz10
import Derived.Shelf.Spec.SlicesGrow
set_option maxRecDepth 100000
set_option maxHeartbeats 8000000
namespace Go.Proofs.YtpaecnbdoljafaaGreatDoor
open Go.RowKit Go.Proofs.Tryz
end Go.Proofs.YtpaecnbdoljafaaGreatDoor
namespace Go.Proofs.YtpaecnbdoljafaaGreatDoor
open Go.RowKit Go.Lib Go.Proofs.Tryz
theorem zbQ(n:Nat)(w:Wo)(hn:n<=1000000):
  Calls prog 226 #[.slice none 0 0,.int .i64 (n:Int)] w fun e w'=>∃ r,e= .returned r/\OT w' w.heap.size r []/\Bw w w':=by
 obtain⟨j,g,i,u,d⟩:=info_parts Vi;by_cases q:n=0
 ·subst q;go_in;go_wp2;go_ret;exact⟨_,rfl,World.ownsRow_nil w w.heap.size 9 1,yI _ _⟩
 ·have m:(0:Int)<(n:Int):=by omega
  have s:¬ (n:Int)<0:=by omega
  have hold:(Builtin.firstCells j.size 0 (.slice none 0 0)).run prog w.drew= .ok (([]:List Value).toArray) w.drew:=run_firstCells_none w.drew j.size 0 0 0;have b:∀ ty,(Builtin.append_ #[30,3] ty #[.slice none 0 0,.int .i64 (n:Int)]).run prog w=
    .ok (.slice (some ⟨w.heap.size,0,none⟩) n (grownCap w n 0 9)) (w.drew.alloc (.cells (([]:List Value).toArray++Builtin.zeroCells (Value.string ByteArray.empty).cells n++Builtin.zeroCells (Value.string ByteArray.empty).cells (grownCap w n 0 9 - n)) 9)):=fun ty=>by
   have h:=Lib.run_append_grow_zeros w 30 3 ty 9 j (.string ByteArray.empty) .i64 .i64 underlying30 underlying3 g i none 0 0 [] hold n (by omega) (by omega) (by omega) (by omega)
    (by rw[d];omega)
    (by rw[Nat.zero_add];exact growslice_fits (by omega) (by rw[d];omega))
   rw[Nat.zero_add]at h;exact h
  have f:n<=grownCap w n 0 9:=grownCap_ge w _ _ _;have a:grownCap w n 0 9<=maxLen:=grownCap_le_maxLen w n 0 9 (by unfold maxLen;omega);obtain⟨G,k⟩:∃ G,G=grownCap w n 0 9:=⟨_,rfl⟩;rw[← k]at b f a;have l:G<=9223372036854775807:=by unfold maxLen at a;omega
  have p:Hid (OT (w.alloc (.cells (Builtin.zeroCells #[Value.string ByteArray.empty] n++Builtin.zeroCells #[Value.string ByteArray.empty] (G - n)) 9)).drew w.heap.size (.slice (some ⟨w.heap.size,0,none⟩) 0 G) []):=by
   refine⟨rfl,.inr ⟨w.heap.size,G,_,rfl,ye _,yH w _,yu _,a,?_,rfl⟩⟩;rw[Array.size_append,size_zeroCells,size_zeroCells];simp;omega
  have o:Hid (Bw w (w.alloc (.cells (Builtin.zeroCells #[Value.string ByteArray.empty] n++Builtin.zeroCells #[Value.string ByteArray.empty] (G - n)) 9)).drew):=((yI _ _).alloc (ye _) _).drew;clear hold k;go_in;go_wp2_with (at_builtin;refine Lib.wpList_append_run _ rfl _ _ _ _ rfl _ _ rfl rfl _ _ (b _) ?_)
  all_goals (go_ret;exact⟨_,rfl,uh p,uh o⟩)
theorem zbR{B1 B2:Nat}(g:Nat)(v1 v2:Value)(ts us:List (List UInt8))(w:Wo)(c0:w.cell? ⟨g,0,none⟩=some v1)(c1:w.cell? ⟨g,1,none⟩=some v2)(h1:OT w B1 v1 ts)(h2:OT w B2 v2 us)(hl:ts.length+us.length<=1000000):
  Calls prog 198 #[.slice (some ⟨g,0,none⟩) 2 2] w fun e w'=>∃ r,e= .returned r/\OT w' w.heap.size r (ts++us)/\Bw w w':=by
 obtain⟨I,M,K,rfl,-,-⟩:=h1.shape;obtain⟨J,N,L,rfl,-,-⟩:=h2.shape;have E:=ze h1;have F:=ze h2;clear h1 h2;have n:g<w.heap.size:=yK _ _ c0;have HC:Hid (∀ wx,Bw w wx->wx.cell? ⟨g,0,none⟩=some (.slice I ts.length K)/\wx.cell? ⟨g,1,none⟩=some (.slice J us.length L)):=fun wx hx=>⟨(hx.cell (p:=⟨g,0,none⟩) n).trans c0,(hx.cell (p:=⟨g,1,none⟩) n).trans c1⟩;go_in;go_wp2;go_loopw [3,11] (fun z i wr=>((z= .int .i64 0/\i= .int .i64 0)∨(z= .int .i64 (ts.length:Int)/\i= .int .i64 1)∨(z= .int .i64 ((ts.length+us.length:Nat):Int)/\i= .int .i64 2))/\w=wr) (fun _ i _=>2 - (RowKit.intOf i).toNat)
 case atStart=>exact⟨.inl ⟨rfl,rfl⟩,rfl⟩
 case round=>
  obtain⟨u,rfl⟩:=hrel;rcases u with ⟨rfl,rfl⟩ |⟨rfl,rfl⟩ |⟨rfl,rfl⟩
  ·go_wp2;go_roundw
   case rel=>exact⟨.inr (.inl ⟨by go_num,by go_num⟩),trivial⟩
   case measure=>simp[RowKit.intOf]
  ·go_wp2;go_roundw
   case rel=>exact⟨.inr (.inr ⟨by go_num,by go_num⟩),trivial⟩
   case measure=>simp[RowKit.intOf]
  ·have y:=ze (zbQ (ts.length+us.length) w (by omega));clear c0 c1;go_wp2_with fail;refine (uh y).mono ?_;rintro e O ⟨r,rfl,D,A⟩;have s:=ze D;have q:=ze A;clear y D A;go_wp2;go_loopw [6,27] (fun r i wr=>((OT wr w.heap.size r []/\i= .int .i64 0)∨(OT wr w.heap.size r ts/\i= .int .i64 1)∨(OT wr w.heap.size r (ts++us)/\i= .int .i64 2))/\Bw w wr) (fun _ i _=>2 - (RowKit.intOf i).toNat)
   case atStart=>exact⟨.inl ⟨uh s,rfl⟩,uh q⟩
   case round=>
    obtain⟨u,a⟩:=hrel;obtain⟨B,C⟩:=uh HC wr a;have d:=a.size;have j:=ze a;have G:=ze (Zd (uh E) a);have H:=ze (Zd (uh F) a);clear a;rcases u with ⟨f,rfl⟩ |⟨f,rfl⟩ |⟨f,rfl⟩
    ·have k:=ze f;clear f;go_wp2_with (at_builtin;refine NB rfl (.tmp 31) (.tmp 32) rfl rfl rfl (uh k) (uh G) d (by simp;omega) ?_);intro v x o m;have h:=ze ((uh j).grown m d (fun b a=>((uh k).lt b a).1));have l:Hid (OT x w.heap.size v ts):=o;clear o m B C;go_wp2;go_roundw
     case rel=>exact⟨.inr (.inl ⟨uh l,by go_num⟩),uh h⟩
     case measure=>simp[RowKit.intOf]
    ·have k:=ze f;clear f;go_wp2_with (at_builtin;refine NB rfl (.tmp 31) (.tmp 32) rfl rfl rfl (uh k) (uh H) d hl ?_);intro v x o m;have h:=ze ((uh j).grown m d (fun b a=>((uh k).lt b a).1));have l:Hid (OT x w.heap.size v (ts++us)):=o;clear o m B C;go_wp2;go_roundw
     case rel=>exact⟨.inr (.inr ⟨uh l,by go_num⟩),uh h⟩
     case measure=>simp[RowKit.intOf]
    ·have k:=ze f;clear f;go_wp2;go_ret;exact⟨_,rfl,uh k,uh j⟩
end Go.Proofs.YtpaecnbdoljafaaGreatDoor
