import Derived.Test.YtekpghcckdjnhaaGreatDoorBa35
import Derived.Test.YtekpghcckdjnhaaGreatDoorBa31
set_option maxRecDepth 100000
set_option maxHeartbeats 8000000
namespace Go.Proofs.YtekpghcckdjnhaaGreatDoor
open Go.RowKit Go.Sort Go.Proofs.Tryz
theorem zhp (n:Nat) (w:World) (hn:n<=10000000) :
  Calls prog 156 #[.int .i64 (n:Int)] w fun e w'=>e = .returned (szV 1 1 (hold n))/\Below w.heap.size w w':=by
 have hm:max (0:Int) ((n:Int) - 1)=((n - 1:Nat) : Int):=by omega
 have RX:Hid (Szb w.heap.size 1 1 (hold n) (w.alloc (.cells #[.int .i64 1,.int .i64 1,.int .i64 (2+((n - 1:Nat) : Int))] 188))):=by
  have e:(2+((n - 1:Nat) : Int))=((hold n:Nat) : Int):=by unfold hold; omega
  rw[e]; exact yG w _
 go_enter func156,ntmps156
 go_wp2
 try simp only[Exit.inBlock,Exit.then]
 refine bodyPost_ret (zjy rfl rfl (uh RX)) rfl ?_
 exact⟨rfl,(yH _ _).alloc (ye _) _⟩
def zfk (v:JV) : Prop:=∀ (w:World) (S:Nat->Prop) (t:TypeId) (p:Value),Rep w S v (.iface t p)->(∀ k,S k->k < w.heap.size)->zjs w.heap.size w->(ct v).length<=10000000->zaA v<=10000000->zaY v<=10000000 ->
 Calls prog 129 #[.iface t p] w fun e w'=>e = .returned (szV (zaY v) (zaA v) (ct v).length)/\Below w.heap.size w w'
theorem zsV {w w':World} (h:Below w.heap.size w w') : w.grownBy w' none:=⟨h.os,h.tape,h.output,h.size,fun k hk _=>h.block k hk⟩
theorem zfl (w:World) (p:Addr) (v:Value) : w.grownBy (w.setCell p v) (some p.block):=by
 refine⟨(yH 0 w |>.setCell (p:=p) (yt _) v).os,(yH 0 w |>.setCell (p:=p) (yt _) v).tape,(yH 0 w |>.setCell (p:=p) (yt _) v).output,(yH 0 w |>.setCell (p:=p) (yt _) v).size,fun k hk hne=>Below.heap_setCell w p v k (fun e=>hne (by rw[e]))⟩
theorem zkR (sb d c n d1 c1 n1:Nat) (t:TypeId) (p:Value) (w:World) (h:Szb sb d c n w) (hd:d<=10000000) (hd1:d1<=10000000) (hc:c<=10000000) (hc1:c1<=10000000) (hn:n<=1000000000) (hn1:n1<=1000000000)
  (hs:Calls prog 129 #[.iface t p] w fun e w'=>e = .returned (szV d1 c1 n1)/\Below w.heap.size w w') :
  Calls prog 157 #[.pointer (some ⟨sb,0,none⟩),.iface t p] w fun e w'=>e = .returned (.tuple #[])/\Szb sb (max d (d1+1)) (c+c1) (n+n1) w'/\w.grownBy w' (some sb):=by
 have HS:=zab hs
 have H:=zab h
 clear hs h
 go_enter func157,ntmps157
 go_wp2_with fail
 refine (uh HS).mono ?_
 rintro e w1 ⟨rfl,b1⟩
 have H1:=(uh H).below b1
 have hlt1:=H1.lt
 have H2:=H1.alloc (szB d1 c1 n1)
 have N2:Szb w1.heap.size d1 c1 n1 (w1.alloc (szB d1 c1 n1)):=yG w1 _
 have G2:=(zsV b1).andThen (World.grownBy_alloc w1 (szB d1 c1 n1) none) (fun j e=>by cases e)
 clear HS H H1 b1
 obtain⟨M,hM⟩ : ∃ M,max d (d1+1)=M:=⟨_,rfl⟩
 have hm:max (d:Int) ((d1:Int)+1)=(M:Int):=by omega
 have HM:=zab hM
 have hM2:M<=10000001:=by omega
 clear hM
 simp only[szV]
 go_wp2_with fail
 generalize hW:w1.alloc (szB d1 c1 n1)=W at *
 clear hW
 have A0:W.drew.cell? ⟨sb,0,none⟩=some (.int .i64 (d:Int)):=H2.c0
 have A1:W.drew.cell? ⟨w1.heap.size,0,none⟩=some (.int .i64 (d1:Int)):=N2.c0
 have A2:W.drew.frozen? ⟨sb,0,none⟩=false:=H2.fz 0
 have H3:Hid (Szb sb M c n (W.setCell ⟨sb,0,none⟩ (.int .i64 (M:Int))).drew):=Szb.set0 (w:=W) H2 (M:Int) _ (by omega)
 have N3:Hid (Szb w1.heap.size d1 c1 n1 (W.setCell ⟨sb,0,none⟩ (.int .i64 (M:Int))).drew):=Szb.other (w:=W) N2 (p:=⟨sb,0,none⟩) (by show w1.heap.size≠sb; omega) _
 have G3:Hid (w.grownBy (W.setCell ⟨sb,0,none⟩ (.int .i64 (M:Int))).drew (some sb)):=by
  have g:=(World.grownBy.but G2 (some sb)).andThen (zfl W ⟨sb,0,none⟩ (.int .i64 (M:Int))) (fun j e=>.inr e)
  exact⟨g.os,g.tape,g.output,g.size,g.block⟩
 clear H2 N2 G2
 go_region
 clear A0 A1 A2 hm
 generalize (W.setCell ⟨sb,0,none⟩ (.int .i64 (M:Int))).drew=W3 at *
 go_wp2_with fail
 have A0:W3.drew.cell? ⟨sb,1,none⟩=some (.int .i64 (c:Int)):=(uh H3).c1
 have A1:W3.drew.cell? ⟨w1.heap.size,1,none⟩=some (.int .i64 (c1:Int)):=(uh N3).c1
 have A2:W3.drew.frozen? ⟨sb,1,none⟩=false:=(uh H3).fz 1
 have H4:Hid (Szb sb M (c+c1) n (W3.setCell ⟨sb,1,none⟩ (.int .i64 ((c:Int)+(c1:Int)))).drew):=Szb.set1 (w:=W3) (uh H3) ((c:Int)+(c1:Int)) _ (by omega)
 have N4:Hid (Szb w1.heap.size d1 c1 n1 (W3.setCell ⟨sb,1,none⟩ (.int .i64 ((c:Int)+(c1:Int)))).drew):=Szb.other (w:=W3) (uh N3) (p:=⟨sb,1,none⟩) (by show w1.heap.size≠sb; omega) _
 have G4:Hid (w.grownBy (W3.setCell ⟨sb,1,none⟩ (.int .i64 ((c:Int)+(c1:Int)))).drew (some sb)):=by
  have g:=(uh G3).andThen (zfl W3 ⟨sb,1,none⟩ (.int .i64 ((c:Int)+(c1:Int)))) (fun j e=>.inr e)
  exact⟨g.os,g.tape,g.output,g.size,g.block⟩
 clear H3 N3 G3
 go_region
 clear A0 A1 A2
 generalize (W3.setCell ⟨sb,1,none⟩ (.int .i64 ((c:Int)+(c1:Int)))).drew=W4 at *
 go_wp2_with fail
 have A0:W4.drew.cell? ⟨sb,2,none⟩=some (.int .i64 (n:Int)):=(uh H4).c2
 have A1:W4.drew.cell? ⟨w1.heap.size,2,none⟩=some (.int .i64 (n1:Int)):=(uh N4).c2
 have A2:W4.drew.frozen? ⟨sb,2,none⟩=false:=(uh H4).fz 2
 have H5:Hid (Szb sb M (c+c1) (n+n1) (W4.setCell ⟨sb,2,none⟩ (.int .i64 ((n:Int)+(n1:Int)))).drew):=Szb.set2 (w:=W4) (uh H4) ((n:Int)+(n1:Int)) _ (by omega)
 have N5:Hid (Szb w1.heap.size d1 c1 n1 (W4.setCell ⟨sb,2,none⟩ (.int .i64 ((n:Int)+(n1:Int)))).drew):=Szb.other (w:=W4) (uh N4) (p:=⟨sb,2,none⟩) (by show w1.heap.size≠sb; omega) _
 have G5:Hid (w.grownBy (W4.setCell ⟨sb,2,none⟩ (.int .i64 ((n:Int)+(n1:Int)))).drew (some sb)):=by
  have g:=(uh G4).andThen (zfl W4 ⟨sb,2,none⟩ (.int .i64 ((n:Int)+(n1:Int)))) (fun j e=>.inr e)
  exact⟨g.os,g.tape,g.output,g.size,g.block⟩
 clear H4 N4 G4
 go_region
 clear A0 A1 A2
 generalize (W4.setCell ⟨sb,2,none⟩ (.int .i64 ((n:Int)+(n1:Int)))).drew=W5 at *
 go_wp2
 go_end0
 exact⟨rfl,by rw[uh HM]; exact uh H5,uh G5⟩
theorem zvh (a:List (List UInt8)) (t:List UInt8) : nl (a++[t])=nl a+t.length:=by simp[nl]
theorem zjs.more {B B':Nat} {w:World} (h:zjs B w) (hB:B<=B') : zjs B' w:=⟨yE h.1 hB,h.2⟩
theorem zjA {w w':World} {sb B:Nat} (h:w.grownBy w' (some sb)) (hB:B<=sb) (hs:sb < w.heap.size) : Below B w w':=
 ⟨h.os,h.tape,h.output,h.size,fun k hk=>h.block k (by omega) (by intro e; injection e with e; omega)⟩
theorem zsW (l:JL) (hall:∀ v∈l.toL,zfk v) : zfk (.arr l):=by
 intro w S t p h hS hP hlen hcn hdp
 rw[Rep] at h
 obtain⟨ab,sv,xs,h,hSab,hab,hrow,hrl⟩:=h
 injection h with h1 h2; subst h1; subst h2
 obtain⟨a,g,cap,rfl,hadr,hcell⟩:=zbD hrow
 have hxl:=(zbJ l xs hrl).1
 have hc0:w.cell? ⟨ab,0,none⟩=some (.slice a xs.length cap):=by rw[yF hab]; rfl
 have hablt:ab < w.heap.size:=hS _ hSab
 have hct:(ct (.arr l)).length=hold xs.length+nl (ctL l):=by
  show (mkA (ctL l)).length=_
  have:=zeJ (ctL l)
  have e:(ctL l).length=xs.length:=by rw[zaG,yl,hxl]
  rw[e] at this
  simp[mkA]; omega
 have hcv:zaA (.arr l)=cl l.toL+1:=by rw[zaA,zh1]
 have hdv:zaY (.arr l)=dl l.toL+1:=by rw[zaY,ze5]
 have hxn:xs.length<=10000000:=by unfold hold at hct; omega
 have HR:Hid (szV (zaY (.arr l)) (zaA (.arr l)) (ct (.arr l)).length=szV (dl l.toL+1) (cl l.toL+1) (hold xs.length+nl (ctL l))):=by show _=_; rw[hcv,hdv,hct]
 rw[hct] at hlen
 rw[hcv] at hcn
 rw[hdv] at hdp
 have HALL:Hid (∀ (k:Nat) (hk:k < xs.length),∃ t p dk ck nk,xs[k] = .iface t p/\dk<=10000000/\ck<=10000000/\nk<=10000000/\dl (l.toL.take (k+1))=max (dl (l.toL.take k)) dk/\cl (l.toL.take (k+1))=cl (l.toL.take k)+ck/\nl ((ctL l).take (k+1))=nl ((ctL l).take k)+nk /\
   ∀ wr:World,Below w.heap.size w wr->Calls prog 129 #[.iface t p] wr fun e w'=>e = .returned (szV dk ck nk)/\Below wr.heap.size wr w'):=by
  intro k hk
  have hk':k < l.toL.length:=by omega
  have hr:=(zbJ l xs hrl).2 k hk hk'
  obtain⟨t,p,he⟩:=za8 hr
  rw[he] at hr
  have d1:=zvP l.toL k hk'
  have c1:zaA l.toL[k]<=cl l.toL:=by have:=zfE (l.toL.map zaA) k (by simpa using hk'); simpa [cl] using this
  have n1:(ct l.toL[k]).length<=nl (ctL l):=by have:=zfE ((ctL l).map List.length) k (by rw[zaG]; simpa using hk'); simpa [nl,zaG] using this
  refine⟨t,p,zaY l.toL[k],zaA l.toL[k],(ct l.toL[k]).length,he,by omega,by omega,by omega,?_,?_,?_,fun wr hb'=>?_⟩
  ·rw[yy hk']; exact zrD _ _
  ·rw[yy hk']; exact zrE _ _
  ·rw[yy (show k < (ctL l).length by rw[zaG,yl]; exact hk'),zvh]
   simp[zaG]
  ·have hr':=Rep.keep (w':=wr) (S':=S) (fun k hk=>hb'.block k (hS k hk)) (fun _ h=>h) _ _ hr
   exact hall _ (yr hk') wr S t p hr' (fun k hk=>yE (hS k hk) hb'.size) ((hP.next hb' (ye _)).more hb'.size) (by omega) (by omega) (by omega)
 have HB1:Hid (∀ k,dl (l.toL.take k)<=dl l.toL/\cl (l.toL.take k)<=cl l.toL/\nl ((ctL l).take k)<=nl (ctL l)):=fun k=>by
  refine⟨zrF _ _,?_,?_⟩
  ·unfold cl; rw[List.map_take]; exact zgK _ _
  ·unfold nl; rw[List.map_take]; exact zgK _ _
 have HE:Hid (l.toL.take xs.length=l.toL/\(ctL l).take xs.length=ctL l):=⟨yq (by omega),yq (by rw[zaG,yl]; omega)⟩
 have HC:Hid (∀ j (hj:j < xs.length) (wr:World),Below w.heap.size w wr->wr.cell? ⟨g,j,none⟩=some xs[j]):=fun j hj wr hb'=>by
  have hg:g < w.heap.size:=hS _ ((hadr (by omega)).2)
  exact (hb'.cell (p:=⟨g,j,none⟩) hg).trans (hcell j hj)
 have hadr':0 < xs.length->a=some ⟨g,0,none⟩:=fun h=>(hadr h).1
 have HH:Hid (Calls prog 156 #[.int .i64 (xs.length:Int)] (w.alloc (szB 0 0 0)) fun e w'=>e = .returned (.agg #[.int .i64 1,.int .i64 1,.int .i64 ((hold xs.length:Nat) : Int)])/\Below (w.alloc (szB 0 0 0)).heap.size (w.alloc (szB 0 0 0)) w'):=zhp xs.length (w.alloc (szB 0 0 0)) hxn
 have t1:∀ w:World,(Instr.typeAssert (.iface 195 (.pointer (some ⟨ab,0,none⟩))) 66 195 true).run prog w = .ok (.tuple #[.pointer (some ⟨ab,0,none⟩),.bool true]) w:=fun _=>by kernel_rfl
 have hca:(w.alloc (.cells #[.int .i64 0,.int .i64 0,.int .i64 0] 188)).cell? ⟨ab,0,none⟩=some (.slice a xs.length cap):=((zcI w).cell (p:=⟨ab,0,none⟩) hablt).trans hc0
 have hlt0:w.heap.size < (w.alloc (szB 0 0 0)).heap.size:=by simp
 generalize hvs:l.toL=vs at *
 generalize ctL l=cs at *
 clear hrow hrl hcell hadr hS hP hab hct hcv hdv hall hxl hSab hc0 hvs
 go_enter func129,ntmps129
 go_wp2_with fail
 refine (uh HH).mono ?_
 rintro e w1 ⟨rfl,b1⟩
 have R1:=(zmv w).below b1
 have c1:w1.cell? ⟨ab,0,none⟩=some (.slice a xs.length cap):=(b1.cell (p:=⟨ab,0,none⟩) (by show ab < _; omega)).trans hca
 have hw1:=b1.size
 have B1:=zaa (zcI w) b1
 have c2:(w1.alloc (.cells #[.int .i64 1,.int .i64 1,.int .i64 ((hold xs.length:Nat) : Int)] 188)).cell? ⟨ab,0,none⟩=some (.slice a xs.length cap):=((yH w1.heap.size w1).alloc (ye _) (szB 1 1 (hold xs.length)) |>.cell (p:=⟨ab,0,none⟩) (by show ab < _; omega)).trans c1
 have S2:Hid (Szb w1.heap.size 1 1 (hold xs.length) (w1.alloc (szB 1 1 (hold xs.length)))):=yG w1 _
 have R2:=zab (R1.alloc (szB 1 1 (hold xs.length)))
 have B2:=zab (B1.alloc B1.size (szB 1 1 (hold xs.length)))
 have hlt2:w1.heap.size < (w1.alloc (szB 1 1 (hold xs.length))).heap.size:=by simp
 clear HH R1 b1 hca c1 B1
 have E0:Hid (dl (vs.take 0)+1=1/\cl (vs.take 0)+1=1/\hold xs.length+nl (cs.take 0)=hold xs.length):=⟨rfl,rfl,rfl⟩
 go_wp2_with fail
 go_loopw [26] (fun i wr=>∃ k:Nat,k<=xs.length/\i = .int .i64 k/\Szb w1.heap.size (dl (vs.take k)+1) (cl (vs.take k)+1) (hold xs.length+nl (cs.take k)) wr/\(w1.alloc (szB 1 1 (hold xs.length))).grownBy wr (some w1.heap.size)) (fun i _=>xs.length - (intOf i).toNat)
 case atStart=>exact⟨0,yt _,rfl,uh S2,World.grownBy.refl _ _⟩
 case round=>
  obtain⟨k,hk,rfl,hz,hg⟩:=hrel
  have bw:=(uh B2).trans (zjA hg (B:=w.heap.size) (by omega) hlt2)
  clear S2
  by_cases hlt:k < xs.length
  ·have hltI:(k:Int) < (xs.length:Int):=by omega
   obtain rfl:=hadr' (by omega)
   have hck:=uh HC k hlt wr bw
   obtain⟨t,p,dk,ck,nk,he,hd1,hc1,hn1,e1,e2,e3,hcall⟩:=uh HALL k hlt
   rw[he] at hck
   obtain⟨x1,x2,x3⟩:=uh HB1 k
   have HI:=zab (zkR w1.heap.size _ _ _ dk ck nk t p wr hz (by omega) hd1 (by omega) hc1 (by unfold hold; omega) (by omega) (hcall wr bw))
   have HE1:=zab e1
   have HE2:=zab e2
   have HE3:=zab e3
   have HG:=zab hg
   have HBW:=zab bw
   clear hz he e1 e2 e3 hcall hg bw HALL HC x1 x2 x3
   go_wp2_with fail
   refine (uh HI).mono ?_
   rintro e w2 ⟨rfl,z2,g2⟩
   have G2:=zab ((uh HG).andThen g2 (fun j e=>.inr e))
   have Z2:Hid (Szb w1.heap.size (dl (vs.take (k+1))+1) (cl (vs.take (k+1))+1) (hold xs.length+nl (cs.take (k+1))) w2):=by
    rw[uh HE1,uh HE2,uh HE3]
    rw[show max (dl (vs.take k)) dk+1=max (dl (vs.take k)+1) (dk+1) by omega,show cl (vs.take k)+ck+1=cl (vs.take k)+1+ck by omega,show hold xs.length+(nl (cs.take k)+nk)=hold xs.length+nl (cs.take k)+nk by omega]
    exact z2
   clear HI hck z2 g2
   go_wp2
   go_roundw
   case rel=>exact⟨k+1,by omega,by go_num,uh Z2,uh G2⟩
   case measure=>simp[intOf]; omega
  ·have hk':k=xs.length:=by omega
   subst hk'
   rw[(uh HE).1,(uh HE).2] at hz
   have z0:=hz.c0
   have z1:=hz.c1
   have z2:=hz.c2
   have R3:Szb w.heap.size 0 0 0 wr:=(hg.block w.heap.size (by have:=(uh R2).lt; omega) (by intro e; injection e with e; omega)).trans (uh R2)
   have r0:=R3.c0
   have r1:=R3.c1
   have r2:=R3.c2
   have q0:=R3.fz 0
   have q1:=R3.fz 1
   have q2:=R3.fz 2
   have RX:=zab (R3.put (((dl vs+1:Nat)) : Int) ((cl vs+1:Nat) : Int) ((hold xs.length+nl cs:Nat) : Int) _ _ _ rfl rfl rfl)
   have BX:=zab (zf5 bw (ye _) (.int .i64 ((dl vs+1:Nat) : Int)) (.int .i64 ((cl vs+1:Nat) : Int)) (.int .i64 ((hold xs.length+nl cs:Nat) : Int)))
   generalize dl vs+1=DD at *
   generalize cl vs+1=CC at *
   generalize hold xs.length+nl cs=NN at *
   clear hz hg bw R3 HALL HC HB1
   go_wp2
   try simp only[Exit.inBlock,Exit.then]
   refine bodyPost_ret (zjy rfl rfl (uh RX)) rfl ?_
   exact⟨by rw[uh HR],uh BX⟩
def zcs (left:Lit->Bool) : List (List UInt8×JV)->Nat
 | []=>0
 | q :: r=>if left (.string q.1) then zcs left r else max (zaY q.2) (zcs left r)
def zbr (f:List UInt8×JV->Nat) (left:Lit->Bool) : List (List UInt8×JV)->Nat
 | []=>0
 | q :: r=>(if left (.string q.1) then 0 else f q)+zbr f left r
def zbW (left:Lit->Bool) (k:List UInt8) : Lit->Bool:=fun z=>left z && !z.sameKey (.string k)
theorem zcn {left:Lit->Bool} {k a:List UInt8} (h:a≠k) : zbW left k (.string a)=left (.string a):=by
 unfold zbW
 rw[Maps.sameKey_ne (by intro e; injection e with e; exact h e)]
 simp
theorem zhq (left:Lit->Bool) (k:List UInt8) : zbW left k (.string k)=false:=by
 unfold zbW
 rw[WideAt.sameKey_self (show WideAt.IsKeyLit (.string k) from trivial)]
 simp
theorem ziM {left:Lit->Bool} {k:List UInt8} : ∀ qs:List (List UInt8×JV),(∀ q∈qs,q.1≠k)->zcs (zbW left k) qs=zcs left qs
 | [],_=>rfl
 | q :: r,h=>by
  rw[zcs,zcs,zcn (h q yp),ziM r (fun q hq=>h q (yv _ hq))]
theorem ziN {f:List UInt8×JV->Nat} {left:Lit->Bool} {k:List UInt8} : ∀ qs:List (List UInt8×JV),(∀ q∈qs,q.1≠k)->zbr f (zbW left k) qs=zbr f left qs
 | [],_=>rfl
 | q :: r,h=>by
  rw[zbr,zbr,zcn (h q yp),ziN r (fun q hq=>h q (yv _ hq))]
theorem ziO {left:Lit->Bool} {k:List UInt8} {v:JV} (hl:left (.string k)=true) : ∀ qs:List (List UInt8×JV),(qs.map (·.1)).Nodup->(k,v)∈qs->zcs (zbW left k) qs=max (zcs left qs) (zaY v)
 | [],_,h=>by simp at h
 | q :: r,hn,h=>by
  rw[yi,List.nodup_cons] at hn
  rw[zcs,zcs]
  rcases List.mem_cons.1 h with e | h
  ·subst e
   rw[zhq,hl,ziM r (fun q hq e=>hn.1 (yO.2 ⟨q,hq,e⟩))]
   simp only[if_true,Bool.false_eq_true,if_false]
   omega
  ·have hne:q.1≠k:=fun e=>hn.1 (yO.2 ⟨_,h,e.symm⟩)
   rw[zcn hne,ziO hl r hn.2 h]
   split
   ·rfl
   ·omega
theorem zf6 {f:List UInt8×JV->Nat} {left:Lit->Bool} {k:List UInt8} {v:JV} (hl:left (.string k)=true) : ∀ qs:List (List UInt8×JV),(qs.map (·.1)).Nodup->(k,v)∈qs->zbr f (zbW left k) qs=zbr f left qs+f (k,v)
 | [],_,h=>by simp at h
 | q :: r,hn,h=>by
  rw[yi,List.nodup_cons] at hn
  rw[zbr,zbr]
  rcases List.mem_cons.1 h with e | h
  ·subst e
   rw[zhq,hl,ziN r (fun q hq e=>hn.1 (yO.2 ⟨q,hq,e⟩))]
   simp only[if_true,Bool.false_eq_true,if_false]
   omega
  ·have hne:q.1≠k:=fun e=>hn.1 (yO.2 ⟨_,h,e.symm⟩)
   rw[zcn hne,zf6 hl r hn.2 h]
   omega
theorem zhr {f:List UInt8×JV->Nat} {left:Lit->Bool} : ∀ qs:List (List UInt8×JV),(∀ q∈qs,left (.string q.1)=true)->zcs left qs=0/\zbr f left qs=0
 | [],_=>⟨rfl,rfl⟩
 | q :: r,h=>by
  obtain⟨a,b⟩:=zhr (f:=f) r (fun q hq=>h q (yv _ hq))
  rw[zcs,zbr,h q yp,a,b]
  exact⟨rfl,rfl⟩
theorem zkS {left:Lit->Bool} (h:∀ z,left z=false) : ∀ qs:List (List UInt8×JV),zcs left qs=dl (qs.map (·.2))
 | []=>rfl
 | q :: r=>by rw[zcs,h,yi,dl,zkS h r]; rfl
theorem zhs {f:List UInt8×JV->Nat} {left:Lit->Bool} (h:∀ z,left z=false) : ∀ qs:List (List UInt8×JV),zbr f left qs=(qs.map f).sum
 | []=>rfl
 | q :: r=>by rw[zbr,h,yi,yL,zhs h r]; rfl
theorem zjB {f:List UInt8×JV->Nat} {left:Lit->Bool} : ∀ qs:List (List UInt8×JV),zbr f left qs<=(qs.map f).sum
 | []=>ye _
 | q :: r=>by
  rw[zbr,yi,yL]
  have:=zjB (f:=f) (left:=left) r
  split <;> omega
theorem znQ {left:Lit->Bool} : ∀ qs:List (List UInt8×JV),zcs left qs<=dl (qs.map (·.2))
 | []=>ye _
 | q :: r=>by
  rw[zcs,yi,dl]
  have:=znQ (left:=left) r
  split <;> omega
theorem zkT {vs:List JV} {v:JV} (h:v∈vs) : zaY v<=dl vs:=by
 obtain⟨j,hj,rfl⟩:=List.getElem_of_mem h
 exact zvP vs j hj
theorem Szb.grown {g d c b:Nat} {w w':World} {row:Option Nat} (h:Szb g d c b w) (hg:w.grownBy w' row) (hr:some g≠row) : Szb g d c b w':=(hg.block g h.lt hr).trans h
theorem zbl {B r:Nat} {w w':World} (h:w.grownBy w' (some r)) (hB:B<=r) (hs:B<=w.heap.size) : Below B w w':=
 ⟨h.os,h.tape,h.output,h.size,fun k hk=>h.block k (by omega) (by intro e; injection e with e; omega)⟩
theorem zsX (m:JM) (hall:∀ q∈m.toL,zfk q.2) (hval:∀ q∈m.toL,Lib.validD q.1=true) (hnd:(zcu m).Nodup) : zfk (.obj m):=by
 intro w S t p h hS hP hlen hcn hdp
 rw[Rep] at h
 obtain⟨ob,mb,nn,xs,h,hSob,hSmb,hob,hown,_,hrm⟩:=h
 injection h with h1 h2; subst h1; subst h2
 obtain⟨hkeys,hrep⟩:=zcr m xs hrm
 have hnd':(xs.map (·.1)).Nodup:=by rw[hkeys]; exact hnd
 have hperm:=zdg hown hnd'
 have hkn:(m.toL.map (·.1)).Nodup:=by rw[← zaB]; exact hnd
 have hml:m.toL.length=xs.length:=by
  have a1:=congrArg List.length hkeys
  rw[zaB] at a1
  simpa using a1.symm
 have hsz:Maps.size (zao xs)=xs.length:=by rw[zdh hperm,yl]
 have hct:=zbd m
 rw[hml] at hct
 have hcv:zaA (.obj m)=(m.toL.map fun q=>zaA q.2).sum+1:=by rw[zaA,zdM]
 have hdv:zaY (.obj m)=dl (m.toL.map (·.2))+1:=by rw[zaY,zdL]
 have HR:Hid (szV (zaY (.obj m)) (zaA (.obj m)) (ct (.obj m)).length=szV (dl (m.toL.map (·.2))+1) ((m.toL.map fun q=>zaA q.2).sum+1) (hold xs.length+(m.toL.map zdT).sum)):=by show _=_; rw[hcv,hdv,hct]
 rw[hct] at hlen
 rw[hcv] at hcn
 rw[hdv] at hdp
 have hxn:xs.length<=10000000:=by unfold hold at hlen; omega
 have hobl:ob < w.heap.size:=hS _ hSob
 have hmbl:mb < w.heap.size:=hS _ hSmb
 have hc0:w.cell? ⟨ob,0,none⟩=some (.map (some mb)):=by rw[yF hob]; rfl
 have HMEM:Hid (∀ (left:Lit->Bool) (x:List UInt8) (c:Value) (kl:Lit) (y1:DataW Value) (y2:List MemPlace),keyOf prog 9 (.string (zac x))=some kl->left kl=true->(left kl=true->Maps.has (zao xs) kl=true)->RH c=some (y1,y2)->(∀ zd,(zao xs).atKey kl zd=y1) ->
   ∃ t p dk ck nk,kl = .string x/\c = .iface t p/\Lib.validD x=true/\x.length+2<=(quoted x).length/\dk<=10000000/\ck<=10000000/\(quoted x).length+1+nk<=10000000/\zcs (zbW left x) m.toL=max (zcs left m.toL) dk/\zbr (fun q=>zaA q.2) (zbW left x) m.toL=zbr (fun q=>zaA q.2) left m.toL+ck/\zbr zdT (zbW left x) m.toL=zbr zdT left m.toL+((quoted x).length+1+nk) /\
    ∀ wr:World,Below w.heap.size w wr->Calls prog 129 #[.iface t p] wr fun e w'=>e = .returned (szV dk ck nk)/\Below wr.heap.size wr w'):=by
  intro left x c kl y1 y2 hkey hl hh hR hat
  obtain⟨x',hx',hkl,_⟩:=Maps.keyOf_str underlying9 hkey
  have ex:x'=x:=by
   have:Value.string (zac x)=encStr x':=hx'
   simp only[encStr,Value.string.injEq] at this
   have h2:=congrArg (fun b:ByteArray=>b.data.toList) this
   simpa [zac] using h2.symm
  subst ex
  subst hkl
  have hin:=hh hl
  rw[zcc,hkeys] at hin
  simp only[List.contains_eq_mem,decide_eq_true_eq] at hin
  rw[zaB] at hin
  obtain⟨q,hq,hqx⟩:=yO.1 hin
  obtain⟨k,v⟩:=q
  simp only at hqx
  subst hqx
  obtain⟨x0,hx0,hr⟩:=hrep k v hq
  have hlast:=zdC xs hnd' hx0
  have e1:=(hat (.held .nilIface)).symm.trans (zda k (.held .nilIface) xs)
  rw[hlast] at e1
  injection hR with hR
  injection hR with hR _
  subst hR
  injection e1 with e1
  subst e1
  obtain⟨t,p,rfl⟩:=za8 hr
  have hd1:=zkT (yO.2 ⟨(k,v),hq,rfl⟩ : v∈m.toL.map (·.2))
  have hc1:zaA v<=_:=zdN (fun q=>zaA q.2) hq
  have hn1:=zdN zdT hq
  simp only[zdT] at hn1
  refine⟨t,p,zaY v,zaA v,(ct v).length,rfl,rfl,hval _ hq,zcO k,by omega,by omega,by omega,ziO hl m.toL hkn hq,zf6 hl m.toL hkn hq,zf6 hl m.toL hkn hq,fun wr hb'=>?_⟩
  have hr':=Rep.keep (w':=wr) (S':=S) (fun k hk=>hb'.block k (hS k hk)) (fun _ h=>h) _ _ hr
  exact (show zfk v from hall _ hq) wr S t p hr' (fun k hk=>yE (hS k hk) hb'.size) ((hP.next hb' (ye _)).more hb'.size) (by omega) (by omega) (by omega)
 have HB1:Hid (∀ left,zcs left m.toL<=dl (m.toL.map (·.2))/\zbr (fun q=>zaA q.2) left m.toL<=(m.toL.map fun q=>zaA q.2).sum/\zbr zdT left m.toL<=(m.toL.map zdT).sum):=fun left=>⟨znQ _,zjB _,zjB _⟩
 have HZ:Hid (zcs (Maps.has (zao xs)) m.toL=0/\zbr (fun q=>zaA q.2) (Maps.has (zao xs)) m.toL=0/\zbr zdT (Maps.has (zao xs)) m.toL=0):=by
  have hh:∀ q∈m.toL,Maps.has (zao xs) (.string q.1)=true:=fun q hq=>by
   rw[zcc,hkeys,zaB]
   simp only[List.contains_eq_mem,decide_eq_true_eq]
   exact yO.2 ⟨q,hq,rfl⟩
  obtain⟨a1,a2⟩:=zhr (f:=fun q=>zaA q.2) m.toL hh
  obtain⟨_,a3⟩:=zhr (f:=zdT) m.toL hh
  exact⟨a1,a2,a3⟩
 have HE:Hid (∀ left:Lit->Bool,(∀ z,left z=false)->zcs left m.toL=dl (m.toL.map (·.2))/\zbr (fun q=>zaA q.2) left m.toL=(m.toL.map fun q=>zaA q.2).sum/\zbr zdT left m.toL=(m.toL.map zdT).sum):=fun left h=>⟨zkS h _,zhs h _,zhs h _⟩
 have HH:Hid (Calls prog 156 #[.int .i64 (xs.length:Int)] (w.alloc (szB 0 0 0)) fun e w'=>e = .returned (.agg #[.int .i64 1,.int .i64 1,.int .i64 ((hold xs.length:Nat) : Int)])/\Below (w.alloc (szB 0 0 0)).heap.size (w.alloc (szB 0 0 0)) w'):=zhp xs.length (w.alloc (szB 0 0 0)) hxn
 have t1:∀ w:World,(Instr.typeAssert (.iface 225 (.pointer (some ⟨ob,0,none⟩))) 66 195 true).run prog w = .ok (.tuple #[.pointer none,.bool false]) w:=fun _=>by kernel_rfl
 have t2:∀ w:World,(Instr.typeAssert (.iface 225 (.pointer (some ⟨ob,0,none⟩))) 66 225 true).run prog w = .ok (.tuple #[.pointer (some ⟨ob,0,none⟩),.bool true]) w:=fun _=>by kernel_rfl
 have hca:(w.alloc (.cells #[.int .i64 0,.int .i64 0,.int .i64 0] 188)).cell? ⟨ob,0,none⟩=some (.map (some mb)):=((zcI w).cell (p:=⟨ob,0,none⟩) hobl).trans hc0
 have hlt0:w.heap.size < (w.alloc (szB 0 0 0)).heap.size:=by simp
 have HOWN:Hid (∀ X:World,Below w.heap.size w X->X.ownsMap prog 9 RH mb nn (zao xs)):=fun X hX=>za1 hown (hX.block mb hmbl)
 have hln:∀ ty,(Builtin.len_ #[226] ty #[.map (some mb)]).run prog (w.alloc (.cells #[.int .i64 0,.int .i64 0,.int .i64 0] 188)) = .ok (.int .i64 (xs.length:Int)) (w.alloc (.cells #[.int .i64 0,.int .i64 0,.int .i64 0] 188)):=fun ty=>by
  have:=(uh HOWN (w.alloc (szB 0 0 0)) (zcI w)).len underlying226 ty
  rw[hsz] at this
  exact this
 generalize dl (m.toL.map (·.2))=DL at *
 generalize (m.toL.map fun q=>zaA q.2).sum=CL at *
 generalize (m.toL.map zdT).sum=NL at *
 clear hrm hrep hkeys hnd' hperm hkn hS hP hob hct hcv hdv hall hval hnd hml hSob hSmb hc0 hown
 go_enter func129,ntmps129
 go_wp2_with fail
 refine (uh HH).mono ?_
 rintro e w1 ⟨rfl,b1⟩
 have R1:=(zmv w).below b1
 have c1:w1.cell? ⟨ob,0,none⟩=some (.map (some mb)):=(b1.cell (p:=⟨ob,0,none⟩) (by show ob < _; omega)).trans hca
 have hw1:=b1.size
 have B1:=zaa (zcI w) b1
 have c2:(w1.alloc (.cells #[.int .i64 1,.int .i64 1,.int .i64 ((hold xs.length:Nat) : Int)] 188)).cell? ⟨ob,0,none⟩=some (.map (some mb)):=((yH w1.heap.size w1).alloc (ye _) (szB 1 1 (hold xs.length)) |>.cell (p:=⟨ob,0,none⟩) (by show ob < _; omega)).trans c1
 have S2:Hid (Szb w1.heap.size 1 1 (hold xs.length) (w1.alloc (szB 1 1 (hold xs.length)))):=yG w1 _
 have R2:=zab (R1.alloc (szB 1 1 (hold xs.length)))
 have B2:=zab (B1.alloc B1.size (szB 1 1 (hold xs.length)))
 have hlt2:(w1.alloc (.cells #[.int .i64 1,.int .i64 1,.int .i64 ((hold xs.length:Nat) : Int)] 188)).heap.size=w1.heap.size+1:=by simp
 have OW:=uh HOWN (w1.alloc (.cells #[.int .i64 1,.int .i64 1,.int .i64 ((hold xs.length:Nat) : Int)] 188)) (uh B2)
 have HOW:=zab OW
 clear HH R1 b1 hca c1 B1 hln t1 t2 OW
 go_wp2_with (first | (at_range; refine wpList_range_own _ rfl _ 226 rfl 9 66 (Maps.string_keyed underlying9) underlying226 RH mb nn (zao xs) rfl (uh HOW) ?_; intro w0 hrg0 hg0 hs0) | go_in)
 rw[hlt2] at hrg0 hs0
 have R0:=zab ((uh R2).grown hg0 (by simp))
 have S0:=zab ((uh S2).grown hg0 (by simp))
 have B0:=zab ((uh B2).trans (⟨hg0.os,hg0.tape,hg0.output,hg0.size,fun k hk=>hg0.block k (yE hk (uh B2).size) (by simp)⟩ : Below w.heap.size _ w0))
 have HRG0:=zab hrg0
 clear hrg0 hg0 R2 S2 B2 HOW c2
 simp only[hlt2]
 obtain⟨r,hr⟩ : ∃ r,w1.heap.size+1=r:=⟨_,rfl⟩
 rw[hr] at HRG0
 simp only[hr]
 go_frame
 go_loopw [9] (fun _ wr=>∃ left cnt,wr.ranges prog 9 RH mb r nn (zao xs) left cnt/\(∀ kl,left kl=true->Maps.has (zao xs) kl=true)/\Szb w1.heap.size (zcs left m.toL+1) (zbr (fun q=>zaA q.2) left m.toL+1) (hold xs.length+zbr zdT left m.toL) wr/\Szb w.heap.size 0 0 0 wr/\Below w.heap.size w wr) (fun _ wr=>wr.rangeLeft mb r)
 case atStart=>
  refine⟨_,_,uh HRG0,fun _ h=>h,?_,uh R0,uh B0⟩
  rw[(uh HZ).1,(uh HZ).2.1,(uh HZ).2.2]
  exact uh S0
 case round=>
  obtain⟨left,cnt,hrg,hsub,hz,hr0,bw⟩:=hrel
  have HRG:=zab hrg
  have HSUB:=zab hsub
  have HZZ:=zab hz
  have HR0:=zab hr0
  have HBW:=zab bw
  clear hrg hsub hz hr0 bw HRG0 R0 S0 B0
  go_wp2_with (first | (at_next; (refine wpList_next_ranges (α:=List UInt8) (β:=Value) _ rfl _ rfl 9 (Maps.string_keyed underlying9) RH (fun x=>.string (zac x)) (fun v=>v) (fun key kl hk=>by obtain⟨x,hx,_⟩:=Maps.keyOf_str underlying9 hk; exact⟨x,hx⟩) (fun v y _=>⟨v,rfl⟩) mb r nn (zao xs) left cnt rfl (uh HRG) ?_ ?_)) | go_in)
  ·intro _ hl0
   obtain⟨e1,e2,e3⟩:=uh HE left hl0
   have hz:=uh HZZ
   rw[e1,e2,e3] at hz
   have z0:=hz.c0
   have z1:=hz.c1
   have z2:=hz.c2
   have R3:=uh HR0
   have r0:=R3.c0
   have r1:=R3.c1
   have r2:=R3.c2
   have q0:=R3.fz 0
   have q1:=R3.fz 1
   have q2:=R3.fz 2
   have RX:=zab (R3.put (((DL+1:Nat)) : Int) ((CL+1:Nat) : Int) ((hold xs.length+NL:Nat) : Int) _ _ _ rfl rfl rfl)
   have BX:=zab (zf5 (uh HBW) (ye _) (.int .i64 ((DL+1:Nat) : Int)) (.int .i64 ((CL+1:Nat) : Int)) (.int .i64 ((hold xs.length+NL:Nat) : Int)))
   generalize DL+1=DD at *
   generalize CL+1=CC at *
   generalize hold xs.length+NL=NN at *
   clear hz R3 HMEM HB1 HZ HE HOWN HRG HSUB HZZ HR0 HBW e1 e2 e3 hl0
   go_wp2
   try simp only[Exit.inBlock,Exit.then]
   refine bodyPost_ret (zjy rfl rfl (uh RX)) rfl ?_
   exact⟨by rw[uh HR],uh BX⟩
  ·intro x c kl y1 y2 w2 cnt2 hkey hlk hR hat hrg2 hlt hg2 hs2 hen
   obtain⟨t,p,dk,ck,nk,rfl,rfl,hxv,hxq,hd1,hc1,hn1,e1,e2,e3,hcall⟩:=uh HMEM left x c kl y1 y2 hkey hlk (uh HSUB kl) hR hat
   obtain⟨x1,x2,x3⟩:=uh HB1 left
   have hrlt:=hrg2.lt
   have hrne:=hrg2.ne
   have bw2:Below w.heap.size w w2:=(uh HBW).trans (zbl hg2 (by omega) (uh HBW).size)
   have S2:=(uh HZZ).grown hg2 (by intro e; injection e with e; omega)
   have R2:=(uh HR0).grown hg2 (by intro e; injection e with e; omega)
   have HRG2:=zab hrg2
   have HS2:=zab S2
   have HR2:=zab R2
   have HBW2:=zab bw2
   have HE1:=zab e1
   have HE2:=zab e2
   have HE3:=zab e3
   have HCALL:=zab hcall
   have HCT:Hid (∀ w3,Calls prog 100 #[.iface 229 (.string (zac x))] w3 fun e w'=>e = .returned (.string (zac (quoted x)))/\Below w3.heap.size w3 w'):=fun w3=>by
    have h:=zjr (zac x) w3 (by rw[zaf]; omega)
    have e:quoted x=34 :: (rs (zac x)++[34]):=by rw[zu0 (zac x) (by rw[zad]; exact hxv),zad]; rfl
    rw[e]; exact h
   have hqz:(zac (quoted x)).size=(quoted x).length:=zaf _
   have y1':w2.drew.cell? ⟨w1.heap.size,2,none⟩=some (.int .i64 ((hold xs.length+zbr zdT left m.toL:Nat) : Int)):=S2.c2
   have hNN:hold xs.length+zbr zdT left m.toL<=10000000:=by omega
   generalize hNv:hold xs.length+zbr zdT left m.toL=NV at *
   have HNV:=zab hNv
   have hqn:(quoted x).length<=10000000:=by omega
   generalize zac (quoted x)=qx at *
   clear hkey hR hat hrg2 hg2 e1 e2 e3 hcall hlk HMEM HB1 HZ HE HOWN HZZ HR0 HBW hNv S2 R2 bw2 hxv
   go_wp2_with fail
   go_region_law (go_simp; refine (uh HCT _).mono ?_; rintro e w3 ⟨rfl, b3⟩
                  have S3:=Szb.below (w:=w2.drew) (uh HS2) b3
                  have s3:=S3.c2
                  have f3:=S3.fz 2
                  have HS3:=zab S3
                  have HB3:=zab b3
                  clear S3 b3)
   all_goals
    clear HCT s3 f3 y1'
    have hw:Value.int .i64 (IntKind.i64.wrap ((NV:Int)+IntKind.i64.wrap (((quoted x).length:Int)+1)))=Value.int .i64 ((NV+((quoted x).length+1) : Nat) : Int):=by
     rw[IntWalk.i64_in (((quoted x).length:Int)+1) (by omega),IntWalk.i64_in _ (by omega)]
     congr 1
    have S4:=Szb.set2 (uh HS3) ((NV+((quoted x).length+1) : Nat) : Int) (NV+((quoted x).length+1)) rfl
    have g3:w2.grownBy w3 none:=⟨(uh HB3).os,(uh HB3).tape,(uh HB3).output,(uh HB3).size,fun k hk _=>(uh HB3).block k hk⟩
    have g4:w2.grownBy (w3.setCell ⟨w1.heap.size,2,none⟩ (.int .i64 ((NV+((quoted x).length+1) : Nat) : Int))) (some w1.heap.size):=(World.grownBy.but g3 (some w1.heap.size)).andThen (zfl _ _ _) (fun j e=>.inr e)
    have HRG4:=zab ((uh HRG2).kept g4 (by intro e; injection e with e; omega) (by intro e; injection e with e; omega))
    have HR4:=zab ((uh HR2).grown g4 (by intro e; injection e with e; omega))
    have b4:Below w.heap.size w (w3.setCell ⟨w1.heap.size,2,none⟩ (.int .i64 ((NV+((quoted x).length+1) : Nat) : Int))):=(uh HBW2).trans (zbl g4 (by omega) (uh HBW2).size)
    have HI:=zab (zkR w1.heap.size _ _ _ dk ck nk t p _ S4 (by omega) hd1 (by omega) hc1 (by omega) (by omega) (uh HCALL _ b4))
    have HB4:=zab b4
    have HS4:=zab S4
    rw[hw]
    clear hw S4 g3 g4 b4 HRG2 HR2 HBW2 HS3 HB3 HCALL
    generalize w3.setCell ⟨w1.heap.size,2,none⟩ (.int .i64 ((NV+((quoted x).length+1) : Nat) : Int))=W4 at *
    go_wp2_with fail
    refine (uh HI).mono ?_
    rintro e w5 ⟨rfl,z5,g5⟩
    have HRG5:=zab ((uh HRG4).kept g5 (by intro e; injection e with e; omega) (by intro e; injection e with e; omega))
    have HR5:=zab ((uh HR4).grown g5 (by intro e; injection e with e; omega))
    have HB5:=zab ((uh HB4).trans (zbl g5 (by omega) (uh HB4).size))
    have Z5:Hid (Szb w1.heap.size (zcs (zbW left x) m.toL+1) (zbr (fun q=>zaA q.2) (zbW left x) m.toL+1) (hold xs.length+zbr zdT (zbW left x) m.toL) w5):=by
     rw[uh HE1,uh HE2,uh HE3]
     rw[show max (zcs left m.toL) dk+1=max (zcs left m.toL+1) (dk+1) by omega,show zbr (fun q=>zaA q.2) left m.toL+ck+1=zbr (fun q=>zaA q.2) left m.toL+1+ck by omega,show hold xs.length+(zbr zdT left m.toL+((quoted x).length+1+nk))=NV+((quoted x).length+1)+nk by rw[← uh HNV]; omega]
     exact z5
    clear HI z5 g5 HRG4 HR4 HB4 HS4
    go_wp2
    go_roundw
   all_goals first
    | exact⟨zbW left x,cnt2,uh HRG5,fun kl h=>uh HSUB kl (by unfold zbW at h; rw[Bool.and_eq_true] at h; exact h.1),uh Z5,uh HR5,uh HB5⟩
    | (rw[(uh HRG5).left_eq,(uh HRG).left_eq]; omega)
theorem zd8 (v:JV) (hok:okV v) (htw:twV v=false) (hd:zaY v=1) (hc:zaA v=1)
  (h1:∀ (w w1:World) (S:Nat->Prop) (t:TypeId) (p:Value),Rep w S v (.iface t p)->(Instr.typeAssert (.iface t p) 66 195 true).run prog w1 = .ok (.tuple #[.pointer none,.bool false]) w1)
  (h2:∀ (w w1:World) (S:Nat->Prop) (t:TypeId) (p:Value),Rep w S v (.iface t p)->(Instr.typeAssert (.iface t p) 66 225 true).run prog w1 = .ok (.tuple #[.pointer none,.bool false]) w1) : zfk v:=by
 intro w S t p h hS hP hlen _ _
 rw[hd,hc]
 refine zqL t p (ct v) w (fun w1=>h1 w w1 S t p h) (fun w1=>h2 w w1 S t p h) (fun w1 hb=>?_)
 exact zcj v hok htw t p w1 S (Rep.keep (fun k hk=>hb.block k (hS k hk)) (fun _ h=>h) _ _ h) (fun k hk=>yE (hS k hk) hb.size) ((hP.next hb (ye _)).more hb.size) hlen
theorem zsY:zfk .nul:=zd8 .nul trivial rfl rfl rfl
 (fun w w1 S t p h=>by rw[Rep] at h; injection h with h1 h2; subst h1; subst h2; kernel_rfl) (fun w w1 S t p h=>by rw[Rep] at h; injection h with h1 h2; subst h1; subst h2; kernel_rfl)
theorem zvi:zfk .tt:=zd8 .tt trivial rfl rfl rfl
 (fun w w1 S t p h=>by rw[Rep] at h; injection h with h1 h2; subst h1; subst h2; kernel_rfl) (fun w w1 S t p h=>by rw[Rep] at h; injection h with h1 h2; subst h1; subst h2; kernel_rfl)
theorem zvj:zfk .ff:=zd8 .ff trivial rfl rfl rfl
 (fun w w1 S t p h=>by rw[Rep] at h; injection h with h1 h2; subst h1; subst h2; kernel_rfl) (fun w w1 S t p h=>by rw[Rep] at h; injection h with h1 h2; subst h1; subst h2; kernel_rfl)
theorem zsZ (l:List UInt8) (hok:okV (.num l)) : zfk (.num l):=zd8 (.num l) hok rfl rfl rfl
 (fun w w1 S t p h=>by rw[Rep] at h; obtain⟨z,h,_⟩:=h; injection h with h1 h2; subst h1; subst h2; kernel_rfl) (fun w w1 S t p h=>by rw[Rep] at h; obtain⟨z,h,_⟩:=h; injection h with h1 h2; subst h1; subst h2; kernel_rfl)
theorem zs1 (l:List UInt8) (hok:okV (.str l)) : zfk (.str l):=zd8 (.str l) hok rfl rfl rfl
 (fun w w1 S t p h=>by rw[Rep] at h; injection h with h1 h2; subst h1; subst h2; kernel_rfl) (fun w w1 S t p h=>by rw[Rep] at h; injection h with h1 h2; subst h1; subst h2; kernel_rfl)
mutual
theorem zs2:∀ v:JV,okV v->twV v=false->zfk v
 | .nul,_,_=>zsY
 | .tt,_,_=>zvi
 | .ff,_,_=>zvj
 | .num l,h,_=>zsZ l h
 | .str l,h,_=>zs1 l h
 | .arr l,h,t=>zsW l (zwp l (by rw[okV] at h; exact h) (by rw[twV] at t; exact t))
 | .obj m,h,t=>zsX m (zwq m [] (by rw[okV] at h; exact h) (by rw[twV] at t; exact t)) (zju m (by rw[okV] at h; exact h)) (zei m [] (by rw[twV] at t; exact t)).1
theorem zwp:∀ l:JL,okL l->twL l=false->∀ v∈l.toL,zfk v
 | .nil,_,_,v,hv=>by simp[JL.toL] at hv
 | .cons x r,h,t,v,hv=>by
  rw[okL] at h
  rw[twL,Bool.or_eq_false_iff] at t
  rw[JL.toL] at hv
  rcases List.mem_cons.1 hv with e | hv
  ·rw[e]; exact zs2 x h.1 t.1
  ·exact zwp r h.2 t.2 v hv
theorem zwq:∀ (m:JM) (ks:List (List UInt8)),okM m->twM ks m=false->∀ q∈m.toL,zfk q.2
 | .nil,_,_,_,q,hq=>by simp[JM.toL] at hq
 | .cons k x r,ks,h,t,q,hq=>by
  rw[okM] at h
  rw[twM] at t
  simp only[Bool.or_eq_false_iff] at t
  rw[JM.toL] at hq
  rcases List.mem_cons.1 hq with e | hq
  ·rw[e]; exact zs2 x h.2.1 t.1.1
  ·exact zwq r (ks++[k]) h.2.2 t.2 q hq
end
end Go.Proofs.YtekpghcckdjnhaaGreatDoor
