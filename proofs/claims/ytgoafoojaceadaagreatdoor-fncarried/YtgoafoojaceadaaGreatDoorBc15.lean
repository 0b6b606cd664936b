import Derived.Maps.AppendAt
import Derived.Test.YtgoafoojaceadaaGreatDoorBc14
import Derived.Shelf.Spec.SlicesGrow
set_option maxRecDepth 100000
set_option maxHeartbeats 8000000
open Go renaming Calls->δ,Value->ω
open Go.Ending renaming returned->ε
open Go.IntKind renaming i64->κ
open Go.Obj renaming cells->χ
open Go.Value renaming bool->θ,iface->φ,int->ι,nilIface->Γ,slice->ς
open _root_.Bool renaming false->ζ,or_assoc->Δ,or_eq_false_iff->Α,or_false->Β,true->ξ
open _root_.Option renaming none->ν,some->η
namespace Go.Proofs.YtgoafoojaceadaaGreatDoor
open Go.RowKit Go.Proofs.Tryz
variable{t:TypeId}{w W0 w7:Wo}{s:Bs}{rb k j n B b i e ob L g:Nat}{xs:List ω}{v:JV}{tb kt:Bool}{ops:Array Oper}{o:Oper}{Q:Exit->Act->Wo->Prop}{p:ω}{acc:JM}{a:Option Addr}
theorem Nq {P:Program}   {a:Act}  {K:Act->Wo->Prop}  {E:Prop}
  (hg:o.guard=ν) (s x:Operand) (t:TypeId) (hop:o.op=Op.call {callee:=Callee.builtin Builtin.append,args:=#[s,x],argTypes:=#[t,t]})
  (base:Nat) (e:TypeId) (i:TypeInfo) (z:ω) (size bytes:Nat) (ht:P.underlying t=η (.slice e)) (hi:P.info? e=η i) (hz:i.zero=η z)
  (hsize:i.size=size) (hby:i.bytes=bytes) (hzs:z.cells.size=size) (hsz:0<size)
  (v:ω) (n:Nat) (xs:List ω) (hs:a.eval s=v) (hown:w.ownsRow base e size v n xs)
  (ad:Addr) (m c:Nat) (news:List ω) (hx:a.eval x=ς (η ad) m c) (hl:news.length=m*size) (hnews:∀ j u,news[j]?=η u->w.cell? (ad.add j)=η u) (h1:∀ u∈news,u.oneCell'=ξ)
  (h63:n+m<=maxLen) (hbytes:(n+m)*bytes<=140737488355328) (hbase:base<=w.heap.size)
  (hK:∀ v' w',w'.ownsRow base e size v' (n+m) (xs++news)->w.grownBy w' v.ownBlock->(v'.ownBlock=v.ownBlock∨v'.ownBlock=η w.heap.size)->K (a.put o.dst v') w'):
  if Region.wanted o (yielded ops a.tmps)=ξ then Oper.wp P o a w K Q else E:=by
 have d:Region.wanted o (yielded ops a.tmps)=ξ:=by simp[Region.wanted,hg]
 rw[yg d];obtain⟨v',w',b,f,g,_,h⟩:=run_append_own_at (P:=P) (w:=w) base t o.type e i z size bytes ht hi hz hsize hby hzs hsz v n xs hown ad m c news hl hnews h1 h63 hbytes hbase;unfold Oper.wp;simp[execOp,hop,resolve,invoke,builtin,hs,hx,b,Result.andThen];exact hK v' w' f g h
def Fu(s:Bs)(j:Nat):Option (JL×Nat):=if bt s j=93 then η (.nil,j+1)else if bt s j=44 then elems s (sk s (j+1))else ν
theorem BG(h:val s i=η (v,n)):elems s i=(Fu s (sk s n)).map fun q=>(JL.cons v q.1,q.2):=by
 rw[U2,h];unfold Fu;simp only[yB];split
 .rfl
 .split<;>rfl
def AS(ab:Nat)(sv:ω)(wx:Wo)(k:Nat):Prop:=ab<k/\k<wx.heap.size/\sv.ownBlock≠η k
def Wk(rb:Nat)(s:Bs)(tb kt:Bool)(w:Wo)(j:Nat)(acc:JL)(sv:ω)(xs:List ω)(wx:Wo):Prop:=
 zr rb s j (tb || qz acc) (kt || qf acc) wx/\wx.heap[w.heap.size]?=η (Fs sv)/\wx.ownsRow (w.heap.size+1) 65 1 sv xs.length xs/\KB rb w wx/\w.heap.size+1<=wx.heap.size /\
  (qz acc=ζ->qf acc=ζ->Zv wx (AS w.heap.size sv wx) acc xs)
theorem Fv{w1:Wo}{size:Nat}{v:ω}(h:w.ownsRow B e size v n xs)(k:KB rb w w1)(hB:rb<B):w1.ownsRow B e size v n xs:=by
 refine⟨h.1,?_⟩;rcases h.2 with f |⟨g,a,b,j,i,d,r⟩
 .exact .inl f
 .exact .inr ⟨g,a,b,j,i,(k.block g (yC.1 d).1 om).trans d,r⟩
theorem Wk.step    {w4 w5:Wo}  {acc:JL} {sv v5:ω}     {o:Obj} (hrb:rb<w.heap.size)
  (h:Wk rb s tb kt w j acc sv xs W0) (k4:KB rb W0 w4) (r4:zr rb s k ((tb || qz acc) || zY v) ((kt || qf acc) || zF v) w4)
  (hrep:zY v=ζ->zF v=ζ->zj w4 (fun b=>W0.heap.size<=b/\b<w4.heap.size) v (φ t p))
  (own5:w5.ownsRow (w.heap.size+1) 65 1 v5 (xs.length+1) (xs++[φ t p])) (hg5:(w4.alloc o).grownBy w5 sv.ownBlock) (hat:v5.ownBlock=sv.ownBlock∨v5.ownBlock=η (w4.alloc o).heap.size):
  Wk rb s tb kt w k (acc.app (.cons v .nil)) v5 (xs++[φ t p]) (w5.setCell w v5):=by
 obtain⟨V,N,K,n,W,P⟩:=h;have Q:=k4.size;have T:(w4.alloc o).heap.size=w4.heap.size+1:=sm;have R:=hg5.size;have d:∀ g,sv.ownBlock=η g->w.heap.size+1<=g/\g<W0.heap.size:=fun g A=>⟨(K.lt g A).1,(K.lt g A).2⟩;have keep:=fun b (a:b<w4.heap.size) (l:sv.ownBlock≠η b)=>(hg5.block b om (fun e=>l e.symm)).trans (Lib.alloc_old w4 o b a);have f:=fun b (a:b≠w.heap.size)=>Below.heap_setCell w5 w v5 b a;have q:=(k4.block w om om).trans N;have u:=(keep w om (fun e=>by have:=(d _ e).1;omega)).trans q;have y:=keep rb om (fun e=>by have:=(d _ e).1;omega);have i:(w5.setCell w v5).heap.size=w5.heap.size:=by simp[World.setCell]
 have x:qz (acc.app (.cons v .nil))=(qz acc || zY v):=by rw[Ld];simp[qz]
 have z:qf (acc.app (.cons v .nil))=(qf acc || zF v):=by rw[Lf];simp[qf]
 refine⟨?_,?_,?_,?_,om,?_⟩
 .rw[x,z,← Δ,← Δ];exact (f rb om).trans (y.trans r4)
 .exact heap_setCell_same w5 w 0 _ 149 v5 u
 .rw[yh];refine⟨own5.1,?_⟩;rcases own5.2 with M |⟨g,B,C,U,a,A,r⟩
  .exact .inl M
  .exact .inr ⟨g,B,C,U,a,(f g om).trans A,r⟩
 .refine⟨?_,?_,?_,by rw[i];have:=n.size;omega,fun b a l=>?_⟩
  .exact (hg5.os.trans (show (w4.alloc o).os=w4.os from rfl)).trans ((k4.trans (KB.refl rb w4)).os.trans n.os)
  .exact (hg5.tape.trans (show (w4.alloc o).tape=w4.tape from rfl)).trans (k4.tape.trans n.tape)
  .exact (hg5.output.trans (show (w4.alloc o).output=w4.output from rfl)).trans (k4.output.trans n.output)
  .have O:=n.size;exact (f b om).trans ((keep b om (fun e=>by have:=(d _ e).1;omega)).trans ((k4.block b om l).trans (n.block b a l)))
 .intro a L;rw[x]at a;rw[z]at L;obtain⟨E,F⟩:=Α.1 a;obtain⟨G,H⟩:=Α.1 L;have m:∀ b,b<w4.heap.size->sv.ownBlock≠η b->v5.ownBlock≠η b:=fun b a l e=>by
   rcases hat with g | g
   .exact l (g.symm.trans e)
   .rw[g]at e;injection e with e;omega
  refine Zv.app acc (.cons v .nil) xs [φ t p] ?_ ?_
  .refine Zv.keep (w:=W0) (S:=AS w sv W0) (fun b a=>?_) (fun b a=>?_) acc xs (P E G)
   .obtain⟨I,J,D⟩:=a;exact (f b om).trans ((keep b om D).trans (k4.block b J om))
   .obtain⟨I,J,D⟩:=a;exact⟨I,by rw[i];omega,m b om D⟩
  .rw[Zv];refine⟨_,[],rfl,?_,by rw[Zv]⟩;refine zj.keep (w:=w4) (S:=fun b=>W0.heap.size<=b/\b<w4.heap.size) (fun b a=>?_) (fun b a=>?_) v _ (hrep F H)
   .have l:sv.ownBlock≠η b:=fun e=>by have:=(d _ e).2;omega
    exact (f b om).trans (keep b a.2 l)
   .have l:sv.ownBlock≠η b:=fun e=>by have:=(d _ e).2;omega
    exact⟨om,by rw[i];omega,m b a.2 l⟩
def Fw(s:Bs)(j:Nat):Option (JM×Nat):=if bt s j=125 then η (.nil,j+1)else if bt s j=44 then QY s (sk s (j+1))else ν
theorem BH(s:Bs)(i:Nat):QY s (sk s i)=(YZ s i).bind fun m=>(Fw s m.2).map fun q=>(JM.cons m.1.1 m.1.2 q.1,q.2):=by
 rw[FR];unfold YZ
 cases ZS s (sk s i)with
 | none=>rfl
 | some k=>
  simp only[yB];by_cases h:bt s (sk s k.2)=58
  .rw[yg h,yg h]
   cases val s (sk s (sk s k.2+1))with
   | none=>rfl
   | some q=>
    simp only[yB,Option.map_some];unfold Fw;split
    .rfl
    .split<;>rfl
  .rw[yf h,yf h];rfl
theorem BI{m:List UInt8×JV}(h:YZ s i=η (m,j)):i<j/\j<=s.size:=by
 unfold YZ at h
 cases hq:ZS s (sk s i)with
 | none=>rw[hq]at h;cases h
 | some k=>
  have d:=Yu hq;have f:=Zd s i;rw[hq]at h;simp only[yB]at h;by_cases a:bt s (sk s k.2)=58
  .rw[yg a]at h
   cases hv:val s (sk s (sk s k.2+1))with
   | none=>rw[hv]at h;cases h
   | some q=>
    rw[hv]at h;simp only[Option.map_some]at h;injection h with h;injection h with _ h;have b:=VO hv;have g:=Zd s (sk s k.2+1);have l:=Zd s k.2;have n:=Zd s q.2;have o:=(JB b.2).2;omega
  .rw[yf a]at h;cases h
abbrev Xj(b:Nat):Obj:=χ #[.map (η b)] 212 (0,0)
def OS(L:Nat)(wx:Wo)(k:Nat):Prop:=L<=k/\k<wx.heap.size
structure WS(rb:Nat)(s:Bs)(tb kt:Bool)(w:Wo)(ob b L j:Nat)(acc:JM)(xs:List (List UInt8×ω))(wx:Wo):Prop where
 rdr:zr rb s j (tb || Z7 acc) (kt || Z1 [] acc) wx
 blk:wx.heap[ob]?=η (Xj b)
 own:wx.ownsMap prog 9 RH b xs.length (Zh xs)
 kb:KB rb w wx
 keys:xs.map (·.1)=QF acc
 size:L<=wx.heap.size
 rep:Z7 acc=ζ->Z1 [] acc=ζ->ZE wx (OS L wx) acc xs
theorem WS.next       {xs:List (List UInt8×ω)} (h1:rb<w.heap.size) (h2:w.heap.size<=ob) (h3:w.heap.size<=b) (hb:b<L) (ho:ob<L)
  (h:WS rb s tb kt w ob b L j acc xs W0) (k7:KB rb W0 w7) (r7:zr rb s k (tb || Z7 acc) (kt || Z1 [] acc) w7):WS rb s tb kt w ob b L k acc xs w7:=by
 have f:=h.size;have d:=k7.size;refine⟨r7,(k7.block ob om om).trans h.blk,Wh h.own (k7.block b om om),h.kb.trans k7,h.keys,om,fun a c=>?_⟩;exact ZE.keep (w:=W0) (S:=OS L W0) (fun k hk=>k7.block k hk.2 (by have:=hk.1;omega)) (fun k hk=>⟨hk.1,by have:=hk.2;omega⟩) acc xs (h.rep a c)
theorem WS.step       {xs:List (List UInt8×ω)} {key:List UInt8}   
  (h1:rb<w.heap.size) (h2:w.heap.size<=ob) (h3:w.heap.size<=b) (hb:b<L) (ho:ob<L) (hne:ob≠b)
  (h:WS rb s tb kt w ob b L j acc xs W0) (k7:JJ rb b W0 w7) (r7:zr rb s k ((tb || Z7 acc) || zY v) (((kt || Z1 [] acc) || zF v) ||(xs.map (·.1)).contains key) w7)
  (m7:w7.ownsMap prog 9 RH b (xs.length+1) (Zh (xs++[(key,φ t p)])))
  (hrep:zY v=ζ->zF v=ζ->zj w7 (fun k=>W0.heap.size<=k/\k<w7.heap.size) v (φ t p)):
  WS rb s tb kt w ob b L k (acc.app (.cons key v .nil)) (xs++[(key,φ t p)]) w7:=by
 have o:=h.size;have n:=k7.size;have m:=h.kb.size;have d:Z7 (acc.app (.cons key v .nil))=(Z7 acc || zY v):=by rw[Le];simp[Z7]
 have f:Z1 [] (acc.app (.cons key v .nil))=((Z1 [] acc || zF v) ||(QF acc).contains key):=by rw[Lg];simp[Z1,Δ]
 refine⟨?_,(k7.block ob om om hne).trans h.blk,by rw[yh];exact m7,?_,?_,om,fun a c=>?_⟩
 .rw[d,f,← h.keys];simpa only [Δ]using r7
 .exact⟨k7.os.trans h.kb.os,k7.tape.trans h.kb.tape,k7.output.trans h.kb.output,om,fun g hg hn=>(k7.block g om hn om).trans (h.kb.block g hg hn)⟩
 .rw[yx,h.keys,EO];rfl
 .rw[d]at a;rw[f]at c;obtain⟨i,l⟩:=Α.1 a;obtain⟨c0,_⟩:=Α.1 c;obtain⟨c1,c2⟩:=Α.1 c0;refine ZE.app acc (.cons key v .nil) xs [(key,φ t p)] ?_ ?_
  .exact ZE.keep (w:=W0) (S:=OS L W0) (fun g hg=>k7.block g hg.2 (by have:=hg.1;omega) (by have:=hg.1;omega)) (fun g hg=>⟨hg.1,by have:=hg.2;omega⟩) acc xs (h.rep i c1)
  .rw[ZE];refine⟨_,[],rfl,?_,by rw[ZE]⟩;exact zj.keep (w:=w7) (fun _ _=>rfl) (fun g hg=>⟨by have:=hg.1;omega,hg.2⟩) v _ (hrep l c2)
theorem JJ.off(k7:JJ rb b W0 w7)(k:KB rb w W0)(hb:w.heap.size<=b):KB rb w w7:=
 ⟨k7.os.trans k.os,k7.tape.trans k.tape,k7.output.trans k.output,yQ k.size k7.size,fun g hg hn=>(k7.block g (yF hg k.size) hn om).trans (k.block g hg hn)⟩
theorem zdR (rb:Nat) (s:Bs) (i:Nat) (tb kt:Bool) (w:Wo) (h:zr rb s i tb kt w) (hs:s.size<=100000) (h123:bt s i=123) (B:Nat) (hT:Qd B w) (hB:B<=rb)
  (HV:∀ (j:Nat) (tb' kt':Bool) (w1:Wo),i<j->j<=s.size->zr rb s j tb' kt' w1->KB rb w w1->δ prog 79 #[rb] w1 (Yq rb s tb' kt' w1 ((val s (sk s j)).map fun q=>(q.1,sk s q.2)))):
  δ prog 178 #[rb] w (Yq rb s tb kt w (val s i)):=by
 have k:=h.lt;have hi:i<s.size:=Zf om;have K:=zb (Ph h123);have I:=zb HV;have W:=zb hT;have k00:=Zd s (i+1);have L:=(JB (s:=s) (i:=i+1) om).2;have V:=zb (BF s (i+1));have rA:=(h.below (WR w (.map #[] 0))).below (WR (w.alloc (.map #[] 0)) (Xj w));have kA:=(KB.of_below (rb:=rb) (WR w (.map #[] 0))).trans (KB.of_below (rb:=rb) (WR (w.alloc (.map #[] 0)) (Xj w)));have hsA:((w.alloc (.map #[] 0)).alloc (Xj w)).heap.size=w.heap.size+2:=sm;have O0:Hid (WS rb s tb kt w (w.heap.size+1) w (w.heap.size+2) i .nil [] ((w.alloc (.map #[] 0)).alloc (Xj w))):=by
  refine⟨by simp only[Z7,Z1,Β];exact rA,?_,(World.ownsMap_made w prog 9 RH).alloc _,kA,rfl,om,fun _ _=>by rw[ZE]⟩;have:=yH (w.alloc (.map #[] 0)) (Xj w);simpa using this
 have O:=zb (W2 rb s i tb kt _ rA om 123 h123 hi);have hmm:=run_makeMap (P:=prog) 210 w;generalize hk0:sk s (i+1)=u at *;have Q:=zb hk0;go_in;go_wp2_with fail;go_call O as e w1 ⟨rfl,r1,k1⟩;have S:=zb (Xy rb s (i+1) tb kt w1 r1 om om);have O1:=zb (O0.next k om om om om k1 (by simp only[Z7,Z1,Β];exact r1));go_wp2_with fail;go_call S as e w2 ⟨rfl,r2,k2⟩;rw[uh Q]at r2;have X:=zb (O1.next k om om om om k2 (by simp only[Z7,Z1,Β];exact r2));have Y:=zb r2;by_cases f:bt s u=125
 .have F:=zb (Wq rb s u tb kt w2 Y om 125 f (Zf om));have HR:Hid (val s i=η (.obj .nil,u+1)):=zb (by rw[uh K,yg f]);go_wp2_with fail;go_call F as e w3 ⟨rfl,r3,k3⟩;have o:=zb (X.next k om om om om k3 (by simp only[Z7,Z1,Β];exact r3));go_wp2;go_ret;refine⟨o.kb,?_⟩;rw[uh HR];have hsz:=o.size;refine⟨_,_,rfl,by simp only[zY,zF];exact o.rdr,fun _ _=>?_⟩;rw[zj];exact⟨w.heap.size+1,w,0,[],rfl,⟨om,om⟩,⟨om,om⟩,o.blk,o.own,ye _,by rw[ZE]⟩
 .have F:=zb (GA rb s u tb kt w2 Y L 125 (.inl f));have HR:Hid (val s i=(QY s u).map fun q=>(.obj q.1,q.2)):=zb (by rw[uh K,yf f]);go_wp2_with fail;go_call F as e w3 ⟨rfl,r3,k3⟩;have o:=zb (X.next k om om om om k3 (by simp only[Z7,Z1,Β];exact r3));have hs3:=o.size;have z:=zb (BE rb s u _ _ w3 o.rdr hs L B (W.next (o.kb.below hB om) (ye _)) hB w _ _ o.own k sm
   (fun j w1 a b c d=>uh I j _ _ w1 om b c (o.kb.trans d)))
  have l:=zb (BH s u);rw[uh V]at l;have c3:=Zj o.blk
  cases hv:YZ s u with
  | none=>
   rw[hv]at z l;have E:Hid (val s i=ν):=by show _=_;rw[uh HR,uh l];rfl
   go_wp2_with fail;go_call z as e w4 ⟨k4,rfl⟩;exact⟨rfl,k4.off o.kb (ye _),by rw[uh E];rfl⟩
  | some q=>
   obtain⟨⟨key,v⟩,n⟩:=q;have C:=BI hv;rw[hv]at z l;go_wp2_with fail;go_call z as e w4 ⟨k4,t,p,rfl,r4,m4,rep4⟩;have M:=zb (o.step k om om om om om k4 r4 m4 rep4);go_wp2_with fail;go_loopg [] (s.size+1 - n) (fun g wr=>∃ (j:Nat) (m:JM) (H:List (List UInt8×ω)),g=s.size+1 - j/\j<=s.size/\u<j/\H.length<=j/\WS rb s tb kt w (w.heap.size+1) w (w.heap.size+2) j m H wr/\QY s u=(Fw s j).map fun q=>(m.app q.1,q.2))
   case atStart=>exact⟨n,_,_,rfl,C.2,C.1,so,M,by rw[uh l];rfl⟩
   case round=>
    obtain⟨j,m,H,hg,Z,hj0,hxl,D,U⟩:=hrel;have J:=zb U;have y:=zb D;have hsw:=D.size;by_cases A:bt s j=44
    .have T:j<s.size:=Zf om;have F:=zb (Wq rb s j _ _ wr y.rdr om 44 A T);have x:Hid (QY s u=(QY s (sk s (j+1))).map fun q=>(m.app q.1,q.2)):=by
      show _=_
      rw[uh J,Fw,yf om,yg A]
     go_wp2_with fail;go_call F as e w7 ⟨rfl,r7,k7⟩;have r:=zb (y.next k om om om om k7 r7);have hs7:=r.size;have z:=zb (BE rb s (j+1) _ _ w7 r.rdr hs om B (W.next (r.kb.below hB om) (ye _)) hB w _ _ r.own k om
      (fun j w1 a b c d=>uh I j _ _ w1 om b c (r.kb.trans d)))
     have l:=zb (BH s (j+1));have c7:=Zj r.blk
     cases hv:YZ s (j+1)with
     | none=>
      rw[hv]at z l;have E:Hid (val s i=ν):=by show _=_;rw[uh HR,uh x,uh l];rfl
      go_wp2_with fail;go_call z as e w4 ⟨k4,rfl⟩;exact⟨rfl,k4.off r.kb (ye _),by rw[uh E];rfl⟩
     | some q=>
      obtain⟨⟨aa,v2⟩,n2⟩:=q;have C:=BI hv;rw[hv]at z l;go_wp2_with fail;go_call z as e w8 ⟨k8,t8,p8,rfl,r8,m8,rep8⟩;have R:=zb (r.step k om om om om om k8 r8 m8 rep8);go_wp2;go_roundg (s.size+1 - n2)
      all_goals first
       | omega
       | exact⟨n2,_,_,rfl,C.2,om,by rw[yh];simp only[yp,yE];omega,R,by rw[uh x,uh l,yB,Option.map_map];congr 1;funext q;simp[JM.app_assoc,JM.app]⟩
    .have F:=zb (GA rb s j _ _ wr y.rdr Z 44 (.inl A));have x:Hid (QY s u=(if bt s j=125 then η (JM.nil,j+1)else ν).map fun q=>(m.app q.1,q.2)):=by
      show _=_
      rw[uh J,Fw];by_cases g:bt s j=125
      .rw[yg g,yg g]
      .rw[yf g,yf A,yf g]
     go_wp2_with fail;go_call F as e w7 ⟨rfl,r7,k7⟩;have r:=zb (y.next k om om om om k7 r7);by_cases f:bt s j=125
     .have N:=zb (W2 rb s j _ _ w7 r.rdr om 125 f (Zf om));have E:Hid (val s i=η (.obj m,j+1)):=by
       show _=_
       rw[uh HR,uh x,yg f];simp[JM.app_nil]
      go_wp2_with fail;go_call N as e w8 ⟨rfl,r8,k8⟩;have G:=zb (r.next k om om om om k8 r8);have hs8:=G.size;go_wp2;go_ret;refine⟨G.kb,?_⟩;rw[uh E];refine⟨_,_,rfl,by simp only[zY,zF];exact G.rdr,fun a b=>?_⟩;rw[zj];simp only[zY]at a;simp only[zF]at b;exact⟨w.heap.size+1,w,H.length,H,rfl,⟨om,om⟩,⟨om,om⟩,G.blk,G.own,ye _,ZE.keep (fun _ _=>rfl) (fun b hb=>⟨by have:=hb.1;omega,hb.2⟩) m H (G.rep a b)⟩
     .have N:=zb (FL rb s j _ _ w7 r.rdr om Z 125 (.inl f));have E:Hid (val s i=ν):=by
       show _=_
       rw[uh HR,uh x,yf f];rfl
      go_wp2_with fail;go_call N as e w8 ⟨rfl,k8⟩;exact⟨rfl,r.kb.trans k8,by rw[uh E];rfl⟩
theorem BJ{v x:ω}(h:w.ownsRow B e 1 v (n+1) (xs++[x])):∃ g cap,v=ς (η g) (n+1) cap:=by
 rcases h.2 with ⟨_,d⟩ |⟨g,cap,a,b,_⟩
 .omega
 .exact⟨g,cap,b⟩
theorem zdS (rb:Nat) (s:Bs) (i:Nat) (tb kt:Bool) (w:Wo) (h:zr rb s i tb kt w) (hs:s.size<=100000) (h91:bt s i=91)
  (HV:∀ (j:Nat) (tb' kt':Bool) (w1:Wo),i<j->j<=s.size->zr rb s j tb' kt' w1->KB rb w w1->δ prog 79 #[rb] w1 (Yq rb s tb' kt' w1 ((val s (sk s j)).map fun q=>(q.1,sk s q.2)))):
  δ prog 177 #[rb] w (Yq rb s tb kt w (val s i)):=by
 obtain⟨i0,hi0,hz0,hz1,hz2⟩:=info_parts ST;have hlt:=h.lt;have hi:i<s.size:=Zf om;have T:=zb (Pg h91);have ab:=zb HV;have k00:=Zd s (i+1);have k01:=(JB (s:=s) (i:=i+1) om).2;have k02:=BF s (i+1);have HEX:=zb (W2 rb s i tb kt _ (h.below (WR w (Fs (ς ν 0 0)))) om 91 h91 hi);generalize hk0:sk s (i+1)=D at *;go_in;go_wp2_with fail;go_call HEX as e w1 ⟨rfl,r1,k1⟩;have HSK:=zb (Xy rb s (i+1) tb kt w1 r1 om om);have A1:=zb ((k1.block w.heap.size sm om).trans (yH w _));have K1:=zb ((KB.of_below (rb:=rb) (WR w (Fs (ς ν 0 0)))).trans k1);have hs1:w.heap.size+1<=w1.heap.size:=by have:=k1.size;simpa using this
 go_wp2_with fail;go_call HSK as e w2 ⟨rfl,r2,k2⟩;rw[hk0]at r2;have A2:=zb ((k2.block w.heap.size om om).trans A1);have K2:=zb ((uh K1).trans k2);have hs2:w.heap.size+1<=w2.heap.size:=by have:=k2.size;omega
 have R2:=zb r2;by_cases k:bt s D=93
 .have H:=zb (Wq rb s D tb kt w2 R2 om 93 k (Zf om));have HR:Hid (val s i=η (.arr .nil,D+1)):=by show _=_;rw[uh T,yg k]
  go_wp2_with fail;go_call H as e w3 ⟨rfl,r3,k3⟩;have R3:=zb r3;have Z:=zb ((k3.block w.heap.size om om).trans A2);have Q:=zb ((uh K2).trans k3);have hs3:=k3.size;go_wp2;go_ret;refine⟨Q,?_⟩;rw[uh HR];refine⟨_,_,rfl,by simp only[zY,zF,qz,qf,Β];exact uh R3,fun _ _=>?_⟩;rw[zj];exact⟨w.heap.size,ς ν 0 0,[],rfl,⟨ye _,om⟩,Z,⟨⟨rfl,.inl ⟨rfl,rfl⟩⟩,fun g hg=>by cases hg⟩,by rw[Zv]⟩
 .have H:=zb (GA rb s D tb kt w2 R2 k01 93 (.inl k));have hn93:=k;have HR:Hid (val s i=(elems s D).map fun q=>(.arr q.1,q.2)):=by show _=_;rw[uh T,yf k]
  go_wp2_with fail;go_call H as e w3 ⟨rfl,r3,k3⟩;have Z:=zb ((k3.block w.heap.size om om).trans A2);have Q:=zb ((uh K2).trans k3);have hs3:=k3.size;have G:KB rb w w3.drew:=⟨(uh Q).os,(uh Q).tape,(uh Q).output,(uh Q).size,(uh Q).block⟩;have r:=zb (uh ab D tb kt w3.drew om k01 r3 G);rw[k02]at r;have d:Hid (Wk rb s tb kt w D .nil (ς ν 0 0) [] w3.drew):=⟨by simp only[qz,qf,Β];exact r3,Z,⟨rfl,.inl ⟨rfl,rfl⟩⟩,G,by show _<=w3.heap.size;omega,fun _ _=>by rw[Zv]⟩;have ci:w3.drew.cell? w.heap.size=η (ς ν 0 0):=yG Z 0;have hsd:w.heap.size+1<=w3.drew.heap.size:=by show _<=w3.heap.size;omega
  clear H k3 A2 K2 R2 hn93
  cases hv:val s D with
  | none=>
   rw[hv]at r;have L:Hid (val s i=ν):=by show _=_;rw[uh HR,U2,hv];rfl
   clear hv;go_wp2_with fail;refine wp_region_any kr ?_;try (change wpAny _ _ _ _ _ _ _ (World.drew _))
   refine wpAny_take (i:=0) (v:=?_) rfl kr kr kr (fun _ _ _ h=>h) (Or.inl ⟨by rfl,?_⟩) ?_;rotate_left 1
   .intro w;go_simp;try with_reducible rfl
   refine wpAny_take (i:=1) (v:=?_) rfl kr kr kr (fun _ _ _ h=>h) (Or.inl ⟨by rfl,?_⟩) ?_;rotate_left 1
   .intro w;go_simp;try with_reducible rfl
   refine wpAny_take (i:=2) (v:=?_) rfl kr kr kr (fun _ _ _ h=>h) (Or.inl ⟨by rfl,?_⟩) ?_;rotate_left 1
   .intro w;go_simp;try with_reducible rfl
   refine wpAny_take (i:=3) (v:=?_) rfl kr kr kr (fun _ _ _ h=>h) (Or.inl ⟨by rfl,?_⟩) ?_;rotate_left 1
   .intro w;go_simp;try with_reducible rfl
   refine wpAny_take (i:=5) (v:=?_) rfl kr kr kr (fun _ _ _ h=>h) (Or.inl ⟨by rfl,?_⟩) ?_;rotate_left 1
   .intro w;go_simp;try with_reducible rfl
   refine wpAny_ready (rs:=[4,6]) kr sm ?_;refine AllReady.cons rfl (fun K hK=>?_) ?_
   .go_simp;refine hK _ _ ?_;clear hK K;refine wpAny_ready (rs:=[6]) kr sm ?_;refine AllReady.cons rfl (fun K hK=>?_) AllReady.nil;go_simp;go_call r as e w9 ⟨k9,rfl⟩;exact⟨rfl,G.trans k9,by rw[uh L];rfl⟩
   .refine AllReady.cons rfl (fun K hK=>?_) AllReady.nil;go_simp;go_call r as e w9 ⟨k9,rfl⟩;exact⟨rfl,G.trans k9,by rw[uh L];rfl⟩
  | some q=>
   obtain⟨v,n⟩:=q;have P:=VO hv;have J:=zb (BG hv);have hn1:=Zd s n;have O:=(JB P.2).2;rw[hv]at r;have r:Hid (δ prog 79 #[rb] w3.drew (Yq rb s (tb || qz .nil) (kt || qf .nil) w3.drew (η (v,sk s n)))):=by
    show δ _ _ _ _ _
    simp only[qz,qf,Β];exact r
   clear hv Z Q T;have hxl:([]:List ω).length<=D:=yu _;go_wp2_with fail;go_cut []from 18 to 28 (fun wx=>∃ (v5:ω) (x5:List ω),Wk rb s tb kt w (sk s n) (.cons v .nil) v5 x5 wx/\x5.length<=sk s n)
   case first=>
    go_region_law (first
     |(
       go_simp;go_call r as e w4 ⟨k4,t,p,rfl,r4,hrep⟩;have hs4:=k4.size;have U:=(k4.block w.heap.size om om).trans (uh d).2.1;have c4:=Zj U;have ca4:(w4.alloc (χ #[φ t p] 65)).cell? w.heap.size=η (Value.slice ν 0 0):=((WR w4 _).cell (p:=w.heap.size) (by show w.heap.size<_;omega)).trans c4;have hne4:¬ w.heap.size=w4.heap.size:=om;have A:=Fv (uh d).2.2.1 k4 (show rb<w.heap.size+1 by omega);have M:=zb r4;have y:=zb hrep;have I:=zb U;clear r4 hrep U)
     |(
       refine Nq rfl (.tmp 22) (.tmp 25) 78 rfl (w.heap.size+1) 65 i0 .nilIface 1 16 underlying78 hi0 hz0 hz1 hz2 rfl dc _ _ _ rfl (by exact A.alloc _) w4.heap.size 1 1 [φ t p] rfl rfl (by exact cell_one_new _ _ _) (by intro u hu;simp at hu;subst hu;rfl) mo om so ?_;intro v5 w5 m C z;obtain⟨g5,ad,W⟩:=BJ m;subst W;have V:η w.heap.size≠((Value.slice ν 0 0)).ownBlock:=fun e=>by have:=((uh d).2.2.1.lt _ e.symm).1;omega
       have Y:=(C.block w.heap.size so V).trans ((Lib.alloc_old w4 _ w.heap.size om).trans I);have c5:=Zj Y;have f5:=yJ Y 0))
    all_goals
     have R:=zb (Wk.step hlt d k4 M y m C z);go_wp2_with fail;go_meet;exact⟨_,_,R,by rw[yh];simp only[yp,yE];omega⟩
   case rest=>
    obtain⟨o,E,l,hxl2⟩:=hcut;have aa:=zb l;clear l r d G ci r3;go_wp2_with fail;go_loopg [] (s.size+1 - sk s n) (fun g wr=>∃ (j:Nat) (f:JL) (o:ω) (E:List ω),g=s.size+1 - j/\j<=s.size/\D<j/\E.length<=j/\Wk rb s tb kt w j f o E wr/\elems s D=(Fu s j).map fun q=>(f.app q.1,q.2))
    case atStart=>exact⟨sk s n,.cons v .nil,o,E,rfl,O,om,hxl2,aa,by rw[uh J];rfl⟩
    case round=>
     obtain⟨j,f,o,E,hg,hj,hj0,hxl,l,hst⟩:=hrel;have N:=zb hst;have x:=zb l;have hsw:=l.2.2.2.2.1;clear hst l aa J P hn1 O;by_cases B:bt s j=44
     .have hjl:j<s.size:=Zf om;have H:=zb (Wq rb s j _ _ wr (uh x).1 om 44 B hjl);have F:Hid (elems s D=(elems s (sk s (j+1))).map fun q=>(f.app q.1,q.2)):=by
       show _=_
       rw[uh N,Fu,yf om,yg B]
      clear B N;go_wp2_with fail;go_call H as e w7 ⟨rfl,r7,k7⟩;have hs7:=k7.size;have X:=(uh x).2.2.2.1;have G:KB rb w w7.drew:=⟨(X.trans k7).os,(X.trans k7).tape,(X.trans k7).output,(X.trans k7).size,(X.trans k7).block⟩;have d:Hid (Wk rb s tb kt w (j+1) f o E w7.drew):=by
       obtain⟨_,q2,q3,q4,q5,q6⟩:=uh x;refine⟨r7,(k7.block w.heap.size om om).trans q2,Fv (w1:=w7) q3 k7 (show rb<w.heap.size+1 by omega),G,by show _<=w7.heap.size;omega,fun a b=>?_⟩;exact Zv.keep (w:=wr) (w':=w7.drew) (S:=AS w.heap.size o wr) (S':=AS w.heap.size o w7.drew) (fun b hb=>k7.block b hb.2.1 (by have:=hb.1;omega)) (fun b hb=>⟨hb.1,by show b<w7.heap.size;have:=hb.2.1;omega,hb.2.2⟩) f E (q6 a b)
      have r:=zb (uh ab (j+1) _ _ w7.drew om om r7 G);have ci:w7.drew.cell? w.heap.size=η o:=yG (uh d).2.1 0;have hsd:w.heap.size+1<=w7.drew.heap.size:=by show _<=w7.heap.size;omega
      have hsj:=Zd s (j+1);clear H k7 x X r7
      cases hv:val s (sk s (j+1))with
      | none=>
       rw[hv]at r;have L:Hid (val s i=ν):=by show _=_;rw[uh HR,uh F,U2,hv];rfl
       clear hv;go_wp2_with fail;refine wp_region_any kr ?_;try (change wpAny _ _ _ _ _ _ _ (World.drew _))
       refine wpAny_take (i:=0) (v:=?_) rfl kr kr kr (fun _ _ _ h=>h) (Or.inl ⟨by rfl,?_⟩) ?_;rotate_left 1
       .intro w;go_simp;try with_reducible rfl
       refine wpAny_take (i:=1) (v:=?_) rfl kr kr kr (fun _ _ _ h=>h) (Or.inl ⟨by rfl,?_⟩) ?_;rotate_left 1
       .intro w;go_simp;try with_reducible rfl
       refine wpAny_take (i:=2) (v:=?_) rfl kr kr kr (fun _ _ _ h=>h) (Or.inl ⟨by rfl,?_⟩) ?_;rotate_left 1
       .intro w;go_simp;try with_reducible rfl
       refine wpAny_take (i:=3) (v:=?_) rfl kr kr kr (fun _ _ _ h=>h) (Or.inl ⟨by rfl,?_⟩) ?_;rotate_left 1
       .intro w;go_simp;try with_reducible rfl
       refine wpAny_take (i:=5) (v:=?_) rfl kr kr kr (fun _ _ _ h=>h) (Or.inl ⟨by rfl,?_⟩) ?_;rotate_left 1
       .intro w;go_simp;try with_reducible rfl
       refine wpAny_ready (rs:=[4,6]) kr sm ?_;refine AllReady.cons rfl (fun K hK=>?_) ?_
       .go_simp;refine hK _ _ ?_;clear hK K;refine wpAny_ready (rs:=[6]) kr sm ?_;refine AllReady.cons rfl (fun K hK=>?_) AllReady.nil;go_simp;go_call r as e w9 ⟨k9,rfl⟩;exact⟨rfl,G.trans k9,by rw[uh L];rfl⟩
       .refine AllReady.cons rfl (fun K hK=>?_) AllReady.nil;go_simp;go_call r as e w9 ⟨k9,rfl⟩;exact⟨rfl,G.trans k9,by rw[uh L];rfl⟩
      | some q=>
       obtain⟨v2,n⟩:=q;have P:=VO hv;have J:=zb (BG hv);have hn1:=Zd s n;have O:=(JB P.2).2;rw[hv]at r;clear hv;go_wp2_with fail;go_region_law (first
        |(
          go_simp;go_call r as e w4 ⟨k4,t,p,rfl,r4,hrep⟩;have hs4:=k4.size;have U:w4.heap[w.heap.size]?=η (Fs o):=(k4.block w.heap.size om om).trans (uh d).2.1;have c4:w4.cell? w.heap.size=η o:=yG U 0;have ca4:(w4.alloc (χ #[φ t p] 65)).cell? w.heap.size=η o:=((WR w4 _).cell (p:=w.heap.size) (by show w.heap.size<_;omega)).trans c4;have hne4:¬ w.heap.size=w4.heap.size:=om;have A:=Fv (uh d).2.2.1 k4 (show rb<w.heap.size+1 by omega);have M:=zb r4;have y:=zb hrep;have I:=zb U;clear r4 hrep U)
        |(
          refine Nq rfl (.tmp 37) (.tmp 40) 78 rfl (w.heap.size+1) 65 i0 .nilIface 1 16 underlying78 hi0 hz0 hz1 hz2 rfl dc _ _ _ rfl (by exact A.alloc _) w4.heap.size 1 1 [φ t p] rfl rfl (by exact cell_one_new _ _ _) (by intro u hu;simp at hu;subst hu;rfl) mo om so ?_;intro v5 w5 m C z;obtain⟨g5,ad,W⟩:=BJ m;subst W;have V:η w.heap.size≠(o).ownBlock:=fun e=>by have:=((uh d).2.2.1.lt _ e.symm).1;omega
          have Y:w5.heap[w.heap.size]?=η (Fs o):=(C.block w.heap.size so V).trans ((Lib.alloc_old w4 _ w.heap.size om).trans I);have c5:w5.cell? w.heap.size=η o:=yG Y 0;have f5:w5.frozen? w.heap.size=ζ:=yJ Y 0))
       all_goals
        have R:=zb (Wk.step hlt d k4 M y m C z);clear M y I A c4 m C z Y k4 r d G ci;go_wp2;go_roundg (s.size+1 - sk s n)
       all_goals first
        | omega
        | exact⟨sk s n,f.app (.cons v2 .nil),_,_,rfl,O,om,by rw[yh];simp only[yp,yE];omega,R,by rw[uh F,uh J,Option.map_map];congr 1;funext q;simp[JL.app_assoc,JL.app]⟩
     .have H:=zb (GA rb s j _ _ wr (uh x).1 hj 44 (.inl B));have F:Hid (elems s D=(if bt s j=93 then η (JL.nil,j+1)else ν).map fun q=>(f.app q.1,q.2)):=by
       show _=_
       rw[uh N,Fu];by_cases g:bt s j=93
       .rw[yg g,yg g]
       .rw[yf g,yf B,yf g]
      clear B N;go_wp2_with fail;go_call H as e w7 ⟨rfl,r7,k7⟩;have hs7:=k7.size;obtain⟨_,q2,q3,q4,q5,q6⟩:=uh x;have A7:=zb ((k7.block w.heap.size om om).trans q2);have O7:=zb (Fv q3 k7 (show rb<w.heap.size+1 by omega));have K7:=zb (q4.trans k7);have Q7:Hid (qz f=ζ->qf f=ζ->Zv w7 (AS w.heap.size o w7) f E):=fun a b=>Zv.keep (fun b hb=>k7.block b hb.2.1 (by have:=hb.1;omega)) (fun b hb=>⟨hb.1,by have:=hb.2.1;omega,hb.2.2⟩) f E (q6 a b);have R7:=zb r7;clear q2 q3 q4 q5 q6 H x r7 k7;by_cases k:bt s j=93
      .have HE:=zb (W2 rb s j _ _ w7 R7 om 93 k (Zf om));have L:Hid (val s i=η (.arr f,j+1)):=by
        show _=_
        rw[uh HR,uh F,yg k];simp[JL.app_nil]
       clear k;go_wp2_with fail;go_call HE as e w8 ⟨rfl,r8,k8⟩;have hs8:=k8.size;have R8:=zb r8;have A8:=zb ((k8.block w.heap.size om om).trans A7);have O8:=zb (Fv O7 k8 (show rb<w.heap.size+1 by omega));have K8:=zb ((uh K7).trans k8);have Q8:Hid (qz f=ζ->qf f=ζ->Zv w8 (AS w.heap.size o w8) f E):=fun a b=>Zv.keep (fun b hb=>k8.block b hb.2.1 (by have:=hb.1;omega)) (fun b hb=>⟨hb.1,by have:=hb.2.1;omega,hb.2.2⟩) f E (uh Q7 a b);clear HE r8 k8 A7 O7 K7 Q7 R7;go_wp2;go_ret;refine⟨K8,?_⟩;rw[uh L];refine⟨_,_,rfl,by simp only[zY,zF];exact uh R8,fun a b=>?_⟩;rw[zj];simp only[zY]at a;simp only[zF]at b;exact⟨w.heap.size,o,E,rfl,⟨ye _,om⟩,A8,⟨qN O8 (yu _),fun g hg=>⟨by have:=((uh O8).lt g hg).1;omega,((uh O8).lt g hg).2⟩⟩,Zv.keep (fun _ _=>rfl) (fun b hb=>⟨by have:=hb.1;omega,hb.2.1⟩) f E (uh Q8 a b)⟩
      .have HE:=zb (FL rb s j _ _ w7 R7 om hj 93 (.inl k));have L:Hid (val s i=ν):=by
        show _=_
        rw[uh HR,uh F,yf k];rfl
       clear k;go_wp2_with fail;go_call HE as e w8 ⟨rfl,k8⟩;exact⟨rfl,(uh K7).trans k8,by rw[uh L];rfl⟩
theorem zdT(rb:Nat)(s:Bs)(hs:s.size<=100000)(B:Nat)(hB:B<=rb):∀ (n i:Nat) (tb kt:Bool) (w:Wo),s.size - i<=n->zr rb s i tb kt w->i<=s.size->Qd B w->Jj B w ->
  δ prog 79 #[rb] w (Yq rb s tb kt w ((val s (sk s i)).map fun q=>(q.1,sk s q.2))):=by
 intro n;induction n with
 | zero=>
  intro i tb kt w v h d p o;have r:=h.lt;have g:=Zd s i;refine BD rb s i tb kt w h hs d fun w1 r1 k1=>Bz rb s (sk s i) tb kt w1 r1 hs (JB d).2 B (p.next (k1.below hB om) (ye _)) (o.next (k1.below hB om) (ye _)) hB ?_ ?_
  .intro k f a b;have:=Zf (s:=s) (i:=sk s i) om;omega
  .intro k f a b;have:=Zf (s:=s) (i:=sk s i) om;omega
 | succ n ih=>
  intro i tb kt w v h d p o;have r:=h.lt;have g:=Zd s i;refine BD rb s i tb kt w h hs d fun w1 r1 k1=>?_;have l:=p.next (k1.below hB om) (ye _);have m:=o.next (k1.below hB om) (ye _);have x:=k1.size;refine Bz rb s (sk s i) tb kt w1 r1 hs (JB d).2 B l m hB ?_ ?_
  .intro k f a b;have u:=a.size;refine zdS rb s (sk s i) tb kt k f hs b fun j tb' kt' w3 hj hjs r3 k3=>?_;exact ih j tb' kt' w3 om r3 hjs (l.next ((a.trans k3).below hB om) (ye _)) (m.next ((a.trans k3).below hB om) (ye _))
  .intro k f a b;have u:=a.size;refine zdR rb s (sk s i) tb kt k f hs b B (l.next (a.below hB om) (ye _)) hB fun j tb' kt' w3 hj hjs r3 k3=>?_;exact ih j tb' kt' w3 om r3 hjs (l.next ((a.trans k3).below hB om) (ye _)) (m.next ((a.trans k3).below hB om) (ye _))
open Go.Lib hiding intOf
structure VR(w:Wo)(a:Option Addr)(g off:Nat)(xs:List ω):Prop where
 ad:0<xs.length->a=η ⟨g,off,ν⟩
 cell:∀ j (h:j<xs.length),w.cell? ⟨g,off+j,ν⟩=η xs[j]
theorem VR.below{w':Wo}{off:Nat}(h:VR w a g off xs)(hb:Below w w w'):VR w' a g off xs:=
 ⟨h.ad,fun j hj=>(hb.cell (p:=⟨g,off+j,ν⟩) (yK _ _ (h.cell j hj))).trans (h.cell j hj)⟩
theorem BK   {rest:List Oper}  {ac:Act}  (hg:o.guard=ν) (s x:Operand)
  (ho:o.op= .call {callee:=.builtin .append,args:=#[s,x],argTypes:=#[78,78]})  {v:ω} {us:List ω}  {off cap:Nat} (hs:ac.eval s=v) (hx:ac.eval x=ς a us.length cap)
  (h:w.ownsRow B 65 1 v xs.length xs) (k:VR w a g off us) (hcap:a=ν->cap=0) (h1:∀ u∈us,u.oneCell'=ξ) (hB:B<=w.heap.size) (hl:xs.length+us.length<=1000000)
  (hK:∀ v' w',w'.ownsRow B 65 1 v' (xs.length+us.length) (xs++us)->w.grownBy w' v.ownBlock->wpList prog ops Q rest (ac.put o.dst v') w'):wpList prog ops Q (o :: rest) ac w:=by
 obtain⟨q,n,i,l,m⟩:=info_parts ST
 cases a with
 | none=>
  have d:us=[]:=by
   cases us with
   | nil=>rfl
   | cons u r=>have:=k.ad sm;cases this
  subst d;obtain rfl:=hcap rfl;refine wpList_append_own_none hg s x 78 ho B 65 q 1 underlying78 n v _ _ hs h hx ?_;exact hK v w (by rw[yT];exact h) (World.grownBy.refl _ _)
 | some ad=>
  have b:∀ j u,us[j]?=η u->w.cell? (ad.add j)=η u:=fun j u hu=>by
   obtain⟨p,e⟩:=List.getElem?_eq_some_iff.1 hu;have d:=k.ad (Nat.lt_of_le_of_lt (yu j) p);have f:=Option.some.inj d;rw[← e,f,Addr.add_lit];exact k.cell j p
  refine wpList_append_own _ hg s x 78 ho B 65 q .nilIface 1 16 underlying78 n i l m rfl dc v _ _ hs h ad us.length cap us hx sm b h1 mo om hB ?_;intro v' w' y z _;exact hK v' w' y z
theorem zdU(n:Nat)(w:Wo)(hn:n<=1000000):
  δ prog 279 #[ς ν 0 0,ι κ (n:Int)] w fun e w'=>∃ r,e=ε r/\w'.ownsRow w 65 1 r 0 []/\Below w w w':=by
 obtain⟨j,g,i,q,d⟩:=info_parts ST;by_cases p:n=0
 .subst p;go_in;go_wp2;go_ret;exact⟨_,rfl,World.ownsRow_nil w w 65 1,yI _ _⟩
 .have hold:(Builtin.firstCells j.size 0 (ς ν 0 0)).run prog w.drew= .ok (([]:List ω).toArray) w.drew:=run_firstCells_none w.drew j.size 0 0 0;have b:∀ ty,(Builtin.append_ #[78,3] ty #[ς ν 0 0,ι κ (n:Int)]).run prog w=
    .ok (ς (η w) n (grownCap w n 0 65)) (w.drew.alloc (χ (([]:List ω).toArray++Builtin.zeroCells (Γ).cells n++Builtin.zeroCells (Γ).cells (grownCap w n 0 65 - n)) 65)):=fun ty=>by
   have h:=Lib.run_append_grow_zeros w 78 3 ty 65 j .nilIface .i64 .i64 underlying78 underlying3 g i ν 0 0 [] hold n om om om om
    (by rw[d];omega)
    (by rw[Nat.zero_add];exact growslice_fits om (by rw[d];omega))
   rw[Nat.zero_add]at h;exact h
  have f:n<=grownCap w n 0 65:=grownCap_ge w _ _ _;have a:=grownCap_le_maxLen w n 0 65 mo;obtain⟨G,k⟩:∃ G,G=grownCap w n 0 65:=⟨_,rfl⟩;rw[← k]at b f a;have l:G<=9223372036854775807:=by unfold maxLen at a;omega
  have o:Hid ((w.alloc (χ (Builtin.zeroCells #[Γ] n++Builtin.zeroCells #[Γ] (G - n)) 65)).drew.ownsRow w 65 1 (ς (η w) 0 G) 0 []):=by
   refine⟨rfl,.inr ⟨w,G,_,rfl,ye _,yH w _,yu _,a,?_,rfl⟩⟩;rw[Array.size_append,size_zeroCells,size_zeroCells];simp;omega
  have m:Hid (Below w w (w.alloc (χ (Builtin.zeroCells #[Γ] n++Builtin.zeroCells #[Γ] (G - n)) 65)).drew):=((yI _ _).alloc (ye _) _).drew;clear hold k;go_in;go_wp2_with (at_builtin;refine Lib.wpList_append_run _ rfl _ _ _ _ rfl _ _ rfl rfl _ _ (b _) ?_)
  all_goals (go_ret;exact⟨_,rfl,o,m⟩)
structure VS where
 a:Option Addr
 g:Nat
 off:Nat
 cap:Nat
 us:List ω
def VS.Ok(w:Wo)(s:VS):Prop:=VR w s.a s.g s.off s.us/\(∀ u∈s.us,u.oneCell'=ξ)/\(s.a=ν->s.cap=0)
def Qe(L:List VS):List ω:=L.flatMap VS.us
theorem Nr{L:List VS}(h:k<L.length):Qe (L.take (k+1))=Qe (L.take k)++L[k].us:=by
 unfold Qe;rw[yz h,List.flatMap_append,List.flatMap_singleton]
theorem BL{L:List VS}(h:k<L.length):(Qe (L.take k)).length+L[k].us.length<=(Qe L).length:=by
 have e:L=L.take (k+1)++L.drop (k+1):=(List.take_append_drop _ _).symm;have:(Qe L).length=(Qe (L.take (k+1))).length+(Qe (L.drop (k+1))).length:=by
  unfold Qe;rw[← yh,← List.flatMap_append,← e]
 rw[this,Nr h,yh];omega
theorem BM(L:List VS)(gb:Nat)(w:Wo)(hc:∀ j (h:j<L.length),w.cell? ⟨gb,j,ν⟩=η (.slice L[j].a L[j].us.length L[j].cap))(hok:∀ s∈L,VS.Ok w s)(hl:(Qe L).length<=1000000)(hn:L.length<=1000):
  δ prog 263 #[ς (η gb) L.length L.length] w fun e w'=>∃ r,e=ε r/\w'.ownsRow w 65 1 r (Qe L).length (Qe L)/\Below w w w':=by
 have o:=zb hc;have v:=zb hok;go_in;go_wp2;go_loopw [3,11] (fun z i wr=>∃ k:Nat,k<=L.length/\z=ι κ ((Qe (L.take k)).length:Int)/\i=ι κ (k:Int)/\w=wr) (fun _ i _=>L.length - (RowKit.intOf i).toNat)
 case atStart=>exact⟨0,yu _,by simp[Qe],rfl,rfl⟩
 case round=>
  obtain⟨k,M,rfl,rfl,rfl⟩:=hrel;by_cases a:k<L.length
  .have D:(k:Int)<(L.length:Int):=om;have H:=uh o k a;have N:=BL a;have I:=zb (Nr a);generalize hP:(Qe (L.take k)).length=P at *;generalize hU:L[k].us.length=U at *;have F:=zb (show (Qe (L.take (k+1))).length=P+U by rw[uh I,yh,hP,hU]);go_wp2;go_roundw
   case rel=>exact⟨k+1,om,by rw[uh F];go_num,by go_num,trivial⟩
   case measure=>simp[RowKit.intOf];omega
  .have d:L.take k=L:=yr om;rw[d];have G:=zb (zdU (Qe L).length w om);go_wp2_with fail;go_call G as e w2 ⟨r,rfl,o2,b2⟩;have q:=zb o2;have m:=zb b2;go_wp2;go_loopw [6,27] (fun r i wr=>∃ k:Nat,k<=L.length/\i=ι κ (k:Int)/\wr.ownsRow w 65 1 r (Qe (L.take k)).length (Qe (L.take k))/\Below w w wr) (fun _ i _=>L.length - (RowKit.intOf i).toNat)
   case atStart=>exact⟨0,yu _,rfl,by simpa [Qe]using uh q,m⟩
   case round=>
    obtain⟨k,M,rfl,B,f⟩:=hrel;have l:=f.size;have g:=zb f;have C:=zb B;by_cases a:k<L.length
    .have H:=(f.cell (p:=⟨gb,k,ν⟩) (yK _ _ (uh o k a))).trans (uh o k a);have N:=BL a;have y:=zb (uh v L[k] (yt a));have A:=zb ((uh y).1.below f);go_wp2_with (at_builtin;refine BK rfl (.tmp 31) (.tmp 32) rfl rfl rfl C A (uh y).2.2 (uh y).2.1 l om ?_);intro O Q E K;have n:=zb (g.grown K l (fun b f=>(C.lt b f).1));have J:(Qe (L.take k)).length+L[k].us.length=(Qe (L.take (k+1))).length:=by rw[Nr a,yh]
     rw[← Nr a,J]at E;have u:=zb E;go_wp2;go_roundw
     case rel=>exact⟨k+1,om,by go_num,u,n⟩
     case measure=>simp[RowKit.intOf];omega
    .have d:L.take k=L:=yr om;rw[d]at B;have x:=zb B;go_wp2;go_ret;exact⟨_,rfl,x,g⟩
theorem zdV(a:Addr)(g off cap:Nat)(us:List ω)(w:Wo)(hv:VR w (η a) g off us)(h1:∀ u∈us,u.oneCell'=ξ)(hl:us.length<=1000000):
  δ prog 267 #[ς (η a) us.length cap] w fun e w'=>∃ r,e=ε r/\w'.ownsRow w 65 1 r us.length us/\Below w w w':=by
 have p:=zb hv;have m:=zb h1;have q:∀ (w:Wo) (a:Option Addr) (n c n' c':Nat),(binOp .eql 78 (ς a n c) (ς ν n' c')).run prog w= .ok (θ a.isNone) w:=fun w a n c n' c'=>Lib.run_eql_slice_nil w _ _ a n c n' c' underlying78;have j:Hid (Below w w (w.alloc (χ #[] 65))):=(yI _ _).alloc (ye _) _;have o:Hid ((w.alloc (χ #[] 65)).ownsRow w 65 1 (ς (η w) 0 0) ([]:List ω).length []):=World.ownsRow_made w #[] 0 (ye _) (yu _) rfl;have l:Hid (w.heap.size<=(w.alloc (χ #[] 65)).heap.size):=by show _<=_;simp
 go_in;go_wp2_with (at_builtin;refine BK rfl (.tmp 5) (.tmp 6) rfl rfl rfl o (p.below j) (fun h=>by cases h) m l so ?_);intro v x d b;have f:=zb (j.grown b l (by intro k s;simp[Value.ownBlock]at s;omega));have i:=zb (by simpa using d);go_wp2;go_ret;exact⟨v,rfl,i,f⟩
