import Derived.Maps.AppendAt
import Derived.Test.YtpaecnbdoljafaaGreatDoorBp21
set_option maxRecDepth 100000
set_option maxHeartbeats 8000000
namespace Go.Proofs.YtpaecnbdoljafaaGreatDoor
open Go.RowKit Go.Proofs.Tryz
theorem SO {P:Program} {ops:Array Oper} {o:Oper} {a:Act} {w:Wo} {K:Act->Wo->Prop} {Q:Exit->Act->Wo->Prop} {E:Prop}
  (hg:o.guard=none) (s x:Operand) (t:TypeId) (hop:o.op=Op.call {callee:=Callee.builtin Builtin.append,args:=#[s,x],argTypes:=#[t,t]})
  (base:Nat) (e:TypeId) (i:TypeInfo) (z:Value) (size bytes:Nat) (ht:P.underlying t=some (.slice e)) (hi:P.info? e=some i) (hz:i.zero=some z)
  (hsize:i.size=size) (hby:i.bytes=bytes) (hzs:z.cells.size=size) (hsz:0<size)
  (v:Value) (n:Nat) (xs:List Value) (hs:a.eval s=v) (hown:w.ownsRow base e size v n xs)
  (ad:Addr) (m c:Nat) (news:List Value) (hx:a.eval x= .slice (some ad) m c) (hl:news.length=m*size) (hnews:∀ j u,news[j]?=some u->w.cell? (ad.add j)=some u) (h1:∀ u∈news,u.oneCell'=true)
  (h63:n+m<=maxLen) (hbytes:(n+m)*bytes<=140737488355328) (hbase:base<=w.heap.size)
  (hK:∀ v' w',w'.ownsRow base e size v' (n+m) (xs++news)->w.grownBy w' v.ownBlock->(v'.ownBlock=v.ownBlock∨v'.ownBlock=some w.heap.size)->K (a.put o.dst v') w'):
  if Region.wanted o (yielded ops a.tmps)=true then Oper.wp P o a w K Q else E:=by
 have d:Region.wanted o (yielded ops a.tmps)=true:=by simp[Region.wanted,hg]
 rw[yf d];obtain⟨v',w',b,f,g,_,h⟩:=run_append_own_at (P:=P) (w:=w) base t o.type e i z size bytes ht hi hz hsize hby hzs hsz v n xs hown ad m c news hl hnews h1 h63 hbytes hbase;unfold Oper.wp;simp[execOp,hop,resolve,invoke,builtin,hs,hx,b,Result.andThen];exact hK v' w' f g h
def UA(s:Bs)(j:Nat):Option (JL×Nat):=if bt s j=93 then some (.nil,j+1)else if bt s j=44 then elems s (sk s (j+1))else none
theorem SP{s:Bs}{i n:Nat}{v:JV}(h:val s i=some (v,n)):elems s i=(UA s (sk s n)).map fun q=>(JL.cons v q.1,q.2):=by
 rw[Gh,h];unfold UA;simp only[yz];split
 ·rfl
 ·split<;>rfl
def AS(ab:Nat)(sv:Value)(wx:Wo)(k:Nat):Prop:=ab<k/\k<wx.heap.size/\sv.ownBlock≠some k
def Vb(rb:Nat)(s:Bs)(tb kt:Bool)(w:Wo)(j:Nat)(acc:JL)(sv:Value)(xs:List Value)(wx:Wo):Prop:=
 zr rb s j (tb || ZU acc) (kt || ZG acc) wx/\wx.heap[w.heap.size]?=some (JJ sv)/\wx.ownsRow (w.heap.size+1) 61 1 sv xs.length xs/\KB rb w wx/\w.heap.size+1<=wx.heap.size /\
  (ZU acc=false->ZG acc=false->ZB wx (AS w.heap.size sv wx) acc xs)
theorem UB{rb:Nat}{w w1:Wo}{B e size n:Nat}{v:Value}{xs:List Value}(h:w.ownsRow B e size v n xs)(k:KB rb w w1)(hB:rb<B):w1.ownsRow B e size v n xs:=by
 refine⟨h.1,?_⟩;rcases h.2 with f |⟨g,a,b,j,i,d,r⟩
 ·exact .inl f
 ·exact .inr ⟨g,a,b,j,i,(k.block g (yA.1 d).1 (by omega)).trans d,r⟩
theorem Vb.step {rb:Nat} {s:Bs} {tb kt:Bool} {w W0 w4 w5:Wo} {j k:Nat} {acc:JL} {sv v5:Value} {xs:List Value} {v:JV} {t:TypeId} {p:Value} {o:Obj} (hrb:rb<w.heap.size)
  (h:Vb rb s tb kt w j acc sv xs W0) (k4:KB rb W0 w4) (r4:zr rb s k ((tb || ZU acc) || zD v) ((kt || ZG acc) || zw v) w4)
  (hrep:zD v=false->zw v=false->zl w4 (fun b=>W0.heap.size<=b/\b<w4.heap.size) v (.iface t p))
  (own5:w5.ownsRow (w.heap.size+1) 61 1 v5 (xs.length+1) (xs++[.iface t p])) (hg5:(w4.alloc o).grownBy w5 sv.ownBlock) (hat:v5.ownBlock=sv.ownBlock∨v5.ownBlock=some (w4.alloc o).heap.size):
  Vb rb s tb kt w k (acc.app (.cons v .nil)) v5 (xs++[.iface t p]) (w5.setCell ⟨w.heap.size,0,none⟩ v5):=by
 obtain⟨V,N,K,n,W,P⟩:=h;have Q:=k4.size;have T:(w4.alloc o).heap.size=w4.heap.size+1:=by simp
 have R:=hg5.size;have d:∀ g,sv.ownBlock=some g->w.heap.size+1<=g/\g<W0.heap.size:=fun g A=>⟨(K.lt g A).1,(K.lt g A).2⟩;have keep:∀ b,b<w4.heap.size->sv.ownBlock≠some b->w5.heap[b]?=w4.heap[b]?:=fun b a l=>(hg5.block b (by omega) (fun e=>l e.symm)).trans (Lib.alloc_old w4 o b a);have f:∀ b,b≠w.heap.size->(w5.setCell ⟨w.heap.size,0,none⟩ v5).heap[b]?=w5.heap[b]?:=fun b a=>Below.heap_setCell w5 ⟨w.heap.size,0,none⟩ v5 b a;have q:w4.heap[w.heap.size]?=some (JJ sv):=(k4.block w.heap.size (by omega) (by omega)).trans N;have u:w5.heap[w.heap.size]?=some (JJ sv):=(keep w.heap.size (by omega) (fun e=>by have:=(d _ e).1;omega)).trans q;have y:w5.heap[rb]?=w4.heap[rb]?:=keep rb (by omega) (fun e=>by have:=(d _ e).1;omega);have i:(w5.setCell ⟨w.heap.size,0,none⟩ v5).heap.size=w5.heap.size:=by simp[World.setCell]
 have x:ZU (acc.app (.cons v .nil))=(ZU acc || zD v):=by rw[FV];simp[ZU]
 have z:ZG (acc.app (.cons v .nil))=(ZG acc || zw v):=by rw[FX];simp[ZG]
 refine⟨?_,?_,?_,?_,by omega,?_⟩
 ·rw[x,z,← Bool.or_assoc,← Bool.or_assoc];exact (f rb (by omega)).trans (y.trans r4)
 ·exact heap_setCell_same w5 w.heap.size 0 _ 105 v5 u
 ·rw[yg];refine⟨own5.1,?_⟩;rcases own5.2 with M |⟨g,B,C,U,a,A,r⟩
  ·exact .inl M
  ·exact .inr ⟨g,B,C,U,a,(f g (by omega)).trans A,r⟩
 ·refine⟨?_,?_,?_,by rw[i];have:=n.size;omega,fun b a l=>?_⟩
  ·exact (hg5.os.trans (show (w4.alloc o).os=w4.os from rfl)).trans ((k4.trans (KB.refl rb w4)).os.trans n.os)
  ·exact (hg5.tape.trans (show (w4.alloc o).tape=w4.tape from rfl)).trans (k4.tape.trans n.tape)
  ·exact (hg5.output.trans (show (w4.alloc o).output=w4.output from rfl)).trans (k4.output.trans n.output)
  ·have O:=n.size;exact (f b (by omega)).trans ((keep b (by omega) (fun e=>by have:=(d _ e).1;omega)).trans ((k4.block b (by omega) l).trans (n.block b a l)))
 ·intro a L;rw[x]at a;rw[z]at L;obtain⟨E,F⟩:=Bool.or_eq_false_iff.1 a;obtain⟨G,H⟩:=Bool.or_eq_false_iff.1 L;have m:∀ b,b<w4.heap.size->sv.ownBlock≠some b->v5.ownBlock≠some b:=fun b a l e=>by
   rcases hat with g | g
   ·exact l (g.symm.trans e)
   ·rw[g]at e;injection e with e;omega
  refine ZB.app acc (.cons v .nil) xs [.iface t p] ?_ ?_
  ·refine ZB.keep (w:=W0) (S:=AS w.heap.size sv W0) (fun b a=>?_) (fun b a=>?_) acc xs (P E G)
   ·obtain⟨I,J,D⟩:=a;exact (f b (by omega)).trans ((keep b (by omega) D).trans (k4.block b J (by omega)))
   ·obtain⟨I,J,D⟩:=a;exact⟨I,by rw[i];omega,m b (by omega) D⟩
  ·rw[ZB];refine⟨_,[],rfl,?_,by rw[ZB]⟩;refine zl.keep (w:=w4) (S:=fun b=>W0.heap.size<=b/\b<w4.heap.size) (fun b a=>?_) (fun b a=>?_) v _ (hrep F H)
   ·have l:sv.ownBlock≠some b:=fun e=>by have:=(d _ e).2;omega
    exact (f b (by omega)).trans (keep b a.2 l)
   ·have l:sv.ownBlock≠some b:=fun e=>by have:=(d _ e).2;omega
    exact⟨by omega,by rw[i];omega,m b a.2 l⟩
def UC(s:Bs)(j:Nat):Option (JM×Nat):=if bt s j=125 then some (.nil,j+1)else if bt s j=44 then qY s (sk s (j+1))else none
theorem SQ(s:Bs)(i:Nat):qY s (sk s i)=(JI s i).bind fun m=>(UC s m.2).map fun q=>(JM.cons m.1.1 m.1.2 q.1,q.2):=by
 rw[Uo];unfold JI
 cases Zq s (sk s i)with
 | none=>rfl
 | some k=>
  simp only[yz];by_cases h:bt s (sk s k.2)=58
  ·rw[yf h,yf h]
   cases val s (sk s (sk s k.2+1))with
   | none=>rfl
   | some q=>
    simp only[yz,Option.map_some];unfold UC;split
    ·rfl
    ·split<;>rfl
  ·rw[ye h,ye h];rfl
theorem SR{s:Bs}{i j:Nat}{m:List UInt8×JV}(h:JI s i=some (m,j)):i<j/\j<=s.size:=by
 unfold JI at h
 cases hq:Zq s (sk s i)with
 | none=>rw[hq]at h;cases h
 | some k=>
  have d:=Js hq;have f:=zO s i;rw[hq]at h;simp only[yz]at h;by_cases a:bt s (sk s k.2)=58
  ·rw[yf a]at h
   cases hv:val s (sk s (sk s k.2+1))with
   | none=>rw[hv]at h;cases h
   | some q=>
    rw[hv]at h;simp only[Option.map_some]at h;injection h with h;injection h with _ h;have b:=Yj hv;have g:=zO s (sk s k.2+1);have l:=zO s k.2;have n:=zO s q.2;have o:=(Qu b.2).2;omega
  ·rw[ye a]at h;cases h
abbrev VB(b:Nat):Obj:=.cells #[.map (some b)] 175 (0,0)
def OS(L:Nat)(wx:Wo)(k:Nat):Prop:=L<=k/\k<wx.heap.size
structure VC(rb:Nat)(s:Bs)(tb kt:Bool)(w:Wo)(ob b L j:Nat)(acc:JM)(xs:List (List UInt8×Value))(wx:Wo):Prop where
 rdr:zr rb s j (tb || ZF acc) (kt || ZC [] acc) wx
 blk:wx.heap[ob]?=some (VB b)
 own:wx.ownsMap prog 9 RH b xs.length (ZE xs)
 kb:KB rb w wx
 keys:xs.map (·.1)=qP acc
 size:L<=wx.heap.size
 rep:ZF acc=false->ZC [] acc=false->Zm wx (OS L wx) acc xs
theorem VC.next {rb:Nat} {s:Bs} {tb kt:Bool} {w W0 w7:Wo} {ob b L j k:Nat} {acc:JM} {xs:List (List UInt8×Value)} (h1:rb<w.heap.size) (h2:w.heap.size<=ob) (h3:w.heap.size<=b) (hb:b<L) (ho:ob<L)
  (h:VC rb s tb kt w ob b L j acc xs W0) (k7:KB rb W0 w7) (r7:zr rb s k (tb || ZF acc) (kt || ZC [] acc) w7):VC rb s tb kt w ob b L k acc xs w7:=by
 have f:=h.size;have d:=k7.size;refine⟨r7,(k7.block ob (by omega) (by omega)).trans h.blk,Vr h.own (k7.block b (by omega) (by omega)),h.kb.trans k7,h.keys,by omega,fun a c=>?_⟩;exact Zm.keep (w:=W0) (S:=OS L W0) (fun k hk=>k7.block k hk.2 (by have:=hk.1;omega)) (fun k hk=>⟨hk.1,by have:=hk.2;omega⟩) acc xs (h.rep a c)
theorem VC.step {rb:Nat} {s:Bs} {tb kt:Bool} {w W0 w7:Wo} {ob b L j k:Nat} {acc:JM} {xs:List (List UInt8×Value)} {key:List UInt8} {v:JV} {t:TypeId} {p:Value}
  (h1:rb<w.heap.size) (h2:w.heap.size<=ob) (h3:w.heap.size<=b) (hb:b<L) (ho:ob<L) (hne:ob≠b)
  (h:VC rb s tb kt w ob b L j acc xs W0) (k7:QG rb b W0 w7) (r7:zr rb s k ((tb || ZF acc) || zD v) (((kt || ZC [] acc) || zw v) ||(xs.map (·.1)).contains key) w7)
  (m7:w7.ownsMap prog 9 RH b (xs.length+1) (ZE (xs++[(key,.iface t p)])))
  (hrep:zD v=false->zw v=false->zl w7 (fun k=>W0.heap.size<=k/\k<w7.heap.size) v (.iface t p)):
  VC rb s tb kt w ob b L k (acc.app (.cons key v .nil)) (xs++[(key,.iface t p)]) w7:=by
 have o:=h.size;have n:=k7.size;have m:=h.kb.size;have d:ZF (acc.app (.cons key v .nil))=(ZF acc || zD v):=by rw[FW];simp[ZF]
 have f:ZC [] (acc.app (.cons key v .nil))=((ZC [] acc || zw v) ||(qP acc).contains key):=by rw[FY];simp[ZC,Bool.or_assoc]
 refine⟨?_,(k7.block ob (by omega) (by omega) hne).trans h.blk,by rw[yg];exact m7,?_,?_,by omega,fun a c=>?_⟩
 ·rw[d,f,← h.keys];simpa only [Bool.or_assoc]using r7
 ·exact⟨k7.os.trans h.kb.os,k7.tape.trans h.kb.tape,k7.output.trans h.kb.output,by omega,fun g hg hn=>(k7.block g (by omega) hn (by omega)).trans (h.kb.block g hg hn)⟩
 ·rw[yv,h.keys,RL];rfl
 ·rw[d]at a;rw[f]at c;obtain⟨i,l⟩:=Bool.or_eq_false_iff.1 a;obtain⟨c0,_⟩:=Bool.or_eq_false_iff.1 c;obtain⟨c1,c2⟩:=Bool.or_eq_false_iff.1 c0;refine Zm.app acc (.cons key v .nil) xs [(key,.iface t p)] ?_ ?_
  ·exact Zm.keep (w:=W0) (S:=OS L W0) (fun g hg=>k7.block g hg.2 (by have:=hg.1;omega) (by have:=hg.1;omega)) (fun g hg=>⟨hg.1,by have:=hg.2;omega⟩) acc xs (h.rep i c1)
  ·rw[Zm];refine⟨_,[],rfl,?_,by rw[Zm]⟩;exact zl.keep (w:=w7) (fun _ _=>rfl) (fun g hg=>⟨by have:=hg.1;omega,hg.2⟩) v _ (hrep l c2)
theorem QG.off{rb b:Nat}{w W0 w7:Wo}(k7:QG rb b W0 w7)(k:KB rb w W0)(hb:w.heap.size<=b):KB rb w w7:=
 ⟨k7.os.trans k.os,k7.tape.trans k.tape,k7.output.trans k.output,yO k.size k7.size,fun g hg hn=>(k7.block g (yD hg k.size) hn (by omega)).trans (k.block g hg hn)⟩
theorem CB (rb:Nat) (s:Bs) (i:Nat) (tb kt:Bool) (w:Wo) (h:zr rb s i tb kt w) (hs:s.size<=100000) (h123:bt s i=123) (B:Nat) (hT:qc B w) (hB:B<=rb)
  (HV:∀ (j:Nat) (tb' kt':Bool) (w1:Wo),i<j->j<=s.size->zr rb s j tb' kt' w1->KB rb w w1->Calls prog 77 #[.pointer (some ⟨rb,0,none⟩)] w1 (Q1 rb s tb' kt' w1 ((val s (sk s j)).map fun q=>(q.1,sk s q.2)))):
  Calls prog 169 #[.pointer (some ⟨rb,0,none⟩)] w (Q1 rb s tb kt w (val s i)):=by
 have l:=h.lt;have hi:i<s.size:=zQ (by omega);have I:=zh (KO h123);have Q:=zh HV;have HT:=zh hT;have k00:=zO s (i+1);have U:=(Qu (s:=s) (i:=i+1) (by omega)).2;have k02:=zh (SM s (i+1));have rA:zr rb s i tb kt ((w.alloc (.map #[] 0)).alloc (VB w.heap.size)):=(h.below (VA w (.map #[] 0))).below (VA (w.alloc (.map #[] 0)) (VB w.heap.size));have kA:KB rb w ((w.alloc (.map #[] 0)).alloc (VB w.heap.size)):=(KB.of_below (rb:=rb) (VA w (.map #[] 0))).trans (KB.of_below (rb:=rb) (VA (w.alloc (.map #[] 0)) (VB w.heap.size)));have hsA:((w.alloc (.map #[] 0)).alloc (VB w.heap.size)).heap.size=w.heap.size+2:=by simp
 have O0:Hid (VC rb s tb kt w (w.heap.size+1) w.heap.size (w.heap.size+2) i .nil [] ((w.alloc (.map #[] 0)).alloc (VB w.heap.size))):=by
  refine⟨by simp only[ZF,ZC,Bool.or_false];exact rA,?_,(World.ownsMap_made w prog 9 RH).alloc _,kA,rfl,by omega,fun _ _=>by rw[Zm]⟩;have:=yF (w.alloc (.map #[] 0)) (VB w.heap.size);simpa using this
 have O:=zh (Vs rb s i tb kt _ rA (by omega) 123 h123 hi);clear h HV h123 hT rA kA hsA;have hmm:=run_makeMap (P:=prog) 172 w;generalize hk0:sk s (i+1)=y at *;have R:=zh hk0;clear hk0;go_in;go_wp2_with fail;clear hmm;refine (uh O).mono ?_;rintro e w1 ⟨rfl,r1,k1⟩;have S:=zh (Wr rb s (i+1) tb kt w1 r1 (by omega) (by omega));have O1:=zh ((uh O0).next l (by omega) (by omega) (by omega) (by omega) k1 (by simp only[ZF,ZC,Bool.or_false];exact r1));clear O r1 k1 O0;go_wp2_with fail;refine (uh S).mono ?_;rintro e w2 ⟨rfl,r2,k2⟩;rw[uh R]at r2;have O2:=zh ((uh O1).next l (by omega) (by omega) (by omega) (by omega) k2 (by simp only[ZF,ZC,Bool.or_false];exact r2));have R2:=zh r2;clear S r2 k2 O1 R;by_cases f:bt s y=125
 ·have z:=zh (Y1 rb s y tb kt w2 (uh R2) (by omega) 125 f (zQ (by omega)));have HR:Hid (val s i=some (.obj .nil,y+1)):=by show _=_;rw[uh I,yf f]
  clear f;go_wp2_with fail;refine (uh z).mono ?_;rintro e w3 ⟨rfl,X,V⟩;have m:=zh ((uh O2).next l (by omega) (by omega) (by omega) (by omega) V (by simp only[ZF,ZC,Bool.or_false];exact X));clear z X V O2 R2;go_wp2;go_ret;refine⟨(uh m).kb,?_⟩;rw[uh HR];have hsz:=(uh m).size;refine⟨_,_,rfl,by simp only[zD,zw];exact (uh m).rdr,fun _ _=>?_⟩;rw[zl];exact⟨w.heap.size+1,w.heap.size,0,[],rfl,⟨by omega,by omega⟩,⟨by omega,by omega⟩,(uh m).blk,(uh m).own,yd _,by rw[Zm]⟩
 ·have z:=zh (YF rb s y tb kt w2 (uh R2) U 125 (.inl f));have HR:Hid (val s i=(qY s y).map fun q=>(.obj q.1,q.2)):=by show _=_;rw[uh I,ye f]
  clear f I;go_wp2_with fail;refine (uh z).mono ?_;rintro e w3 ⟨rfl,X,V⟩;have m:=zh ((uh O2).next l (by omega) (by omega) (by omega) (by omega) V (by simp only[ZF,ZC,Bool.or_false];exact X));clear z X V O2 R2;have hs3:=(uh m).size;have HC:=zh (SL rb s y _ _ w3 (uh m).rdr hs U B ((uh HT).next ((uh m).kb.below hB (by omega)) (yd _)) hB w.heap.size _ _ (uh m).own l (by simp)
   (fun j w1 a b c d=>uh Q j _ _ w1 (by omega) b c ((uh m).kb.trans d)))
  have k:=zh (SQ s y);rw[uh k02]at k;have c3:w3.cell? ⟨w.heap.size+1,0,none⟩=some (.map (some w.heap.size)):=yE (uh m).blk 0
  cases hv:JI s y with
  | none=>
   rw[hv]at HC k;have H:Hid (val s i=none):=by show _=_;rw[uh HR,uh k];rfl
   clear hv;go_wp2_with fail;refine (uh HC).mono ?_;rintro e w4 ⟨L,rfl⟩;exact⟨rfl,L.off (uh m).kb (yd _),by rw[uh H];rfl⟩
  | some q=>
   obtain⟨⟨key,v⟩,n⟩:=q;have D:=SR hv;rw[hv]at HC k;clear hv;go_wp2_with fail;refine (uh HC).mono ?_;rintro e w4 ⟨L,t,p,rfl,r4,m4,F⟩;have N:=zh ((uh m).step l (by omega) (by omega) (by omega) (by omega) (by omega) L r4 m4 F);clear HC m L r4 m4 F c3;go_wp2_with fail;go_loopg [] (s.size+1 - n) (fun g wr=>∃ (j:Nat) (r:JM) (M:List (List UInt8×Value)),g=s.size+1 - j/\j<=s.size/\y<j/\M.length<=j/\VC rb s tb kt w (w.heap.size+1) w.heap.size (w.heap.size+2) j r M wr/\qY s y=(UC s j).map fun q=>(r.app q.1,q.2))
   case atStart=>exact⟨n,_,_,rfl,D.2,D.1,by simp;omega,uh N,by rw[uh k];rfl⟩
   case round=>
    obtain⟨j,r,M,hg,hj,hj0,hxl,C,T⟩:=hrel;have E:=zh T;have u:=zh C;have hsw:=C.size;clear T C N k D;by_cases x:bt s j=44
    ·have hjl:j<s.size:=zQ (by omega);have z:=zh (Y1 rb s j _ _ wr (uh u).rdr (by omega) 44 x hjl);have A:Hid (qY s y=(qY s (sk s (j+1))).map fun q=>(r.app q.1,q.2)):=by
      show _=_
      rw[uh E,UC,ye (by omega),yf x]
     clear x E;go_wp2_with fail;refine (uh z).mono ?_;rintro e w7 ⟨rfl,Y,W⟩;have o:=zh ((uh u).next l (by omega) (by omega) (by omega) (by omega) W Y);have hs7:=(uh o).size;clear z W u Y;have HC:=zh (SL rb s (j+1) _ _ w7 (uh o).rdr hs (by omega) B ((uh HT).next ((uh o).kb.below hB (by omega)) (yd _)) hB w.heap.size _ _ (uh o).own l (by omega)
      (fun j w1 a b c d=>uh Q j _ _ w1 (by omega) b c ((uh o).kb.trans d)))
     have k:=zh (SQ s (j+1));have c7:w7.cell? ⟨w.heap.size+1,0,none⟩=some (.map (some w.heap.size)):=yE (uh o).blk 0
     cases hv:JI s (j+1)with
     | none=>
      rw[hv]at HC k;have H:Hid (val s i=none):=by show _=_;rw[uh HR,uh A,uh k];rfl
      clear hv;go_wp2_with fail;refine (uh HC).mono ?_;rintro e w4 ⟨L,rfl⟩;exact⟨rfl,L.off (uh o).kb (yd _),by rw[uh H];rfl⟩
     | some q=>
      obtain⟨⟨key2,v2⟩,n2⟩:=q;have D:=SR hv;rw[hv]at HC k;clear hv;go_wp2_with fail;refine (uh HC).mono ?_;rintro e w8 ⟨J,t8,p8,rfl,Z,m8,G⟩;have HS5:=zh ((uh o).step l (by omega) (by omega) (by omega) (by omega) (by omega) J Z m8 G);clear HC o J Z m8 G c7;go_wp2;go_roundg (s.size+1 - n2)
      all_goals first
       | omega
       | exact⟨n2,_,_,rfl,D.2,by omega,by rw[yg];simp only[ym,yC];omega,uh HS5,by rw[uh A,uh k,yz,Option.map_map];congr 1;funext q;simp[JM.app_assoc,JM.app]⟩
    ·have z:=zh (YF rb s j _ _ wr (uh u).rdr hj 44 (.inl x));have A:Hid (qY s y=(if bt s j=125 then some (JM.nil,j+1)else none).map fun q=>(r.app q.1,q.2)):=by
      show _=_
      rw[uh E,UC];by_cases g:bt s j=125
      ·rw[yf g,yf g]
      ·rw[ye g,ye x,ye g]
     clear x E;go_wp2_with fail;refine (uh z).mono ?_;rintro e w7 ⟨rfl,Y,W⟩;have o:=zh ((uh u).next l (by omega) (by omega) (by omega) (by omega) W Y);clear z u Y W;by_cases f:bt s j=125
     ·have HE:=zh (Vs rb s j _ _ w7 (uh o).rdr (by omega) 125 f (zQ (by omega)));have H:Hid (val s i=some (.obj r,j+1)):=by
       show _=_
       rw[uh HR,uh A,yf f];simp[JM.app_nil]
      clear f;go_wp2_with fail;refine (uh HE).mono ?_;rintro e w8 ⟨rfl,Z,J⟩;have K:=zh ((uh o).next l (by omega) (by omega) (by omega) (by omega) J Z);have hs8:=(uh K).size;clear HE Z J o;go_wp2;go_ret;refine⟨(uh K).kb,?_⟩;rw[uh H];refine⟨_,_,rfl,by simp only[zD,zw];exact (uh K).rdr,fun a b=>?_⟩;rw[zl];simp only[zD]at a;simp only[zw]at b;exact⟨w.heap.size+1,w.heap.size,M.length,M,rfl,⟨by omega,by omega⟩,⟨by omega,by omega⟩,(uh K).blk,(uh K).own,yd _,Zm.keep (fun _ _=>rfl) (fun b hb=>⟨by have:=hb.1;omega,hb.2⟩) r M ((uh K).rep a b)⟩
     ·have HE:=zh (Uj rb s j _ _ w7 (uh o).rdr (by omega) hj 125 (.inl f));have H:Hid (val s i=none):=by
       show _=_
       rw[uh HR,uh A,ye f];rfl
      clear f;go_wp2_with fail;refine (uh HE).mono ?_;rintro e w8 ⟨rfl,J⟩;exact⟨rfl,(uh o).kb.trans J,by rw[uh H];rfl⟩
theorem ST{w:Wo}{B e n:Nat}{v x:Value}{xs:List Value}(h:w.ownsRow B e 1 v (n+1) (xs++[x])):∃ g cap,v= .slice (some ⟨g,0,none⟩) (n+1) cap:=by
 rcases h.2 with ⟨_,d⟩ |⟨g,cap,a,b,_⟩
 ·omega
 ·exact⟨g,cap,b⟩
theorem CD (rb:Nat) (s:Bs) (i:Nat) (tb kt:Bool) (w:Wo) (h:zr rb s i tb kt w) (hs:s.size<=100000) (h91:bt s i=91)
  (HV:∀ (j:Nat) (tb' kt':Bool) (w1:Wo),i<j->j<=s.size->zr rb s j tb' kt' w1->KB rb w w1->Calls prog 77 #[.pointer (some ⟨rb,0,none⟩)] w1 (Q1 rb s tb' kt' w1 ((val s (sk s j)).map fun q=>(q.1,sk s q.2)))):
  Calls prog 168 #[.pointer (some ⟨rb,0,none⟩)] w (Q1 rb s tb kt w (val s i)):=by
 obtain⟨i0,hi0,hz0,hz1,hz2⟩:=info_parts SN;have hlt:=h.lt;have hi:i<s.size:=zQ (by omega);have aa:=zh (KN h91);have HHV:=zh HV;have k00:=zO s (i+1);have k01:=(Qu (s:=s) (i:=i+1) (by omega)).2;have k02:=SM s (i+1);have HEX:=zh (Vs rb s i tb kt _ (h.below (VA w (JJ (.slice none 0 0)))) (by omega) 91 h91 hi);clear h HV h91;generalize hk0:sk s (i+1)=G at *;go_in;go_wp2_with fail;refine (uh HEX).mono ?_;rintro e w1 ⟨rfl,r1,k1⟩;have HSK:=zh (Wr rb s (i+1) tb kt w1 r1 (by omega) (by omega));have A1:Hid (w1.heap[w.heap.size]?=some (JJ (.slice none 0 0))):=(k1.block w.heap.size (by simp) (by omega)).trans (yF w _);have K1:=zh ((KB.of_below (rb:=rb) (VA w (JJ (.slice none 0 0)))).trans k1);have hs1:w.heap.size+1<=w1.heap.size:=by have:=k1.size;simpa using this
 clear HEX r1 k1;go_wp2_with fail;refine (uh HSK).mono ?_;rintro e w2 ⟨rfl,r2,k2⟩;rw[hk0]at r2;have A2:Hid (w2.heap[w.heap.size]?=some (JJ (.slice none 0 0))):=(k2.block w.heap.size (by omega) (by omega)).trans (uh A1);have K2:=zh ((uh K1).trans k2);have hs2:w.heap.size+1<=w2.heap.size:=by have:=k2.size;omega
 have R2:=zh r2;clear HSK r2 k2 A1 K1 hk0;by_cases k:bt s G=93
 ·have J:=zh (Y1 rb s G tb kt w2 (uh R2) (by omega) 93 k (zQ (by omega)));have HR:Hid (val s i=some (.arr .nil,G+1)):=by show _=_;rw[uh aa,yf k]
  clear k;go_wp2_with fail;refine (uh J).mono ?_;rintro e I ⟨rfl,r3,W⟩;have R3:=zh r3;have A3:Hid (I.heap[w.heap.size]?=some (JJ (.slice none 0 0))):=(W.block w.heap.size (by omega) (by omega)).trans (uh A2);have X:=zh ((uh K2).trans W);have hs3:=W.size;clear J r3 W;go_wp2;go_ret;refine⟨uh X,?_⟩;rw[uh HR];refine⟨_,_,rfl,by simp only[zD,zw,ZU,ZG,Bool.or_false];exact uh R3,fun _ _=>?_⟩;rw[zl];exact⟨w.heap.size,.slice none 0 0,[],rfl,⟨yd _,by omega⟩,uh A3,⟨⟨rfl,.inl ⟨rfl,rfl⟩⟩,fun g hg=>by cases hg⟩,by rw[ZB]⟩
 ·have J:=zh (YF rb s G tb kt w2 (uh R2) k01 93 (.inl k));have hn93:=k;have HR:Hid (val s i=(elems s G).map fun q=>(.arr q.1,q.2)):=by show _=_;rw[uh aa,ye k]
  clear k;go_wp2_with fail;refine (uh J).mono ?_;rintro e I ⟨rfl,r3,W⟩;have A3:Hid (I.heap[w.heap.size]?=some (JJ (.slice none 0 0))):=(W.block w.heap.size (by omega) (by omega)).trans (uh A2);have X:=zh ((uh K2).trans W);have hs3:=W.size;have M:KB rb w I.drew:=⟨(uh X).os,(uh X).tape,(uh X).output,(uh X).size,(uh X).block⟩;have HC:=zh (uh HHV G tb kt I.drew (by omega) k01 r3 M);rw[k02]at HC;have d:Hid (Vb rb s tb kt w G .nil (.slice none 0 0) [] I.drew):=⟨by simp only[ZU,ZG,Bool.or_false];exact r3,uh A3,⟨rfl,.inl ⟨rfl,rfl⟩⟩,M,by show _<=I.heap.size;omega,fun _ _=>by rw[ZB]⟩;have ci:I.drew.cell? ⟨w.heap.size,0,none⟩=some (.slice none 0 0):=yE (uh A3) 0;have hsd:w.heap.size+1<=I.drew.heap.size:=by show _<=I.heap.size;omega
  clear J W A2 K2 R2 hn93
  cases hv:val s G with
  | none=>
   rw[hv]at HC;have Q:Hid (val s i=none):=by show _=_;rw[uh HR,Gh,hv];rfl
   clear hv;go_wp2_with fail;refine wp_region_any (by kernel_rfl) ?_;try (change wpAny _ _ _ _ _ _ _ (World.drew _))
   refine wpAny_take (i:=0) (v:=?_) rfl (by kernel_rfl) (by kernel_rfl) (by kernel_rfl) (fun _ _ _ h=>h) (Or.inl ⟨by rfl,?_⟩) ?_;rotate_left 1
   ·intro w;go_simp;try with_reducible rfl
   refine wpAny_take (i:=1) (v:=?_) rfl (by kernel_rfl) (by kernel_rfl) (by kernel_rfl) (fun _ _ _ h=>h) (Or.inl ⟨by rfl,?_⟩) ?_;rotate_left 1
   ·intro w;go_simp;try with_reducible rfl
   refine wpAny_take (i:=2) (v:=?_) rfl (by kernel_rfl) (by kernel_rfl) (by kernel_rfl) (fun _ _ _ h=>h) (Or.inl ⟨by rfl,?_⟩) ?_;rotate_left 1
   ·intro w;go_simp;try with_reducible rfl
   refine wpAny_take (i:=3) (v:=?_) rfl (by kernel_rfl) (by kernel_rfl) (by kernel_rfl) (fun _ _ _ h=>h) (Or.inl ⟨by rfl,?_⟩) ?_;rotate_left 1
   ·intro w;go_simp;try with_reducible rfl
   refine wpAny_take (i:=5) (v:=?_) rfl (by kernel_rfl) (by kernel_rfl) (by kernel_rfl) (fun _ _ _ h=>h) (Or.inl ⟨by rfl,?_⟩) ?_;rotate_left 1
   ·intro w;go_simp;try with_reducible rfl
   refine wpAny_ready (rs:=[4,6]) (by kernel_rfl) (by simp) ?_;refine AllReady.cons rfl (fun K hK=>?_) ?_
   ·go_simp;refine hK _ _ ?_;clear hK K;refine wpAny_ready (rs:=[6]) (by kernel_rfl) (by simp) ?_;refine AllReady.cons rfl (fun K hK=>?_) AllReady.nil;go_simp;refine (uh HC).mono ?_;rintro e w9 ⟨k9,rfl⟩;exact⟨rfl,M.trans k9,by rw[uh Q];rfl⟩
   ·refine AllReady.cons rfl (fun K hK=>?_) AllReady.nil;go_simp;refine (uh HC).mono ?_;rintro e w9 ⟨k9,rfl⟩;exact⟨rfl,M.trans k9,by rw[uh Q];rfl⟩
  | some q=>
   obtain⟨v,n⟩:=q;have V:=Yj hv;have P:=zh (SP hv);have hn1:=zO s n;have U:=(Qu V.2).2;rw[hv]at HC;have HC:Hid (Calls prog 77 #[.pointer (some ⟨rb,0,none⟩)] I.drew (Q1 rb s (tb || ZU .nil) (kt || ZG .nil) I.drew (some (v,sk s n)))):=by
    show Calls _ _ _ _ _
    simp only[ZU,ZG,Bool.or_false];exact uh HC
   clear hv A3 X aa;have hxl:([]:List Value).length<=G:=yr _;go_wp2_with fail;go_cut []from 18 to 28 (fun wx=>∃ (v5:Value) (x5:List Value),Vb rb s tb kt w (sk s n) (.cons v .nil) v5 x5 wx/\x5.length<=sk s n)
   case first=>
    go_region_law (first
     |(
       go_simp;refine (uh HC).mono ?_;rintro e A ⟨N,t,p,rfl,r4,o⟩;have hs4:=N.size;have a4:A.heap[w.heap.size]?=some (JJ (Value.slice none 0 0)):=(N.block w.heap.size (by omega) (by omega)).trans (uh d).2.1;have c4:A.cell? ⟨w.heap.size,0,none⟩=some (Value.slice none 0 0):=yE a4 0;have ca4:(A.alloc (.cells #[.iface t p] 61)).cell? ⟨w.heap.size,0,none⟩=some (Value.slice none 0 0):=((VA A _).cell (p:=⟨w.heap.size,0,none⟩) (by show w.heap.size<_;omega)).trans c4;have hne4:¬ w.heap.size=A.heap.size:=by omega
       have D:=UB (uh d).2.2.1 N (show rb<w.heap.size+1 by omega);have R:=zh r4;have B:=zh o;have O:=zh a4;clear r4 o a4)
     |(
       refine SO rfl (.tmp 22) (.tmp 25) 103 rfl (w.heap.size+1) 61 i0 .nilIface 1 16 underlying103 hi0 hz0 hz1 hz2 rfl (by decide) _ _ _ rfl (by exact D.alloc _) ⟨A.heap.size,0,none⟩ 1 1 [.iface t p] rfl rfl (by exact cell_one_new _ _ _) (by intro u hu;simp at hu;subst hu;rfl) (by unfold maxLen;omega) (by omega) (by simp;omega) ?_;intro v5 w5 m F C;obtain⟨g5,cap5,hv5⟩:=ST m;subst hv5;have hne:some w.heap.size≠((Value.slice none 0 0)).ownBlock:=fun e=>by have:=((uh d).2.2.1.lt _ e.symm).1;omega
       have a5:w5.heap[w.heap.size]?=some (JJ (Value.slice none 0 0)):=(F.block w.heap.size (by simp;omega) hne).trans ((Lib.alloc_old A _ w.heap.size (by omega)).trans (uh O));have c5:w5.cell? ⟨w.heap.size,0,none⟩=some (Value.slice none 0 0):=yE a5 0;have f5:w5.frozen? ⟨w.heap.size,0,none⟩=false:=yH a5 0))
    all_goals
     have Z:=zh (Vb.step hlt (uh d) N (uh R) (uh B) m F C);go_wp2_with fail;go_meet;exact⟨_,_,uh Z,by rw[yg];simp only[ym,yC];omega⟩
   case rest=>
    obtain⟨x,H,l,hxl2⟩:=hcut;have HA0:=zh l;clear l HC d M ci r3;go_wp2_with fail;go_loopg [] (s.size+1 - sk s n) (fun g wr=>∃ (j:Nat) (f:JL) (x:Value) (H:List Value),g=s.size+1 - j/\j<=s.size/\G<j/\H.length<=j/\Vb rb s tb kt w j f x H wr/\elems s G=(UA s j).map fun q=>(f.app q.1,q.2))
    case atStart=>exact⟨sk s n,.cons v .nil,x,H,rfl,U,by omega,hxl2,uh HA0,by rw[uh P];rfl⟩
    case round=>
     obtain⟨j,f,x,H,hg,hj,hj0,hxl,l,hst⟩:=hrel;have T:=zh hst;have z:=zh l;have hsw:=l.2.2.2.2.1;clear hst l HA0 P V hn1 U;by_cases E:bt s j=44
     ·have hjl:j<s.size:=zQ (by omega);have J:=zh (Y1 rb s j _ _ wr (uh z).1 (by omega) 44 E hjl);have L:Hid (elems s G=(elems s (sk s (j+1))).map fun q=>(f.app q.1,q.2)):=by
       show _=_
       rw[uh T,UA,ye (by omega),yf E]
      clear E T;go_wp2_with fail;refine (uh J).mono ?_;rintro e y ⟨rfl,r7,r⟩;have hs7:=r.size;have KW:=(uh z).2.2.2.1;have M:KB rb w y.drew:=⟨(KW.trans r).os,(KW.trans r).tape,(KW.trans r).output,(KW.trans r).size,(KW.trans r).block⟩;have d:Hid (Vb rb s tb kt w (j+1) f x H y.drew):=by
       obtain⟨_,q2,q3,q4,q5,q6⟩:=uh z;refine⟨r7,(r.block w.heap.size (by omega) (by omega)).trans q2,UB (w1:=y) q3 r (show rb<w.heap.size+1 by omega),M,by show _<=y.heap.size;omega,fun a b=>?_⟩;exact ZB.keep (w:=wr) (w':=y.drew) (S:=AS w.heap.size x wr) (S':=AS w.heap.size x y.drew) (fun b hb=>r.block b hb.2.1 (by have:=hb.1;omega)) (fun b hb=>⟨hb.1,by show b<y.heap.size;have:=hb.2.1;omega,hb.2.2⟩) f H (q6 a b)
      have HC:=zh (uh HHV (j+1) _ _ y.drew (by omega) (by omega) r7 M);have ci:y.drew.cell? ⟨w.heap.size,0,none⟩=some x:=yE (uh d).2.1 0;have hsd:w.heap.size+1<=y.drew.heap.size:=by show _<=y.heap.size;omega
      have hsj:=zO s (j+1);clear J r z KW r7
      cases hv:val s (sk s (j+1))with
      | none=>
       rw[hv]at HC;have Q:Hid (val s i=none):=by show _=_;rw[uh HR,uh L,Gh,hv];rfl
       clear hv;go_wp2_with fail;refine wp_region_any (by kernel_rfl) ?_;try (change wpAny _ _ _ _ _ _ _ (World.drew _))
       refine wpAny_take (i:=0) (v:=?_) rfl (by kernel_rfl) (by kernel_rfl) (by kernel_rfl) (fun _ _ _ h=>h) (Or.inl ⟨by rfl,?_⟩) ?_;rotate_left 1
       ·intro w;go_simp;try with_reducible rfl
       refine wpAny_take (i:=1) (v:=?_) rfl (by kernel_rfl) (by kernel_rfl) (by kernel_rfl) (fun _ _ _ h=>h) (Or.inl ⟨by rfl,?_⟩) ?_;rotate_left 1
       ·intro w;go_simp;try with_reducible rfl
       refine wpAny_take (i:=2) (v:=?_) rfl (by kernel_rfl) (by kernel_rfl) (by kernel_rfl) (fun _ _ _ h=>h) (Or.inl ⟨by rfl,?_⟩) ?_;rotate_left 1
       ·intro w;go_simp;try with_reducible rfl
       refine wpAny_take (i:=3) (v:=?_) rfl (by kernel_rfl) (by kernel_rfl) (by kernel_rfl) (fun _ _ _ h=>h) (Or.inl ⟨by rfl,?_⟩) ?_;rotate_left 1
       ·intro w;go_simp;try with_reducible rfl
       refine wpAny_take (i:=5) (v:=?_) rfl (by kernel_rfl) (by kernel_rfl) (by kernel_rfl) (fun _ _ _ h=>h) (Or.inl ⟨by rfl,?_⟩) ?_;rotate_left 1
       ·intro w;go_simp;try with_reducible rfl
       refine wpAny_ready (rs:=[4,6]) (by kernel_rfl) (by simp) ?_;refine AllReady.cons rfl (fun K hK=>?_) ?_
       ·go_simp;refine hK _ _ ?_;clear hK K;refine wpAny_ready (rs:=[6]) (by kernel_rfl) (by simp) ?_;refine AllReady.cons rfl (fun K hK=>?_) AllReady.nil;go_simp;refine (uh HC).mono ?_;rintro e w9 ⟨k9,rfl⟩;exact⟨rfl,M.trans k9,by rw[uh Q];rfl⟩
       ·refine AllReady.cons rfl (fun K hK=>?_) AllReady.nil;go_simp;refine (uh HC).mono ?_;rintro e w9 ⟨k9,rfl⟩;exact⟨rfl,M.trans k9,by rw[uh Q];rfl⟩
      | some q=>
       obtain⟨v2,n⟩:=q;have V:=Yj hv;have P:=zh (SP hv);have hn1:=zO s n;have U:=(Qu V.2).2;rw[hv]at HC;clear hv;go_wp2_with fail;go_region_law (first
        |(
          go_simp;refine (uh HC).mono ?_;rintro e A ⟨N,t,p,rfl,r4,o⟩;have hs4:=N.size;have a4:A.heap[w.heap.size]?=some (JJ x):=(N.block w.heap.size (by omega) (by omega)).trans (uh d).2.1;have c4:A.cell? ⟨w.heap.size,0,none⟩=some x:=yE a4 0;have ca4:(A.alloc (.cells #[.iface t p] 61)).cell? ⟨w.heap.size,0,none⟩=some x:=((VA A _).cell (p:=⟨w.heap.size,0,none⟩) (by show w.heap.size<_;omega)).trans c4;have hne4:¬ w.heap.size=A.heap.size:=by omega
          have D:=UB (uh d).2.2.1 N (show rb<w.heap.size+1 by omega);have R:=zh r4;have B:=zh o;have O:=zh a4;clear r4 o a4)
        |(
          refine SO rfl (.tmp 37) (.tmp 40) 103 rfl (w.heap.size+1) 61 i0 .nilIface 1 16 underlying103 hi0 hz0 hz1 hz2 rfl (by decide) _ _ _ rfl (by exact D.alloc _) ⟨A.heap.size,0,none⟩ 1 1 [.iface t p] rfl rfl (by exact cell_one_new _ _ _) (by intro u hu;simp at hu;subst hu;rfl) (by unfold maxLen;omega) (by omega) (by simp;omega) ?_;intro v5 w5 m F C;obtain⟨g5,cap5,hv5⟩:=ST m;subst hv5;have hne:some w.heap.size≠(x).ownBlock:=fun e=>by have:=((uh d).2.2.1.lt _ e.symm).1;omega
          have a5:w5.heap[w.heap.size]?=some (JJ x):=(F.block w.heap.size (by simp;omega) hne).trans ((Lib.alloc_old A _ w.heap.size (by omega)).trans (uh O));have c5:w5.cell? ⟨w.heap.size,0,none⟩=some x:=yE a5 0;have f5:w5.frozen? ⟨w.heap.size,0,none⟩=false:=yH a5 0))
       all_goals
        have Z:=zh (Vb.step hlt (uh d) N (uh R) (uh B) m F C);clear R B O D c4 m F C a5 N HC d M ci;go_wp2;go_roundg (s.size+1 - sk s n)
       all_goals first
        | omega
        | exact⟨sk s n,f.app (.cons v2 .nil),_,_,rfl,U,by omega,by rw[yg];simp only[ym,yC];omega,uh Z,by rw[uh L,uh P,Option.map_map];congr 1;funext q;simp[JL.app_assoc,JL.app]⟩
     ·have J:=zh (YF rb s j _ _ wr (uh z).1 hj 44 (.inl E));have L:Hid (elems s G=(if bt s j=93 then some (JL.nil,j+1)else none).map fun q=>(f.app q.1,q.2)):=by
       show _=_
       rw[uh T,UA];by_cases g:bt s j=93
       ·rw[yf g,yf g]
       ·rw[ye g,ye E,ye g]
      clear E T;go_wp2_with fail;refine (uh J).mono ?_;rintro e y ⟨rfl,r7,r⟩;have hs7:=r.size;obtain⟨_,q2,q3,q4,q5,q6⟩:=uh z;have A7:=zh ((r.block w.heap.size (by omega) (by omega)).trans q2);have O7:=zh (UB q3 r (show rb<w.heap.size+1 by omega));have K7:=zh (q4.trans r);have Q7:Hid (ZU f=false->ZG f=false->ZB y (AS w.heap.size x y) f H):=fun a b=>ZB.keep (fun b hb=>r.block b hb.2.1 (by have:=hb.1;omega)) (fun b hb=>⟨hb.1,by have:=hb.2.1;omega,hb.2.2⟩) f H (q6 a b);have R7:=zh r7;clear q2 q3 q4 q5 q6 J z r7 r;by_cases k:bt s j=93
      ·have HE:=zh (Vs rb s j _ _ y (uh R7) (by omega) 93 k (zQ (by omega)));have Q:Hid (val s i=some (.arr f,j+1)):=by
        show _=_
        rw[uh HR,uh L,yf k];simp[JL.app_nil]
       clear k;go_wp2_with fail;refine (uh HE).mono ?_;rintro e w8 ⟨rfl,r8,Y⟩;have hs8:=Y.size;have R8:=zh r8;have A8:=zh ((Y.block w.heap.size (by omega) (by omega)).trans (uh A7));have O8:=zh (UB (uh O7) Y (show rb<w.heap.size+1 by omega));have K8:=zh ((uh K7).trans Y);have Q8:Hid (ZU f=false->ZG f=false->ZB w8 (AS w.heap.size x w8) f H):=fun a b=>ZB.keep (fun b hb=>Y.block b hb.2.1 (by have:=hb.1;omega)) (fun b hb=>⟨hb.1,by have:=hb.2.1;omega,hb.2.2⟩) f H (uh Q7 a b);clear HE r8 Y A7 O7 K7 Q7 R7;go_wp2;go_ret;refine⟨uh K8,?_⟩;rw[uh Q];refine⟨_,_,rfl,by simp only[zD,zw];exact uh R8,fun a b=>?_⟩;rw[zl];simp only[zD]at a;simp only[zw]at b;exact⟨w.heap.size,x,H,rfl,⟨yd _,by omega⟩,uh A8,⟨JB (uh O8) (yr _),fun g hg=>⟨by have:=((uh O8).lt g hg).1;omega,((uh O8).lt g hg).2⟩⟩,ZB.keep (fun _ _=>rfl) (fun b hb=>⟨by have:=hb.1;omega,hb.2.1⟩) f H (uh Q8 a b)⟩
      ·have HE:=zh (Uj rb s j _ _ y (uh R7) (by omega) hj 93 (.inl k));have Q:Hid (val s i=none):=by
        show _=_
        rw[uh HR,uh L,ye k];rfl
       clear k;go_wp2_with fail;refine (uh HE).mono ?_;rintro e w8 ⟨rfl,Y⟩;exact⟨rfl,(uh K7).trans Y,by rw[uh Q];rfl⟩
theorem CE(rb:Nat)(s:Bs)(hs:s.size<=100000)(B:Nat)(hB:B<=rb):∀ (n i:Nat) (tb kt:Bool) (w:Wo),s.size - i<=n->zr rb s i tb kt w->i<=s.size->qc B w->q8 B w ->
  Calls prog 77 #[.pointer (some ⟨rb,0,none⟩)] w (Q1 rb s tb kt w ((val s (sk s i)).map fun q=>(q.1,sk s q.2))):=by
 intro n;induction n with
 | zero=>
  intro i tb kt w v h d p o;have r:=h.lt;have g:=zO s i;refine SJ rb s i tb kt w h hs d fun w1 r1 k1=>SI rb s (sk s i) tb kt w1 r1 hs (Qu d).2 B (p.next (k1.below hB (by omega)) (yd _)) (o.next (k1.below hB (by omega)) (yd _)) hB ?_ ?_
  ·intro k f a b;have:=zQ (s:=s) (i:=sk s i) (by omega);omega
  ·intro k f a b;have:=zQ (s:=s) (i:=sk s i) (by omega);omega
 | succ n ih=>
  intro i tb kt w v h d p o;have r:=h.lt;have g:=zO s i;refine SJ rb s i tb kt w h hs d fun w1 r1 k1=>?_;have l:=p.next (k1.below hB (by omega)) (yd _);have m:=o.next (k1.below hB (by omega)) (yd _);have x:=k1.size;refine SI rb s (sk s i) tb kt w1 r1 hs (Qu d).2 B l m hB ?_ ?_
  ·intro k f a b;have u:=a.size;refine CD rb s (sk s i) tb kt k f hs b fun j tb' kt' w3 hj hjs r3 k3=>?_;exact ih j tb' kt' w3 (by omega) r3 hjs (l.next ((a.trans k3).below hB (by omega)) (yd _)) (m.next ((a.trans k3).below hB (by omega)) (yd _))
  ·intro k f a b;have u:=a.size;refine CB rb s (sk s i) tb kt k f hs b B (l.next (a.below hB (by omega)) (yd _)) hB fun j tb' kt' w3 hj hjs r3 k3=>?_;exact ih j tb' kt' w3 (by omega) r3 hjs (l.next ((a.trans k3).below hB (by omega)) (yd _)) (m.next ((a.trans k3).below hB (by omega)) (yd _))
end Go.Proofs.YtpaecnbdoljafaaGreatDoor
