import Derived.Maps.AppendAt
import Derived.Test.YtekpghcckdjnhaaGreatDoorBz27
import Derived.Shelf.Spec.SlicesGrow
set_option maxRecDepth 100000
set_option maxHeartbeats 8000000
namespace Go.Proofs.YtekpghcckdjnhaaGreatDoor
open Go.RowKit Go.Proofs.Tryz
theorem Ls {P:Program} {ops:Array Oper} {o:Oper} {a:Act} {w:Wo} {K:Act->Wo->Prop} {Q:Exit->Act->Wo->Prop} {E:Prop}
  (hg:o.guard=none) (s x:Operand) (t:TypeId) (hop:o.op=Op.call {callee:=Callee.builtin Builtin.append,args:=#[s,x],argTypes:=#[t,t]})
  (base:Nat) (e:TypeId) (i:TypeInfo) (z:Value) (size bytes:Nat) (ht:P.underlying t=some (.slice e)) (hi:P.info? e=some i) (hz:i.zero=some z)
  (hsize:i.size=size) (hby:i.bytes=bytes) (hzs:z.cells.size=size) (hsz:0<size)
  (v:Value) (n:Nat) (xs:List Value) (hs:a.eval s=v) (hown:w.ownsRow base e size v n xs)
  (ad:Addr) (m c:Nat) (news:List Value) (hx:a.eval x= .slice (some ad) m c) (hl:news.length=m*size) (hnews:∀ j u,news[j]?=some u->w.cell? (ad.add j)=some u) (h1:∀ u∈news,u.oneCell'=true)
  (h63:n+m<=maxLen) (hbytes:(n+m)*bytes<=140737488355328) (hbase:base<=w.heap.size)
  (hK:∀ v' w',w'.ownsRow base e size v' (n+m) (xs++news)->w.grownBy w' v.ownBlock->(v'.ownBlock=v.ownBlock∨v'.ownBlock=some w.heap.size)->K (a.put o.dst v') w'):
  if Region.wanted o (yielded ops a.tmps)=true then Oper.wp P o a w K Q else E:=by
 have d:Region.wanted o (yielded ops a.tmps)=true:=by simp[Region.wanted,hg]
 rw[yg d];obtain⟨v',w',b,f,g,_,h⟩:=run_append_own_at (P:=P) (w:=w) base t o.type e i z size bytes ht hi hz hsize hby hzs hsz v n xs hown ad m c news hl hnews h1 h63 hbytes hbase;unfold Oper.wp;simp[execOp,hop,resolve,invoke,builtin,hs,hx,b,Result.andThen];exact hK v' w' f g h
def Kd(s:Bs)(j:Nat):Option (JL×Nat):=if bt s j=93 then some (.nil,j+1)else if bt s j=44 then elems s (sk s (j+1))else none
theorem Lt{s:Bs}{i n:Nat}{v:JV}(h:val s i=some (v,n)):elems s i=(Kd s (sk s n)).map fun q=>(JL.cons v q.1,q.2):=by
 rw[Wq,h];unfold Kd;simp only[yA];split
 ·rfl
 ·split<;>rfl
def AS(ab:Nat)(sv:Value)(wx:Wo)(k:Nat):Prop:=ab<k/\k<wx.heap.size/\sv.ownBlock≠some k
def VI(rb:Nat)(s:Bs)(tb kt:Bool)(w:Wo)(j:Nat)(acc:JL)(sv:Value)(xs:List Value)(wx:Wo):Prop:=
 zo rb s j (tb || qo acc) (kt || ZX acc) wx/\wx.heap[w.heap.size]?=some (Yb sv)/\wx.ownsRow (w.heap.size+1) 66 1 sv xs.length xs/\KB rb w wx/\w.heap.size+1<=wx.heap.size /\
  (qo acc=false->ZX acc=false->Zl wx (AS w.heap.size sv wx) acc xs)
theorem Ke{rb:Nat}{w w1:Wo}{B e size n:Nat}{v:Value}{xs:List Value}(h:w.ownsRow B e size v n xs)(k:KB rb w w1)(hB:rb<B):w1.ownsRow B e size v n xs:=by
 refine⟨h.1,?_⟩;rcases h.2 with f |⟨g,a,b,j,i,d,r⟩
 ·exact .inl f
 ·exact .inr ⟨g,a,b,j,i,(k.block g (yB.1 d).1 (by omega)).trans d,r⟩
theorem VI.step {rb:Nat} {s:Bs} {tb kt:Bool} {w W0 w4 w5:Wo} {j k:Nat} {acc:JL} {sv v5:Value} {xs:List Value} {v:JV} {t:TypeId} {p:Value} {o:Obj} (hrb:rb<w.heap.size)
  (h:VI rb s tb kt w j acc sv xs W0) (k4:KB rb W0 w4) (r4:zo rb s k ((tb || qo acc) || zY v) ((kt || ZX acc) || zy v) w4)
  (hrep:zY v=false->zy v=false->zi w4 (fun b=>W0.heap.size<=b/\b<w4.heap.size) v (.iface t p))
  (own5:w5.ownsRow (w.heap.size+1) 66 1 v5 (xs.length+1) (xs++[.iface t p])) (hg5:(w4.alloc o).grownBy w5 sv.ownBlock) (hat:v5.ownBlock=sv.ownBlock∨v5.ownBlock=some (w4.alloc o).heap.size):
  VI rb s tb kt w k (acc.app (.cons v .nil)) v5 (xs++[.iface t p]) (w5.setCell ⟨w.heap.size,0,none⟩ v5):=by
 obtain⟨V,N,K,n,W,P⟩:=h;have Q:=k4.size;have T:(w4.alloc o).heap.size=w4.heap.size+1:=by simp
 have R:=hg5.size;have d:∀ g,sv.ownBlock=some g->w.heap.size+1<=g/\g<W0.heap.size:=fun g A=>⟨(K.lt g A).1,(K.lt g A).2⟩;have keep:∀ b,b<w4.heap.size->sv.ownBlock≠some b->w5.heap[b]?=w4.heap[b]?:=fun b a l=>(hg5.block b (by omega) (fun e=>l e.symm)).trans (Lib.alloc_old w4 o b a);have f:∀ b,b≠w.heap.size->(w5.setCell ⟨w.heap.size,0,none⟩ v5).heap[b]?=w5.heap[b]?:=fun b a=>Below.heap_setCell w5 ⟨w.heap.size,0,none⟩ v5 b a;have q:w4.heap[w.heap.size]?=some (Yb sv):=(k4.block w.heap.size (by omega) (by omega)).trans N;have u:w5.heap[w.heap.size]?=some (Yb sv):=(keep w.heap.size (by omega) (fun e=>by have:=(d _ e).1;omega)).trans q;have y:w5.heap[rb]?=w4.heap[rb]?:=keep rb (by omega) (fun e=>by have:=(d _ e).1;omega);have i:(w5.setCell ⟨w.heap.size,0,none⟩ v5).heap.size=w5.heap.size:=by simp[World.setCell]
 have x:qo (acc.app (.cons v .nil))=(qo acc || zY v):=by rw[NT];simp[qo]
 have z:ZX (acc.app (.cons v .nil))=(ZX acc || zy v):=by rw[NW];simp[ZX]
 refine⟨?_,?_,?_,?_,by omega,?_⟩
 ·rw[x,z,← Bool.or_assoc,← Bool.or_assoc];exact (f rb (by omega)).trans (y.trans r4)
 ·exact heap_setCell_same w5 w.heap.size 0 _ 198 v5 u
 ·rw[yh];refine⟨own5.1,?_⟩;rcases own5.2 with M |⟨g,B,C,U,a,A,r⟩
  ·exact .inl M
  ·exact .inr ⟨g,B,C,U,a,(f g (by omega)).trans A,r⟩
 ·refine⟨?_,?_,?_,by rw[i];have:=n.size;omega,fun b a l=>?_⟩
  ·exact (hg5.os.trans (show (w4.alloc o).os=w4.os from rfl)).trans ((k4.trans (KB.refl rb w4)).os.trans n.os)
  ·exact (hg5.tape.trans (show (w4.alloc o).tape=w4.tape from rfl)).trans (k4.tape.trans n.tape)
  ·exact (hg5.output.trans (show (w4.alloc o).output=w4.output from rfl)).trans (k4.output.trans n.output)
  ·have O:=n.size;exact (f b (by omega)).trans ((keep b (by omega) (fun e=>by have:=(d _ e).1;omega)).trans ((k4.block b (by omega) l).trans (n.block b a l)))
 ·intro a L;rw[x]at a;rw[z]at L;obtain⟨E,F⟩:=Bool.or_eq_false_iff.1 a;obtain⟨G,H⟩:=Bool.or_eq_false_iff.1 L;have m:∀ b,b<w4.heap.size->sv.ownBlock≠some b->v5.ownBlock≠some b:=fun b a l e=>by
   rcases hat with g | g
   ·exact l (g.symm.trans e)
   ·rw[g]at e;injection e with e;omega
  refine Zl.app acc (.cons v .nil) xs [.iface t p] ?_ ?_
  ·refine Zl.keep (w:=W0) (S:=AS w.heap.size sv W0) (fun b a=>?_) (fun b a=>?_) acc xs (P E G)
   ·obtain⟨I,J,D⟩:=a;exact (f b (by omega)).trans ((keep b (by omega) D).trans (k4.block b J (by omega)))
   ·obtain⟨I,J,D⟩:=a;exact⟨I,by rw[i];omega,m b (by omega) D⟩
  ·rw[Zl];refine⟨_,[],rfl,?_,by rw[Zl]⟩;refine zi.keep (w:=w4) (S:=fun b=>W0.heap.size<=b/\b<w4.heap.size) (fun b a=>?_) (fun b a=>?_) v _ (hrep F H)
   ·have l:sv.ownBlock≠some b:=fun e=>by have:=(d _ e).2;omega
    exact (f b (by omega)).trans (keep b a.2 l)
   ·have l:sv.ownBlock≠some b:=fun e=>by have:=(d _ e).2;omega
    exact⟨by omega,by rw[i];omega,m b a.2 l⟩
def Kf(s:Bs)(j:Nat):Option (JM×Nat):=if bt s j=125 then some (.nil,j+1)else if bt s j=44 then Qt s (sk s (j+1))else none
theorem Lu(s:Bs)(i:Nat):Qt s (sk s i)=(Ya s i).bind fun m=>(Kf s m.2).map fun q=>(JM.cons m.1.1 m.1.2 q.1,q.2):=by
 rw[Kk];unfold Ya
 cases ZD s (sk s i)with
 | none=>rfl
 | some k=>
  simp only[yA];by_cases h:bt s (sk s k.2)=58
  ·rw[yg h,yg h]
   cases val s (sk s (sk s k.2+1))with
   | none=>rfl
   | some q=>
    simp only[yA,Option.map_some];unfold Kf;split
    ·rfl
    ·split<;>rfl
  ·rw[yf h,yf h];rfl
theorem Lv{s:Bs}{i j:Nat}{m:List UInt8×JV}(h:Ya s i=some (m,j)):i<j/\j<=s.size:=by
 unfold Ya at h
 cases hq:ZD s (sk s i)with
 | none=>rw[hq]at h;cases h
 | some k=>
  have d:=Ye hq;have f:=Ze s i;rw[hq]at h;simp only[yA]at h;by_cases a:bt s (sk s k.2)=58
  ·rw[yg a]at h
   cases hv:val s (sk s (sk s k.2+1))with
   | none=>rw[hv]at h;cases h
   | some q=>
    rw[hv]at h;simp only[Option.map_some]at h;injection h with h;injection h with _ h;have b:=Vf hv;have g:=Ze s (sk s k.2+1);have l:=Ze s k.2;have n:=Ze s q.2;have o:=(QV b.2).2;omega
  ·rw[yf a]at h;cases h
abbrev Gt(b:Nat):Obj:=.cells #[.map (some b)] 228 (0,0)
def OS(L:Nat)(wx:Wo)(k:Nat):Prop:=L<=k/\k<wx.heap.size
structure Gu(rb:Nat)(s:Bs)(tb kt:Bool)(w:Wo)(ob b L j:Nat)(acc:JM)(xs:List (List UInt8×Value))(wx:Wo):Prop where
 rdr:zo rb s j (tb || ZW acc) (kt || ZN [] acc) wx
 blk:wx.heap[ob]?=some (Gt b)
 own:wx.ownsMap prog 9 RH b xs.length (Zb xs)
 kb:KB rb w wx
 keys:xs.map (·.1)=Qd acc
 size:L<=wx.heap.size
 rep:ZW acc=false->ZN [] acc=false->Zu wx (OS L wx) acc xs
theorem Gu.next {rb:Nat} {s:Bs} {tb kt:Bool} {w W0 w7:Wo} {ob b L j k:Nat} {acc:JM} {xs:List (List UInt8×Value)} (h1:rb<w.heap.size) (h2:w.heap.size<=ob) (h3:w.heap.size<=b) (hb:b<L) (ho:ob<L)
  (h:Gu rb s tb kt w ob b L j acc xs W0) (k7:KB rb W0 w7) (r7:zo rb s k (tb || ZW acc) (kt || ZN [] acc) w7):Gu rb s tb kt w ob b L k acc xs w7:=by
 have f:=h.size;have d:=k7.size;refine⟨r7,(k7.block ob (by omega) (by omega)).trans h.blk,VZ h.own (k7.block b (by omega) (by omega)),h.kb.trans k7,h.keys,by omega,fun a c=>?_⟩;exact Zu.keep (w:=W0) (S:=OS L W0) (fun k hk=>k7.block k hk.2 (by have:=hk.1;omega)) (fun k hk=>⟨hk.1,by have:=hk.2;omega⟩) acc xs (h.rep a c)
theorem Gu.step {rb:Nat} {s:Bs} {tb kt:Bool} {w W0 w7:Wo} {ob b L j k:Nat} {acc:JM} {xs:List (List UInt8×Value)} {key:List UInt8} {v:JV} {t:TypeId} {p:Value}
  (h1:rb<w.heap.size) (h2:w.heap.size<=ob) (h3:w.heap.size<=b) (hb:b<L) (ho:ob<L) (hne:ob≠b)
  (h:Gu rb s tb kt w ob b L j acc xs W0) (k7:Jc rb b W0 w7) (r7:zo rb s k ((tb || ZW acc) || zY v) (((kt || ZN [] acc) || zy v) ||(xs.map (·.1)).contains key) w7)
  (m7:w7.ownsMap prog 9 RH b (xs.length+1) (Zb (xs++[(key,.iface t p)])))
  (hrep:zY v=false->zy v=false->zi w7 (fun k=>W0.heap.size<=k/\k<w7.heap.size) v (.iface t p)):
  Gu rb s tb kt w ob b L k (acc.app (.cons key v .nil)) (xs++[(key,.iface t p)]) w7:=by
 have o:=h.size;have n:=k7.size;have m:=h.kb.size;have d:ZW (acc.app (.cons key v .nil))=(ZW acc || zY v):=by rw[NU];simp[ZW]
 have f:ZN [] (acc.app (.cons key v .nil))=((ZN [] acc || zy v) ||(Qd acc).contains key):=by rw[NX];simp[ZN,Bool.or_assoc]
 refine⟨?_,(k7.block ob (by omega) (by omega) hne).trans h.blk,by rw[yh];exact m7,?_,?_,by omega,fun a c=>?_⟩
 ·rw[d,f,← h.keys];simpa only [Bool.or_assoc]using r7
 ·exact⟨k7.os.trans h.kb.os,k7.tape.trans h.kb.tape,k7.output.trans h.kb.output,by omega,fun g hg hn=>(k7.block g (by omega) hn (by omega)).trans (h.kb.block g hg hn)⟩
 ·rw[yw,h.keys,LV];rfl
 ·rw[d]at a;rw[f]at c;obtain⟨i,l⟩:=Bool.or_eq_false_iff.1 a;obtain⟨c0,_⟩:=Bool.or_eq_false_iff.1 c;obtain⟨c1,c2⟩:=Bool.or_eq_false_iff.1 c0;refine Zu.app acc (.cons key v .nil) xs [(key,.iface t p)] ?_ ?_
  ·exact Zu.keep (w:=W0) (S:=OS L W0) (fun g hg=>k7.block g hg.2 (by have:=hg.1;omega) (by have:=hg.1;omega)) (fun g hg=>⟨hg.1,by have:=hg.2;omega⟩) acc xs (h.rep i c1)
  ·rw[Zu];refine⟨_,[],rfl,?_,by rw[Zu]⟩;exact zi.keep (w:=w7) (fun _ _=>rfl) (fun g hg=>⟨by have:=hg.1;omega,hg.2⟩) v _ (hrep l c2)
theorem Jc.off{rb b:Nat}{w W0 w7:Wo}(k7:Jc rb b W0 w7)(k:KB rb w W0)(hb:w.heap.size<=b):KB rb w w7:=
 ⟨k7.os.trans k.os,k7.tape.trans k.tape,k7.output.trans k.output,yP k.size k7.size,fun g hg hn=>(k7.block g (yE hg k.size) hn (by omega)).trans (k.block g hg hn)⟩
theorem zaX (rb:Nat) (s:Bs) (i:Nat) (tb kt:Bool) (w:Wo) (h:zo rb s i tb kt w) (hs:s.size<=100000) (h123:bt s i=123) (B:Nat) (hT:qJ B w) (hB:B<=rb)
  (HV:∀ (j:Nat) (tb' kt':Bool) (w1:Wo),i<j->j<=s.size->zo rb s j tb' kt' w1->KB rb w w1->Calls prog 127 #[.pointer (some ⟨rb,0,none⟩)] w1 (JR rb s tb' kt' w1 ((val s (sk s j)).map fun q=>(q.1,sk s q.2)))):
  Calls prog 177 #[.pointer (some ⟨rb,0,none⟩)] w (JR rb s tb kt w (val s i)):=by
 have l:=h.lt;have hi:i<s.size:=zZ (by omega);have J:=zb (XZ h123);have S:=zb HV;have HT:=zb hT;have k00:=Ze s (i+1);have W:=(QV (s:=s) (i:=i+1) (by omega)).2;have k02:=zb (Lr s (i+1));have rA:zo rb s i tb kt ((w.alloc (.map #[] 0)).alloc (Gt w.heap.size)):=(h.below (Gs w (.map #[] 0))).below (Gs (w.alloc (.map #[] 0)) (Gt w.heap.size));have kA:KB rb w ((w.alloc (.map #[] 0)).alloc (Gt w.heap.size)):=(KB.of_below (rb:=rb) (Gs w (.map #[] 0))).trans (KB.of_below (rb:=rb) (Gs (w.alloc (.map #[] 0)) (Gt w.heap.size)));have hsA:((w.alloc (.map #[] 0)).alloc (Gt w.heap.size)).heap.size=w.heap.size+2:=by simp
 have O0:Hid (Gu rb s tb kt w (w.heap.size+1) w.heap.size (w.heap.size+2) i .nil [] ((w.alloc (.map #[] 0)).alloc (Gt w.heap.size))):=by
  refine⟨by simp only[ZW,ZN,Bool.or_false];exact rA,?_,(World.ownsMap_made w prog 9 RH).alloc _,kA,rfl,by omega,fun _ _=>by rw[Zu]⟩;have:=yG (w.alloc (.map #[] 0)) (Gt w.heap.size);simpa using this
 have R:=zb (Gv rb s i tb kt _ rA (by omega) 123 h123 hi);clear h HV h123 hT rA kA hsA;have hmm:=run_makeMap (P:=prog) 226 w;generalize hk0:sk s (i+1)=y at *;have T:=zb hk0;clear hk0;go_in;go_wp2_with fail;clear hmm;refine (uh R).mono ?_;rintro e w1 ⟨rfl,r1,k1⟩;have U:=zb (Ui rb s (i+1) tb kt w1 r1 (by omega) (by omega));have O1:=zb ((uh O0).next l (by omega) (by omega) (by omega) (by omega) k1 (by simp only[ZW,ZN,Bool.or_false];exact r1));clear R r1 k1 O0;go_wp2_with fail;refine (uh U).mono ?_;rintro e w2 ⟨rfl,r2,k2⟩;rw[uh T]at r2;have O2:=zb ((uh O1).next l (by omega) (by omega) (by omega) (by omega) k2 (by simp only[ZW,ZN,Bool.or_false];exact r2));have R2:=zb r2;clear U r2 k2 O1 T;by_cases f:bt s y=125
 ·have A:=zb (VJ rb s y tb kt w2 (uh R2) (by omega) 125 f (zZ (by omega)));have L:Hid (val s i=some (.obj .nil,y+1)):=by show _=_;rw[uh J,yg f]
  clear f;go_wp2_with fail;refine (uh A).mono ?_;rintro e w3 ⟨rfl,Z,X⟩;have m:=zb ((uh O2).next l (by omega) (by omega) (by omega) (by omega) X (by simp only[ZW,ZN,Bool.or_false];exact Z));clear A Z X O2 R2;go_wp2;go_ret;refine⟨(uh m).kb,?_⟩;rw[uh L];have hsz:=(uh m).size;refine⟨_,_,rfl,by simp only[zY,zy];exact (uh m).rdr,fun _ _=>?_⟩;rw[zi];exact⟨w.heap.size+1,w.heap.size,0,[],rfl,⟨by omega,by omega⟩,⟨by omega,by omega⟩,(uh m).blk,(uh m).own,ye _,by rw[Zu]⟩
 ·have A:=zb (Vc rb s y tb kt w2 (uh R2) W 125 (.inl f));have L:Hid (val s i=(Qt s y).map fun q=>(.obj q.1,q.2)):=by show _=_;rw[uh J,yf f]
  clear f J;go_wp2_with fail;refine (uh A).mono ?_;rintro e w3 ⟨rfl,Z,X⟩;have m:=zb ((uh O2).next l (by omega) (by omega) (by omega) (by omega) X (by simp only[ZW,ZN,Bool.or_false];exact Z));clear A Z X O2 R2;have hs3:=(uh m).size;have z:=zb (Lq rb s y _ _ w3 (uh m).rdr hs W B ((uh HT).next ((uh m).kb.below hB (by omega)) (ye _)) hB w.heap.size _ _ (uh m).own l (by simp)
   (fun j w1 a b c d=>uh S j _ _ w1 (by omega) b c ((uh m).kb.trans d)))
  have k:=zb (Lu s y);rw[uh k02]at k;have c3:w3.cell? ⟨w.heap.size+1,0,none⟩=some (.map (some w.heap.size)):=yF (uh m).blk 0
  cases hv:Ya s y with
  | none=>
   rw[hv]at z k;have I:Hid (val s i=none):=by show _=_;rw[uh L,uh k];rfl
   clear hv;go_wp2_with fail;refine (uh z).mono ?_;rintro e w4 ⟨N,rfl⟩;exact⟨rfl,N.off (uh m).kb (ye _),by rw[uh I];rfl⟩
  | some q=>
   obtain⟨⟨key,v⟩,n⟩:=q;have E:=Lv hv;rw[hv]at z k;clear hv;go_wp2_with fail;refine (uh z).mono ?_;rintro e w4 ⟨N,t,p,rfl,r4,m4,G⟩;have Q:=zb ((uh m).step l (by omega) (by omega) (by omega) (by omega) (by omega) N r4 m4 G);clear z m N r4 m4 G c3;go_wp2_with fail;go_loopg [] (s.size+1 - n) (fun g wr=>∃ (j:Nat) (r:JM) (O:List (List UInt8×Value)),g=s.size+1 - j/\j<=s.size/\y<j/\O.length<=j/\Gu rb s tb kt w (w.heap.size+1) w.heap.size (w.heap.size+2) j r O wr/\Qt s y=(Kf s j).map fun q=>(r.app q.1,q.2))
   case atStart=>exact⟨n,_,_,rfl,E.2,E.1,by simp;omega,uh Q,by rw[uh k];rfl⟩
   case round=>
    obtain⟨j,r,O,hg,hj,hj0,hxl,D,V⟩:=hrel;have F:=zb V;have u:=zb D;have hsw:=D.size;clear V D Q k E;by_cases x:bt s j=44
    ·have hjl:j<s.size:=zZ (by omega);have A:=zb (VJ rb s j _ _ wr (uh u).rdr (by omega) 44 x hjl);have C:Hid (Qt s y=(Qt s (sk s (j+1))).map fun q=>(r.app q.1,q.2)):=by
      show _=_
      rw[uh F,Kf,yf (by omega),yg x]
     clear x F;go_wp2_with fail;refine (uh A).mono ?_;rintro e w7 ⟨rfl,r7,Y⟩;have o:=zb ((uh u).next l (by omega) (by omega) (by omega) (by omega) Y r7);have hs7:=(uh o).size;clear A Y u r7;have z:=zb (Lq rb s (j+1) _ _ w7 (uh o).rdr hs (by omega) B ((uh HT).next ((uh o).kb.below hB (by omega)) (ye _)) hB w.heap.size _ _ (uh o).own l (by omega)
      (fun j w1 a b c d=>uh S j _ _ w1 (by omega) b c ((uh o).kb.trans d)))
     have k:=zb (Lu s (j+1));have c7:w7.cell? ⟨w.heap.size+1,0,none⟩=some (.map (some w.heap.size)):=yF (uh o).blk 0
     cases hv:Ya s (j+1)with
     | none=>
      rw[hv]at z k;have I:Hid (val s i=none):=by show _=_;rw[uh L,uh C,uh k];rfl
      clear hv;go_wp2_with fail;refine (uh z).mono ?_;rintro e w4 ⟨N,rfl⟩;exact⟨rfl,N.off (uh o).kb (ye _),by rw[uh I];rfl⟩
     | some q=>
      obtain⟨⟨key2,v2⟩,n2⟩:=q;have E:=Lv hv;rw[hv]at z k;clear hv;go_wp2_with fail;refine (uh z).mono ?_;rintro e w8 ⟨K,t8,p8,rfl,r8,m8,H⟩;have HS5:=zb ((uh o).step l (by omega) (by omega) (by omega) (by omega) (by omega) K r8 m8 H);clear z o K r8 m8 H c7;go_wp2;go_roundg (s.size+1 - n2)
      all_goals first
       | omega
       | exact⟨n2,_,_,rfl,E.2,by omega,by rw[yh];simp only[yn,yD];omega,uh HS5,by rw[uh C,uh k,yA,Option.map_map];congr 1;funext q;simp[JM.app_assoc,JM.app]⟩
    ·have A:=zb (Vc rb s j _ _ wr (uh u).rdr hj 44 (.inl x));have C:Hid (Qt s y=(if bt s j=125 then some (JM.nil,j+1)else none).map fun q=>(r.app q.1,q.2)):=by
      show _=_
      rw[uh F,Kf];by_cases g:bt s j=125
      ·rw[yg g,yg g]
      ·rw[yf g,yf x,yf g]
     clear x F;go_wp2_with fail;refine (uh A).mono ?_;rintro e w7 ⟨rfl,r7,Y⟩;have o:=zb ((uh u).next l (by omega) (by omega) (by omega) (by omega) Y r7);clear A u r7 Y;by_cases f:bt s j=125
     ·have HE:=zb (Gv rb s j _ _ w7 (uh o).rdr (by omega) 125 f (zZ (by omega)));have I:Hid (val s i=some (.obj r,j+1)):=by
       show _=_
       rw[uh L,uh C,yg f];simp[JM.app_nil]
      clear f;go_wp2_with fail;refine (uh HE).mono ?_;rintro e w8 ⟨rfl,r8,K⟩;have M:=zb ((uh o).next l (by omega) (by omega) (by omega) (by omega) K r8);have hs8:=(uh M).size;clear HE r8 K o;go_wp2;go_ret;refine⟨(uh M).kb,?_⟩;rw[uh I];refine⟨_,_,rfl,by simp only[zY,zy];exact (uh M).rdr,fun a b=>?_⟩;rw[zi];simp only[zY]at a;simp only[zy]at b;exact⟨w.heap.size+1,w.heap.size,O.length,O,rfl,⟨by omega,by omega⟩,⟨by omega,by omega⟩,(uh M).blk,(uh M).own,ye _,Zu.keep (fun _ _=>rfl) (fun b hb=>⟨by have:=hb.1;omega,hb.2⟩) r O ((uh M).rep a b)⟩
     ·have HE:=zb (Kg rb s j _ _ w7 (uh o).rdr (by omega) hj 125 (.inl f));have I:Hid (val s i=none):=by
       show _=_
       rw[uh L,uh C,yf f];rfl
      clear f;go_wp2_with fail;refine (uh HE).mono ?_;rintro e w8 ⟨rfl,K⟩;exact⟨rfl,(uh o).kb.trans K,by rw[uh I];rfl⟩
theorem Lw{w:Wo}{B e n:Nat}{v x:Value}{xs:List Value}(h:w.ownsRow B e 1 v (n+1) (xs++[x])):∃ g cap,v= .slice (some ⟨g,0,none⟩) (n+1) cap:=by
 rcases h.2 with ⟨_,d⟩ |⟨g,cap,a,b,_⟩
 ·omega
 ·exact⟨g,cap,b⟩
theorem zaY (rb:Nat) (s:Bs) (i:Nat) (tb kt:Bool) (w:Wo) (h:zo rb s i tb kt w) (hs:s.size<=100000) (h91:bt s i=91)
  (HV:∀ (j:Nat) (tb' kt':Bool) (w1:Wo),i<j->j<=s.size->zo rb s j tb' kt' w1->KB rb w w1->Calls prog 127 #[.pointer (some ⟨rb,0,none⟩)] w1 (JR rb s tb' kt' w1 ((val s (sk s j)).map fun q=>(q.1,sk s q.2)))):
  Calls prog 176 #[.pointer (some ⟨rb,0,none⟩)] w (JR rb s tb kt w (val s i)):=by
 obtain⟨i0,hi0,hz0,hz1,hz2⟩:=info_parts NA;have hlt:=h.lt;have hi:i<s.size:=zZ (by omega);have ab:=zb (XY h91);have HHV:=zb HV;have k00:=Ze s (i+1);have k01:=(QV (s:=s) (i:=i+1) (by omega)).2;have k02:=Lr s (i+1);have HEX:=zb (Gv rb s i tb kt _ (h.below (Gs w (Yb (.slice none 0 0)))) (by omega) 91 h91 hi);clear h HV h91;generalize hk0:sk s (i+1)=H at *;go_in;go_wp2_with fail;refine (uh HEX).mono ?_;rintro e w1 ⟨rfl,r1,k1⟩;have HSK:=zb (Ui rb s (i+1) tb kt w1 r1 (by omega) (by omega));have A1:Hid (w1.heap[w.heap.size]?=some (Yb (.slice none 0 0))):=(k1.block w.heap.size (by simp) (by omega)).trans (yG w _);have K1:=zb ((KB.of_below (rb:=rb) (Gs w (Yb (.slice none 0 0)))).trans k1);have hs1:w.heap.size+1<=w1.heap.size:=by have:=k1.size;simpa using this
 clear HEX r1 k1;go_wp2_with fail;refine (uh HSK).mono ?_;rintro e w2 ⟨rfl,r2,k2⟩;rw[hk0]at r2;have A2:Hid (w2.heap[w.heap.size]?=some (Yb (.slice none 0 0))):=(k2.block w.heap.size (by omega) (by omega)).trans (uh A1);have K2:=zb ((uh K1).trans k2);have hs2:w.heap.size+1<=w2.heap.size:=by have:=k2.size;omega
 have R2:=zb r2;clear HSK r2 k2 A1 K1 hk0;by_cases k:bt s H=93
 ·have L:=zb (VJ rb s H tb kt w2 (uh R2) (by omega) 93 k (zZ (by omega)));have HR:Hid (val s i=some (.arr .nil,H+1)):=by show _=_;rw[uh ab,yg k]
  clear k;go_wp2_with fail;refine (uh L).mono ?_;rintro e J ⟨rfl,r3,X⟩;have R3:=zb r3;have A3:Hid (J.heap[w.heap.size]?=some (Yb (.slice none 0 0))):=(X.block w.heap.size (by omega) (by omega)).trans (uh A2);have Y:=zb ((uh K2).trans X);have hs3:=X.size;clear L r3 X;go_wp2;go_ret;refine⟨uh Y,?_⟩;rw[uh HR];refine⟨_,_,rfl,by simp only[zY,zy,qo,ZX,Bool.or_false];exact uh R3,fun _ _=>?_⟩;rw[zi];exact⟨w.heap.size,.slice none 0 0,[],rfl,⟨ye _,by omega⟩,uh A3,⟨⟨rfl,.inl ⟨rfl,rfl⟩⟩,fun g hg=>by cases hg⟩,by rw[Zl]⟩
 ·have L:=zb (Vc rb s H tb kt w2 (uh R2) k01 93 (.inl k));have hn93:=k;have HR:Hid (val s i=(elems s H).map fun q=>(.arr q.1,q.2)):=by show _=_;rw[uh ab,yf k]
  clear k;go_wp2_with fail;refine (uh L).mono ?_;rintro e J ⟨rfl,r3,X⟩;have A3:Hid (J.heap[w.heap.size]?=some (Yb (.slice none 0 0))):=(X.block w.heap.size (by omega) (by omega)).trans (uh A2);have Y:=zb ((uh K2).trans X);have hs3:=X.size;have N:KB rb w J.drew:=⟨(uh Y).os,(uh Y).tape,(uh Y).output,(uh Y).size,(uh Y).block⟩;have y:=zb (uh HHV H tb kt J.drew (by omega) k01 r3 N);rw[k02]at y;have d:Hid (VI rb s tb kt w H .nil (.slice none 0 0) [] J.drew):=⟨by simp only[qo,ZX,Bool.or_false];exact r3,uh A3,⟨rfl,.inl ⟨rfl,rfl⟩⟩,N,by show _<=J.heap.size;omega,fun _ _=>by rw[Zl]⟩;have ci:J.drew.cell? ⟨w.heap.size,0,none⟩=some (.slice none 0 0):=yF (uh A3) 0;have hsd:w.heap.size+1<=J.drew.heap.size:=by show _<=J.heap.size;omega
  clear L X A2 K2 R2 hn93
  cases hv:val s H with
  | none=>
   rw[hv]at y;have R:Hid (val s i=none):=by show _=_;rw[uh HR,Wq,hv];rfl
   clear hv;go_wp2_with fail;refine wp_region_any (by kernel_rfl) ?_;try (change wpAny _ _ _ _ _ _ _ (World.drew _))
   refine wpAny_take (i:=0) (v:=?_) rfl (by kernel_rfl) (by kernel_rfl) (by kernel_rfl) (fun _ _ _ h=>h) (Or.inl ⟨by rfl,?_⟩) ?_;rotate_left 1
   ·intro w;go_simp;try with_reducible rfl
   refine wpAny_take (i:=1) (v:=?_) rfl (by kernel_rfl) (by kernel_rfl) (by kernel_rfl) (fun _ _ _ h=>h) (Or.inl ⟨by rfl,?_⟩) ?_;rotate_left 1
   ·intro w;go_simp;try with_reducible rfl
   refine wpAny_take (i:=2) (v:=?_) rfl (by kernel_rfl) (by kernel_rfl) (by kernel_rfl) (fun _ _ _ h=>h) (Or.inl ⟨by rfl,?_⟩) ?_;rotate_left 1
   ·intro w;go_simp;try with_reducible rfl
   refine wpAny_take (i:=3) (v:=?_) rfl (by kernel_rfl) (by kernel_rfl) (by kernel_rfl) (fun _ _ _ h=>h) (Or.inl ⟨by rfl,?_⟩) ?_;rotate_left 1
   ·intro w;go_simp;try with_reducible rfl
   refine wpAny_take (i:=5) (v:=?_) rfl (by kernel_rfl) (by kernel_rfl) (by kernel_rfl) (fun _ _ _ h=>h) (Or.inl ⟨by rfl,?_⟩) ?_;rotate_left 1
   ·intro w;go_simp;try with_reducible rfl
   refine wpAny_ready (rs:=[4,6]) (by kernel_rfl) (by simp) ?_;refine AllReady.cons rfl (fun K hK=>?_) ?_
   ·go_simp;refine hK _ _ ?_;clear hK K;refine wpAny_ready (rs:=[6]) (by kernel_rfl) (by simp) ?_;refine AllReady.cons rfl (fun K hK=>?_) AllReady.nil;go_simp;refine (uh y).mono ?_;rintro e w9 ⟨k9,rfl⟩;exact⟨rfl,N.trans k9,by rw[uh R];rfl⟩
   ·refine AllReady.cons rfl (fun K hK=>?_) AllReady.nil;go_simp;refine (uh y).mono ?_;rintro e w9 ⟨k9,rfl⟩;exact⟨rfl,N.trans k9,by rw[uh R];rfl⟩
  | some q=>
   obtain⟨v,n⟩:=q;have W:=Vf hv;have Q:=zb (Lt hv);have hn1:=Ze s n;have V:=(QV W.2).2;rw[hv]at y;have y:Hid (Calls prog 127 #[.pointer (some ⟨rb,0,none⟩)] J.drew (JR rb s (tb || qo .nil) (kt || ZX .nil) J.drew (some (v,sk s n)))):=by
    show Calls _ _ _ _ _
    simp only[qo,ZX,Bool.or_false];exact uh y
   clear hv A3 Y ab;have hxl:([]:List Value).length<=H:=yt _;go_wp2_with fail;go_cut []from 18 to 28 (fun wx=>∃ (v5:Value) (x5:List Value),VI rb s tb kt w (sk s n) (.cons v .nil) v5 x5 wx/\x5.length<=sk s n)
   case first=>
    go_region_law (first
     |(
       go_simp;refine (uh y).mono ?_;rintro e B ⟨O,t,p,rfl,r4,o⟩;have hs4:=O.size;have a4:B.heap[w.heap.size]?=some (Yb (Value.slice none 0 0)):=(O.block w.heap.size (by omega) (by omega)).trans (uh d).2.1;have c4:B.cell? ⟨w.heap.size,0,none⟩=some (Value.slice none 0 0):=yF a4 0;have ca4:(B.alloc (.cells #[.iface t p] 66)).cell? ⟨w.heap.size,0,none⟩=some (Value.slice none 0 0):=((Gs B _).cell (p:=⟨w.heap.size,0,none⟩) (by show w.heap.size<_;omega)).trans c4;have hne4:¬ w.heap.size=B.heap.size:=by omega
       have E:=Ke (uh d).2.2.1 O (show rb<w.heap.size+1 by omega);have T:=zb r4;have C:=zb o;have P:=zb a4;clear r4 o a4)
     |(
       refine Ls rfl (.tmp 22) (.tmp 25) 153 rfl (w.heap.size+1) 66 i0 .nilIface 1 16 underlying153 hi0 hz0 hz1 hz2 rfl (by decide) _ _ _ rfl (by exact E.alloc _) ⟨B.heap.size,0,none⟩ 1 1 [.iface t p] rfl rfl (by exact cell_one_new _ _ _) (by intro u hu;simp at hu;subst hu;rfl) (by unfold maxLen;omega) (by omega) (by simp;omega) ?_;intro v5 w5 m G D;obtain⟨g5,cap5,hv5⟩:=Lw m;subst hv5;have hne:some w.heap.size≠((Value.slice none 0 0)).ownBlock:=fun e=>by have:=((uh d).2.2.1.lt _ e.symm).1;omega
       have a5:w5.heap[w.heap.size]?=some (Yb (Value.slice none 0 0)):=(G.block w.heap.size (by simp;omega) hne).trans ((Lib.alloc_old B _ w.heap.size (by omega)).trans (uh P));have c5:w5.cell? ⟨w.heap.size,0,none⟩=some (Value.slice none 0 0):=yF a5 0;have f5:w5.frozen? ⟨w.heap.size,0,none⟩=false:=yI a5 0))
    all_goals
     have aa:=zb (VI.step hlt (uh d) O (uh T) (uh C) m G D);go_wp2_with fail;go_meet;exact⟨_,_,uh aa,by rw[yh];simp only[yn,yD];omega⟩
   case rest=>
    obtain⟨x,I,l,hxl2⟩:=hcut;have HA0:=zb l;clear l y d N ci r3;go_wp2_with fail;go_loopg [] (s.size+1 - sk s n) (fun g wr=>∃ (j:Nat) (f:JL) (x:Value) (I:List Value),g=s.size+1 - j/\j<=s.size/\H<j/\I.length<=j/\VI rb s tb kt w j f x I wr/\elems s H=(Kd s j).map fun q=>(f.app q.1,q.2))
    case atStart=>exact⟨sk s n,.cons v .nil,x,I,rfl,V,by omega,hxl2,uh HA0,by rw[uh Q];rfl⟩
    case round=>
     obtain⟨j,f,x,I,hg,hj,hj0,hxl,l,hst⟩:=hrel;have U:=zb hst;have A:=zb l;have hsw:=l.2.2.2.2.1;clear hst l HA0 Q W hn1 V;by_cases F:bt s j=44
     ·have hjl:j<s.size:=zZ (by omega);have L:=zb (VJ rb s j _ _ wr (uh A).1 (by omega) 44 F hjl);have M:Hid (elems s H=(elems s (sk s (j+1))).map fun q=>(f.app q.1,q.2)):=by
       show _=_
       rw[uh U,Kd,yf (by omega),yg F]
      clear F U;go_wp2_with fail;refine (uh L).mono ?_;rintro e z ⟨rfl,r7,r⟩;have hs7:=r.size;have KW:=(uh A).2.2.2.1;have N:KB rb w z.drew:=⟨(KW.trans r).os,(KW.trans r).tape,(KW.trans r).output,(KW.trans r).size,(KW.trans r).block⟩;have d:Hid (VI rb s tb kt w (j+1) f x I z.drew):=by
       obtain⟨_,q2,q3,q4,q5,q6⟩:=uh A;refine⟨r7,(r.block w.heap.size (by omega) (by omega)).trans q2,Ke (w1:=z) q3 r (show rb<w.heap.size+1 by omega),N,by show _<=z.heap.size;omega,fun a b=>?_⟩;exact Zl.keep (w:=wr) (w':=z.drew) (S:=AS w.heap.size x wr) (S':=AS w.heap.size x z.drew) (fun b hb=>r.block b hb.2.1 (by have:=hb.1;omega)) (fun b hb=>⟨hb.1,by show b<z.heap.size;have:=hb.2.1;omega,hb.2.2⟩) f I (q6 a b)
      have y:=zb (uh HHV (j+1) _ _ z.drew (by omega) (by omega) r7 N);have ci:z.drew.cell? ⟨w.heap.size,0,none⟩=some x:=yF (uh d).2.1 0;have hsd:w.heap.size+1<=z.drew.heap.size:=by show _<=z.heap.size;omega
      have hsj:=Ze s (j+1);clear L r A KW r7
      cases hv:val s (sk s (j+1))with
      | none=>
       rw[hv]at y;have R:Hid (val s i=none):=by show _=_;rw[uh HR,uh M,Wq,hv];rfl
       clear hv;go_wp2_with fail;refine wp_region_any (by kernel_rfl) ?_;try (change wpAny _ _ _ _ _ _ _ (World.drew _))
       refine wpAny_take (i:=0) (v:=?_) rfl (by kernel_rfl) (by kernel_rfl) (by kernel_rfl) (fun _ _ _ h=>h) (Or.inl ⟨by rfl,?_⟩) ?_;rotate_left 1
       ·intro w;go_simp;try with_reducible rfl
       refine wpAny_take (i:=1) (v:=?_) rfl (by kernel_rfl) (by kernel_rfl) (by kernel_rfl) (fun _ _ _ h=>h) (Or.inl ⟨by rfl,?_⟩) ?_;rotate_left 1
       ·intro w;go_simp;try with_reducible rfl
       refine wpAny_take (i:=2) (v:=?_) rfl (by kernel_rfl) (by kernel_rfl) (by kernel_rfl) (fun _ _ _ h=>h) (Or.inl ⟨by rfl,?_⟩) ?_;rotate_left 1
       ·intro w;go_simp;try with_reducible rfl
       refine wpAny_take (i:=3) (v:=?_) rfl (by kernel_rfl) (by kernel_rfl) (by kernel_rfl) (fun _ _ _ h=>h) (Or.inl ⟨by rfl,?_⟩) ?_;rotate_left 1
       ·intro w;go_simp;try with_reducible rfl
       refine wpAny_take (i:=5) (v:=?_) rfl (by kernel_rfl) (by kernel_rfl) (by kernel_rfl) (fun _ _ _ h=>h) (Or.inl ⟨by rfl,?_⟩) ?_;rotate_left 1
       ·intro w;go_simp;try with_reducible rfl
       refine wpAny_ready (rs:=[4,6]) (by kernel_rfl) (by simp) ?_;refine AllReady.cons rfl (fun K hK=>?_) ?_
       ·go_simp;refine hK _ _ ?_;clear hK K;refine wpAny_ready (rs:=[6]) (by kernel_rfl) (by simp) ?_;refine AllReady.cons rfl (fun K hK=>?_) AllReady.nil;go_simp;refine (uh y).mono ?_;rintro e w9 ⟨k9,rfl⟩;exact⟨rfl,N.trans k9,by rw[uh R];rfl⟩
       ·refine AllReady.cons rfl (fun K hK=>?_) AllReady.nil;go_simp;refine (uh y).mono ?_;rintro e w9 ⟨k9,rfl⟩;exact⟨rfl,N.trans k9,by rw[uh R];rfl⟩
      | some q=>
       obtain⟨v2,n⟩:=q;have W:=Vf hv;have Q:=zb (Lt hv);have hn1:=Ze s n;have V:=(QV W.2).2;rw[hv]at y;clear hv;go_wp2_with fail;go_region_law (first
        |(
          go_simp;refine (uh y).mono ?_;rintro e B ⟨O,t,p,rfl,r4,o⟩;have hs4:=O.size;have a4:B.heap[w.heap.size]?=some (Yb x):=(O.block w.heap.size (by omega) (by omega)).trans (uh d).2.1;have c4:B.cell? ⟨w.heap.size,0,none⟩=some x:=yF a4 0;have ca4:(B.alloc (.cells #[.iface t p] 66)).cell? ⟨w.heap.size,0,none⟩=some x:=((Gs B _).cell (p:=⟨w.heap.size,0,none⟩) (by show w.heap.size<_;omega)).trans c4;have hne4:¬ w.heap.size=B.heap.size:=by omega
          have E:=Ke (uh d).2.2.1 O (show rb<w.heap.size+1 by omega);have T:=zb r4;have C:=zb o;have P:=zb a4;clear r4 o a4)
        |(
          refine Ls rfl (.tmp 37) (.tmp 40) 153 rfl (w.heap.size+1) 66 i0 .nilIface 1 16 underlying153 hi0 hz0 hz1 hz2 rfl (by decide) _ _ _ rfl (by exact E.alloc _) ⟨B.heap.size,0,none⟩ 1 1 [.iface t p] rfl rfl (by exact cell_one_new _ _ _) (by intro u hu;simp at hu;subst hu;rfl) (by unfold maxLen;omega) (by omega) (by simp;omega) ?_;intro v5 w5 m G D;obtain⟨g5,cap5,hv5⟩:=Lw m;subst hv5;have hne:some w.heap.size≠(x).ownBlock:=fun e=>by have:=((uh d).2.2.1.lt _ e.symm).1;omega
          have a5:w5.heap[w.heap.size]?=some (Yb x):=(G.block w.heap.size (by simp;omega) hne).trans ((Lib.alloc_old B _ w.heap.size (by omega)).trans (uh P));have c5:w5.cell? ⟨w.heap.size,0,none⟩=some x:=yF a5 0;have f5:w5.frozen? ⟨w.heap.size,0,none⟩=false:=yI a5 0))
       all_goals
        have aa:=zb (VI.step hlt (uh d) O (uh T) (uh C) m G D);clear T C P E c4 m G D a5 O y d N ci;go_wp2;go_roundg (s.size+1 - sk s n)
       all_goals first
        | omega
        | exact⟨sk s n,f.app (.cons v2 .nil),_,_,rfl,V,by omega,by rw[yh];simp only[yn,yD];omega,uh aa,by rw[uh M,uh Q,Option.map_map];congr 1;funext q;simp[JL.app_assoc,JL.app]⟩
     ·have L:=zb (Vc rb s j _ _ wr (uh A).1 hj 44 (.inl F));have M:Hid (elems s H=(if bt s j=93 then some (JL.nil,j+1)else none).map fun q=>(f.app q.1,q.2)):=by
       show _=_
       rw[uh U,Kd];by_cases g:bt s j=93
       ·rw[yg g,yg g]
       ·rw[yf g,yf F,yf g]
      clear F U;go_wp2_with fail;refine (uh L).mono ?_;rintro e z ⟨rfl,r7,r⟩;have hs7:=r.size;obtain⟨_,q2,q3,q4,q5,q6⟩:=uh A;have A7:=zb ((r.block w.heap.size (by omega) (by omega)).trans q2);have O7:=zb (Ke q3 r (show rb<w.heap.size+1 by omega));have K7:=zb (q4.trans r);have Q7:Hid (qo f=false->ZX f=false->Zl z (AS w.heap.size x z) f I):=fun a b=>Zl.keep (fun b hb=>r.block b hb.2.1 (by have:=hb.1;omega)) (fun b hb=>⟨hb.1,by have:=hb.2.1;omega,hb.2.2⟩) f I (q6 a b);have R7:=zb r7;clear q2 q3 q4 q5 q6 L A r7 r;by_cases k:bt s j=93
      ·have HE:=zb (Gv rb s j _ _ z (uh R7) (by omega) 93 k (zZ (by omega)));have R:Hid (val s i=some (.arr f,j+1)):=by
        show _=_
        rw[uh HR,uh M,yg k];simp[JL.app_nil]
       clear k;go_wp2_with fail;refine (uh HE).mono ?_;rintro e w8 ⟨rfl,r8,Z⟩;have hs8:=Z.size;have R8:=zb r8;have A8:=zb ((Z.block w.heap.size (by omega) (by omega)).trans (uh A7));have O8:=zb (Ke (uh O7) Z (show rb<w.heap.size+1 by omega));have K8:=zb ((uh K7).trans Z);have Q8:Hid (qo f=false->ZX f=false->Zl w8 (AS w.heap.size x w8) f I):=fun a b=>Zl.keep (fun b hb=>Z.block b hb.2.1 (by have:=hb.1;omega)) (fun b hb=>⟨hb.1,by have:=hb.2.1;omega,hb.2.2⟩) f I (uh Q7 a b);clear HE r8 Z A7 O7 K7 Q7 R7;go_wp2;go_ret;refine⟨uh K8,?_⟩;rw[uh R];refine⟨_,_,rfl,by simp only[zY,zy];exact uh R8,fun a b=>?_⟩;rw[zi];simp only[zY]at a;simp only[zy]at b;exact⟨w.heap.size,x,I,rfl,⟨ye _,by omega⟩,uh A8,⟨qT (uh O8) (yt _),fun g hg=>⟨by have:=((uh O8).lt g hg).1;omega,((uh O8).lt g hg).2⟩⟩,Zl.keep (fun _ _=>rfl) (fun b hb=>⟨by have:=hb.1;omega,hb.2.1⟩) f I (uh Q8 a b)⟩
      ·have HE:=zb (Kg rb s j _ _ z (uh R7) (by omega) hj 93 (.inl k));have R:Hid (val s i=none):=by
        show _=_
        rw[uh HR,uh M,yf k];rfl
       clear k;go_wp2_with fail;refine (uh HE).mono ?_;rintro e w8 ⟨rfl,Z⟩;exact⟨rfl,(uh K7).trans Z,by rw[uh R];rfl⟩
theorem zaZ(rb:Nat)(s:Bs)(hs:s.size<=100000)(B:Nat)(hB:B<=rb):∀ (n i:Nat) (tb kt:Bool) (w:Wo),s.size - i<=n->zo rb s i tb kt w->i<=s.size->qJ B w->Qr B w ->
  Calls prog 127 #[.pointer (some ⟨rb,0,none⟩)] w (JR rb s tb kt w ((val s (sk s i)).map fun q=>(q.1,sk s q.2))):=by
 intro n;induction n with
 | zero=>
  intro i tb kt w v h d p o;have r:=h.lt;have g:=Ze s i;refine Lp rb s i tb kt w h hs d fun w1 r1 k1=>Lo rb s (sk s i) tb kt w1 r1 hs (QV d).2 B (p.next (k1.below hB (by omega)) (ye _)) (o.next (k1.below hB (by omega)) (ye _)) hB ?_ ?_
  ·intro k f a b;have:=zZ (s:=s) (i:=sk s i) (by omega);omega
  ·intro k f a b;have:=zZ (s:=s) (i:=sk s i) (by omega);omega
 | succ n ih=>
  intro i tb kt w v h d p o;have r:=h.lt;have g:=Ze s i;refine Lp rb s i tb kt w h hs d fun w1 r1 k1=>?_;have l:=p.next (k1.below hB (by omega)) (ye _);have m:=o.next (k1.below hB (by omega)) (ye _);have x:=k1.size;refine Lo rb s (sk s i) tb kt w1 r1 hs (QV d).2 B l m hB ?_ ?_
  ·intro k f a b;have u:=a.size;refine zaY rb s (sk s i) tb kt k f hs b fun j tb' kt' w3 hj hjs r3 k3=>?_;exact ih j tb' kt' w3 (by omega) r3 hjs (l.next ((a.trans k3).below hB (by omega)) (ye _)) (m.next ((a.trans k3).below hB (by omega)) (ye _))
  ·intro k f a b;have u:=a.size;refine zaX rb s (sk s i) tb kt k f hs b B (l.next (a.below hB (by omega)) (ye _)) hB fun j tb' kt' w3 hj hjs r3 k3=>?_;exact ih j tb' kt' w3 (by omega) r3 hjs (l.next ((a.trans k3).below hB (by omega)) (ye _)) (m.next ((a.trans k3).below hB (by omega)) (ye _))
end Go.Proofs.YtekpghcckdjnhaaGreatDoor
namespace Go.Proofs.YtekpghcckdjnhaaGreatDoor
open Go.RowKit Go.Lib Go.Proofs.Tryz
structure VR(w:Wo)(a:Option Addr)(g off:Nat)(xs:List Value):Prop where
 ad:0<xs.length->a=some ⟨g,off,none⟩
 cell:∀ j (h:j<xs.length),w.cell? ⟨g,off+j,none⟩=some xs[j]
theorem VR.below{w w':Wo}{a:Option Addr}{g off:Nat}{xs:List Value}(h:VR w a g off xs)(hb:Bw w w'):VR w' a g off xs:=
 ⟨h.ad,fun j hj=>(hb.cell (p:=⟨g,off+j,none⟩) (yJ _ _ (h.cell j hj))).trans (h.cell j hj)⟩
theorem Lx {w:Wo} {ops:Array Oper} {rest:List Oper} {o:Oper} {ac:Act} {Q:Exit->Act->Wo->Prop} (hg:o.guard=none) (s x:Operand)
  (ho:o.op= .call {callee:=.builtin .append,args:=#[s,x],argTypes:=#[153,153]}) {B:Nat} {v:Value} {xs us:List Value} {a:Option Addr} {g off cap:Nat} (hs:ac.eval s=v) (hx:ac.eval x= .slice a us.length cap)
  (h:w.ownsRow B 66 1 v xs.length xs) (k:VR w a g off us) (hcap:a=none->cap=0) (h1:∀ u∈us,u.oneCell'=true) (hB:B<=w.heap.size) (hl:xs.length+us.length<=1000000)
  (hK:∀ v' w',w'.ownsRow B 66 1 v' (xs.length+us.length) (xs++us)->w.grownBy w' v.ownBlock->wpList prog ops Q rest (ac.put o.dst v') w'):wpList prog ops Q (o :: rest) ac w:=by
 obtain⟨q,n,i,l,m⟩:=info_parts NA
 cases a with
 | none=>
  have d:us=[]:=by
   cases us with
   | nil=>rfl
   | cons u r=>have:=k.ad (by simp);cases this
  subst d;obtain rfl:=hcap rfl;refine wpList_append_own_none hg s x 153 ho B 66 q 1 underlying153 n v _ _ hs h hx ?_;exact hK v w (by rw[yS];exact h) (World.grownBy.refl _ _)
 | some ad=>
  have b:∀ j u,us[j]?=some u->w.cell? (ad.add j)=some u:=fun j u hu=>by
   obtain⟨p,e⟩:=List.getElem?_eq_some_iff.1 hu;have d:=k.ad (Nat.lt_of_le_of_lt (yt j) p);have f:ad=⟨g,off,none⟩:=Option.some.inj d;rw[← e,f,Addr.add_lit];exact k.cell j p
  refine wpList_append_own _ hg s x 153 ho B 66 q .nilIface 1 16 underlying153 n i l m rfl (by decide) v _ _ hs h ad us.length cap us hx (by simp) b h1 (by unfold maxLen;omega) (by omega) hB ?_;intro v' w' y z _;exact hK v' w' y z
theorem za0(n:Nat)(w:Wo)(hn:n<=1000000):
  Calls prog 282 #[.slice none 0 0,.int .i64 (n:Int)] w fun e w'=>∃ r,e= .returned r/\w'.ownsRow w.heap.size 66 1 r 0 []/\Bw w w':=by
 obtain⟨j,g,i,u,d⟩:=info_parts NA;by_cases q:n=0
 ·subst q;go_in;go_wp2;go_ret;exact⟨_,rfl,World.ownsRow_nil w w.heap.size 66 1,yH _ _⟩
 ·have m:(0:Int)<(n:Int):=by omega
  have s:¬ (n:Int)<0:=by omega
  have hold:(Builtin.firstCells j.size 0 (.slice none 0 0)).run prog w.drew= .ok (([]:List Value).toArray) w.drew:=run_firstCells_none w.drew j.size 0 0 0;have b:∀ ty,(Builtin.append_ #[153,3] ty #[.slice none 0 0,.int .i64 (n:Int)]).run prog w=
    .ok (.slice (some ⟨w.heap.size,0,none⟩) n (grownCap w n 0 66)) (w.drew.alloc (.cells (([]:List Value).toArray++Builtin.zeroCells (Value.nilIface).cells n++Builtin.zeroCells (Value.nilIface).cells (grownCap w n 0 66 - n)) 66)):=fun ty=>by
   have h:=Lib.run_append_grow_zeros w 153 3 ty 66 j .nilIface .i64 .i64 underlying153 underlying3 g i none 0 0 [] hold n (by omega) (by omega) (by omega) (by omega)
    (by rw[d];omega)
    (by rw[Nat.zero_add];exact growslice_fits (by omega) (by rw[d];omega))
   rw[Nat.zero_add]at h;exact h
  have f:n<=grownCap w n 0 66:=grownCap_ge w _ _ _;have a:grownCap w n 0 66<=maxLen:=grownCap_le_maxLen w n 0 66 (by unfold maxLen;omega);obtain⟨G,k⟩:∃ G,G=grownCap w n 0 66:=⟨_,rfl⟩;rw[← k]at b f a;have l:G<=9223372036854775807:=by unfold maxLen at a;omega
  have p:Hid ((w.alloc (.cells (Builtin.zeroCells #[Value.nilIface] n++Builtin.zeroCells #[Value.nilIface] (G - n)) 66)).drew.ownsRow w.heap.size 66 1 (.slice (some ⟨w.heap.size,0,none⟩) 0 G) 0 []):=by
   refine⟨rfl,.inr ⟨w.heap.size,G,_,rfl,ye _,yG w _,yt _,a,?_,rfl⟩⟩;rw[Array.size_append,size_zeroCells,size_zeroCells];simp;omega
  have o:Hid (Bw w (w.alloc (.cells (Builtin.zeroCells #[Value.nilIface] n++Builtin.zeroCells #[Value.nilIface] (G - n)) 66)).drew):=((yH _ _).alloc (ye _) _).drew;clear hold k;go_in;go_wp2_with (at_builtin;refine Lib.wpList_append_run _ rfl _ _ _ _ rfl _ _ rfl rfl _ _ (b _) ?_)
  all_goals (go_ret;exact⟨_,rfl,uh p,uh o⟩)
structure VS where
 a:Option Addr
 g:Nat
 off:Nat
 cap:Nat
 us:List Value
def VS.Ok(w:Wo)(s:VS):Prop:=VR w s.a s.g s.off s.us/\(∀ u∈s.us,u.oneCell'=true)/\(s.a=none->s.cap=0)
def qv(L:List VS):List Value:=L.flatMap VS.us
theorem XP{L:List VS}{k:Nat}(h:k<L.length):qv (L.take (k+1))=qv (L.take k)++L[k].us:=by
 unfold qv;rw[yy h,List.flatMap_append,List.flatMap_singleton]
theorem Ly{L:List VS}{k:Nat}(h:k<L.length):(qv (L.take k)).length+L[k].us.length<=(qv L).length:=by
 have e:L=L.take (k+1)++L.drop (k+1):=(List.take_append_drop _ _).symm;have:(qv L).length=(qv (L.take (k+1))).length+(qv (L.drop (k+1))).length:=by
  unfold qv;rw[← yh,← List.flatMap_append,← e]
 rw[this,XP h,yh];omega
theorem Lz(L:List VS)(gb:Nat)(w:Wo)(hc:∀ j (h:j<L.length),w.cell? ⟨gb,j,none⟩=some (.slice L[j].a L[j].us.length L[j].cap))(hok:∀ s∈L,VS.Ok w s)(hl:(qv L).length<=1000000)(hn:L.length<=1000):
  Calls prog 267 #[.slice (some ⟨gb,0,none⟩) L.length L.length] w fun e w'=>∃ r,e= .returned r/\w'.ownsRow w.heap.size 66 1 r (qv L).length (qv L)/\Bw w w':=by
 have u:=zb hc;have A:=zb hok;clear hc hok;go_in;go_wp2;go_loopw [3,11] (fun z i wr=>∃ k:Nat,k<=L.length/\z= .int .i64 ((qv (L.take k)).length:Int)/\i= .int .i64 (k:Int)/\w=wr) (fun _ i _=>L.length - (RowKit.intOf i).toNat)
 case atStart=>exact⟨0,yt _,by simp[qv],rfl,rfl⟩
 case round=>
  obtain⟨k,Q,rfl,rfl,rfl⟩:=hrel;by_cases a:k<L.length
  ·have m:(k:Int)<(L.length:Int):=by omega
   have I:=uh u k a;have R:=Ly a;have J:Hid (qv (L.take (k+1))=qv (L.take k)++L[k].us):=XP a;have T:¬ ((qv (L.take k)).length:Int)+(L[k].us.length:Int)<0:=by omega
   generalize hP:(qv (L.take k)).length=P at *;generalize hU:L[k].us.length=U at *;have O:=zb (show (qv (L.take (k+1))).length=P+U by rw[uh J,yh,hP,hU]);clear hP hU J;go_wp2;go_roundw
   case rel=>exact⟨k+1,by omega,by rw[uh O];go_num,by go_num,trivial⟩
   case measure=>simp[RowKit.intOf];omega
  ·have d:L.take k=L:=yq (by omega);have E:¬ (k:Int)<(L.length:Int):=by omega
   rw[d];have G:=zb (za0 (qv L).length w (by omega));go_wp2_with fail;refine (uh G).mono ?_;rintro e V ⟨r,rfl,N,H⟩;have x:=zb N;have o:=zb H;clear G N H;go_wp2;go_loopw [6,27] (fun r i wr=>∃ k:Nat,k<=L.length/\i= .int .i64 (k:Int)/\wr.ownsRow w.heap.size 66 1 r (qv (L.take k)).length (qv (L.take k))/\Bw w wr) (fun _ i _=>L.length - (RowKit.intOf i).toNat)
   case atStart=>exact⟨0,yt _,rfl,by simpa [qv]using uh x,uh o⟩
   case round=>
    obtain⟨k,Q,rfl,n,f⟩:=hrel;have l:=f.size;have g:=zb f;have v:=zb n;by_cases a:k<L.length
    ·have m:(k:Int)<(L.length:Int):=by omega
     have I:=(f.cell (p:=⟨gb,k,none⟩) (yJ _ _ (uh u k a))).trans (uh u k a);have R:=Ly a;have C:=zb (uh A L[k] (yr a));have D:=zb ((uh C).1.below f);clear f n;go_wp2_with (at_builtin;refine Lx rfl (.tmp 31) (.tmp 32) rfl rfl rfl (uh v) (uh D) (uh C).2.2 (uh C).2.1 l (by omega) ?_);intro S W F M;have q:=zb ((uh g).grown M l (fun b f=>((uh v).lt b f).1));have K:(qv (L.take k)).length+L[k].us.length=(qv (L.take (k+1))).length:=by rw[XP a,yh]
     rw[← XP a,K]at F;have y:=zb F;clear F M I K;go_wp2;go_roundw
     case rel=>exact⟨k+1,by omega,by go_num,uh y,uh q⟩
     case measure=>simp[RowKit.intOf];omega
    ·have E:¬ (k:Int)<(L.length:Int):=by omega
     have d:L.take k=L:=yq (by omega);rw[d]at n;have B:=zb n;clear f n v d;go_wp2;go_ret;exact⟨_,rfl,uh B,uh g⟩
theorem za1(a:Addr)(g off cap:Nat)(us:List Value)(w:Wo)(hv:VR w (some a) g off us)(h1:∀ u∈us,u.oneCell'=true)(hl:us.length<=1000000):
  Calls prog 271 #[.slice (some a) us.length cap] w fun e w'=>∃ r,e= .returned r/\w'.ownsRow w.heap.size 66 1 r us.length us/\Bw w w':=by
 have s:=zb hv;have o:=zb h1;clear hv h1;have q:∀ (w:Wo) (a:Option Addr) (n c n' c':Nat),(binOp .eql 153 (.slice a n c) (.slice none n' c')).run prog w= .ok (.bool a.isNone) w:=fun w a n c n' c'=>Lib.run_eql_slice_nil w _ _ a n c n' c' underlying153;have j:Hid (Bw w (w.alloc (.cells #[] 66))):=(yH _ _).alloc (ye _) _;have p:Hid ((w.alloc (.cells #[] 66)).ownsRow w.heap.size 66 1 (.slice (some ⟨w.heap.size,0,none⟩) 0 0) ([]:List Value).length []):=World.ownsRow_made w #[] 0 (ye _) (yt _) rfl;have l:Hid (w.heap.size<=(w.alloc (.cells #[] 66)).heap.size):=by show _<=_;simp
 go_in;go_wp2_with (at_builtin;refine Lx rfl (.tmp 5) (.tmp 6) rfl rfl rfl (uh p) ((uh s).below (uh j)) (fun h=>by cases h) (uh o) (uh l) (by simp;omega) ?_);intro m x d b;have f:=zb ((uh j).grown b (uh l) (by intro k v;simp[Value.ownBlock]at v;omega));have i:Hid (x.ownsRow w.heap.size 66 1 m us.length us):=zb (by simpa using d);clear d b;go_wp2;go_ret;exact⟨m,rfl,uh i,uh f⟩
end Go.Proofs.YtekpghcckdjnhaaGreatDoor
