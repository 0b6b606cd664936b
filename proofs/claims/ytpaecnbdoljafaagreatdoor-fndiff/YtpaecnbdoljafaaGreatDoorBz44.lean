import Derived.Shelf.SlMaps.Clone
import Derived.Test.YtpaecnbdoljafaaGreatDoorBz42
import Derived.Test.YtpaecnbdoljafaaGreatDoorBz43
import Derived.Test.YtpaecnbdoljafaaGreatDoorBz16
set_option maxRecDepth 100000
set_option maxHeartbeats 8000000
namespace Go.Proofs.YtpaecnbdoljafaaGreatDoor
open Go.RowKit Go.Proofs.Tryz
theorem CU(b n:Nat)(D:DataW Value)(w:Wo)(hown:w.ownsMap prog 9 RH b n D):
  Calls prog 261 #[.map (some b)] w fun e w'=>e= .returned (.map (some w.heap.size))/\w'.ownsMap prog 9 RH w.heap.size n D/\Bw w w':=by
 have j:=hown.lt;obtain⟨d,a,i,F,h,g⟩:=hown;have k:=fun w=>run_eql_map_nil_sl (P:=prog) w 172 _ _ (some b) underlying172;have f:Hid ((w.alloc (.map d a)).ownsMap prog 9 RH w.heap.size n D/\Bw w (w.alloc (.map d a))):=⟨⟨d,a,(MapKept.heap_alloc w _).1,F,h,g⟩,(yI _ w).alloc (ye _) _⟩;clear F h g;go_in;go_wp2;rw[run_callFunc_extern func279 (by kernel_rfl) (by kernel_rfl) (by kernel_rfl) (e:=Extern.MapsClone.clone) (by kernel_rfl),run_maps_clone_sl w 172 i];simp only[Result.andThen];rw[Oper.upon_value];go_wp2;rw[run_typeAssert_map_sl _ 172 _ _ _ _ underlying172];simp only[Result.andThen];rw[Oper.upon_value];go_wp2;go_ret;exact⟨rfl,(uh f).1,(uh f).2⟩
theorem zeM{w:Wo}{b n:Nat}{xs:List (List UInt8×Value)}(h:w.ownsMap prog 9 RH b n (zZ xs))(hn:n<=10000000)(key:List UInt8)(hk:key.length<=1048576)(v:Value):
  ∃ w',(Instr.mapUpdate 172 (.map (some b)) (.string (zh key)) v).run prog w= .ok () w'/\w'.ownsMap prog 9 RH b (n+1) (zZ (xs++[(key,v)]))/\w.grownBy w' (some b):=by
 obtain⟨w',a,d,f⟩:=h.update (Maps.string_keyed underlying9) underlying172 (by unfold maxLen;omega) (Rn key hk) (show RH v=some (.held v,[])from rfl);exact⟨w',a,by rw[Ga];exact d,f⟩
def CV(w:Wo)(xs:List (List UInt8×Value))(e:Ending)(w':Wo):Prop:=∃ ob b n,e= .returned (.pointer (some ⟨ob,0,none⟩))/\Bw w w'/\ob<w'.heap.size/\b<w'.heap.size/\w'.heap[ob]?=some (.cells #[.map (some b)] 175 (0,0))/\w'.ownsMap prog 9 RH b n (zZ xs)
theorem CY(ob b n:Nat)(xs:List (List UInt8×Value))(t:List UInt8)(v:Value)(w:Wo)(hob:w.heap[ob]?=some (.cells #[.map (some b)] 175 (0,0)))(hown:w.ownsMap prog 9 RH b n (zZ xs))(hn:n<=10000000)(ht:t.length<=1048576):
  Calls prog 260 #[.pointer (some ⟨ob,0,none⟩),.string (zh t),v] w (CV w (xs++[(t,v)])):=by
 have l:=ze (CU b n _ w hown);have c0:w.cell? ⟨ob,0,none⟩=some (.map (some b)):=yG hob 0;clear hob hown;go_in;go_wp2_with fail;refine (uh l).mono ?_;rintro e x ⟨rfl,j,h⟩;have q:=j.lt;obtain⟨s,m,o,i⟩:=zeM j hn t ht v;have a:Bw w s:=h.grown i h.size (fun k hk=>by injection hk with hk;omega);have r:=i.size;generalize hB:w.heap.size=B at *;have f:=ze hB;clear hB;have g:=ze o;have d:=ze a;clear l j h o i a c0;generalize zh t=u at *;go_wp2;go_ret;refine⟨_,_,_,rfl,(by have p:=uh f;exact ((uh d).mono (by omega)).alloc (by omega) _),?_,?_,yH _ _,(uh g).alloc _⟩
 all_goals simp
 all_goals omega
theorem Om(m:JM):Ql m=m.toL.map (·.1):=Qs m
theorem CZ(t:List UInt8)(u:JV):∀ m:JM,JM.ofL (m.toL++[(t,u)])=m.app (.cons t u .nil)
 | .nil=>rfl
 | .cons k v r=>by
  show JM.ofL ((k,v) ::(r.toL++[(t,u)]))= .cons k v (r.app (.cons t u .nil))
  rw[JM.ofL,CZ t u r]
theorem C3 {w w1:Wo} {m:JM} {xs:List (List UInt8×Value)} {t:List UInt8} {u:JV} {y:Value} {ob b n:Nat} (hb:Bw w w1) (hm:Zt w (fun k=>k<w.heap.size) m xs) (hd:(m.toL.map (·.1)).Nodup) (hu:zk w (fun k=>k<w.heap.size) u y)
  (h1:ob<w1.heap.size) (h2:b<w1.heap.size) (h3:w1.heap[ob]?=some (.cells #[.map (some b)] 175 (0,0))) (h4:w1.ownsMap prog 9 RH b n (zZ (xs++[(t,y)]))):
  zS w1 (if (zn (.obj m) t).isSome then Zs (.obj m) t u else .obj (JM.ofL (m.toL++[(t,u)]))) (.iface 173 (.pointer (some ⟨ob,0,none⟩))):=by
 have a:xs.map (·.1)=m.toL.map (·.1):=by rw[(YB m xs hm).1,Om]
 have j:(xs.map (·.1)).Nodup:=by rw[a];exact hd
 have d:Zt w1 (fun k=>k<w1.heap.size) m xs:=Zt.keep (fun k a=>hb.block k a) (fun _ a=>yF a hb.size) _ _ hm;have g:zk w1 (fun k=>k<w1.heap.size) u y:=zk.keep (fun k a=>hb.block k a) (fun _ a=>yF a hb.size) _ _ hu;have f:(zn (.obj m) t).isSome=true↔t∈xs.map (·.1):=by
  rw[a,Qb,Option.isSome_map,List.find?_isSome];constructor
  ·rintro⟨q,l,e⟩;exact yP.2 ⟨q,l,by simpa using e⟩
  ·intro h;obtain⟨q,l,e⟩:=yP.1 h;exact⟨q,l,by simpa using e⟩
 by_cases i:(zn (.obj m) t).isSome=true
 ·rw[yg i];show zk w1 _ (.obj (JM.ofL (m.toL.map fun q=>if q.1=t then (q.1,u)else q))) _
  rw[zeD j (f.1 i)]at h4;rw[zk];refine⟨ob,b,_,_,rfl,h1,h2,h3,Sr h4,ye _,?_⟩;refine Sm t g _ _ ?_;rw[JM.ofL_toL];exact d
 ·rw[yf i];show zk w1 _ (.obj (JM.ofL (m.toL++[(t,u)]))) _
  rw[zk];refine⟨ob,b,_,_,rfl,h1,h2,h3,Sr h4,ye _,?_⟩;rw[CZ];refine Zt.app _ _ _ _ d ?_;rw[Zt];exact⟨y,[],rfl,g,by rw[Zt]⟩
theorem Sv{w:Wo}{S:Nat->Prop}{l:JL}{xs:List Value}(h:Zi w S l xs):∀ u∈xs,u.oneCell'=true:=fun u hu=>by
 obtain⟨j,b,rfl⟩:=List.getElem_of_mem hu;obtain⟨d,a⟩:=QY l xs h;obtain⟨t,p,e⟩:=Qe (a j b (by omega));rw[e];rfl
theorem Sw{w w1:Wo}{L:List JV}{xs:List Value}{r:Value}{n:Nat}(hb:Bw w w1)(ho:w1.ownsRow w.heap.size 61 1 r n xs)(hn:n=xs.length)(hl:Zi w (fun k=>k<w.heap.size) (JL.ofL L) xs):
  zS (w1.alloc (.cells #[r] 105)) (.arr (JL.ofL L)) (.iface 102 (.pointer (some ⟨w1.heap.size,0,none⟩))):=by
 subst hn;have a:=zY w1 (.cells #[r] 105);have f:=a.size;have b:w1.heap.size<(w1.alloc (.cells #[r] 105)).heap.size:=by simp
 show zk _ _ _ _
 rw[zk];refine⟨w1.heap.size,r,xs,rfl,b,yH _ _,⟨QO (Zd ho a) (yu _),fun g hg=>?_⟩,?_⟩
 ·have:=(ho.lt g hg).2;omega
 ·have d:=zi hb a;exact Zi.keep (fun k hk=>d.block k hk) (fun _ hk=>yF hk d.size) _ _ hl
theorem On{l:JL}{N:Nat}(h:(ct (.arr l)).length<=N):l.toL.length<=N:=by
 have:=Ur l;have a:l.toL.length<=hold l.toL.length:=by unfold hold;omega
 have:=Nat.le_add_right (hold l.toL.length) ((l.toL.map fun v=>(ct v).length).sum);omega
theorem C4{m:JM}{N:Nat}(h:(ct (.obj m)).length<=N):m.toL.length<=N:=by
 have:=Jm m;have a:m.toL.length<=hold m.toL.length:=by unfold hold;omega
 have:=Nat.le_add_right (hold m.toL.length) ((m.toL.map Zo).sum);omega
theorem zeN(v u c:JV)(t:List UInt8)(w:Wo)(ty ty':TypeId)(p p':Value)(hv:zo v)(hc:zn v t=some c)(ht:t.length<=1048576)(hl:(ct v).length<=1000000)(hr:zS w v (.iface ty p))(hu:zS w u (.iface ty' p')):
  Calls prog 239 #[.iface ty p,.string (zh t),.iface ty' p'] w fun e w'=>Bw w w'/\∃ t' q,e= .returned (.iface t' q)/\zS w' (Zs v t u) (.iface t' q):=by
 cases v with
 | arr l=>
  have f:=hr;unfold zS at f;rw[zk]at f;obtain⟨ab,sv,y,h,hSab,P,H,C⟩:=f;injection h with h1 h2;subst h1;subst h2;obtain⟨a,g,O,rfl,E,A⟩:=J1 H;obtain⟨B,_⟩:=QY l y C;rw[ql]at hc;obtain⟨i,hx,R⟩:=Option.bind_eq_some_iff.1 hc;have hil:i<y.length:=by rw[B];exact (List.getElem?_eq_some_iff.1 R).1
  obtain⟨rfl,hSg⟩:=E (by omega);have F:=On hl;have hc0:w.cell? ⟨ab,0,none⟩=some (.slice (some ⟨g,0,none⟩) y.length O):=by rw[yG P];rfl
  have t1:∀ w:Wo,(Instr.typeAssert (.iface 102 (.pointer (some ⟨ab,0,none⟩))) 61 102 true).run prog w= .ok (.tuple #[.pointer (some ⟨ab,0,none⟩),.bool true]) w:=fun _=>by kernel_rfl
  have T:=FY (zh t) w (by rw[zN];exact ht);rw[Za]at T;have e0:JJ t= .tuple #[.int .i64 (i:Int),.bool true]:=by unfold JJ;rw[hx]
  rw[e0]at T;have N:=ze T;have HC:=ze (zb7 ⟨g,0,none⟩ g 0 O y w ⟨fun _=>rfl,fun j hj=>by rw[Nat.zero_add];exact A j hj⟩ (Sv C) (by omega));have o:Hid (∀ (d:Wo) (r:Value),Bw w d->d.ownsRow w.heap.size 61 1 r y.length (y.set i (.iface ty' p'))->zS (d.alloc (.cells #[r] 105)) (Zs (.arr l) t u) (.iface 102 (.pointer (some ⟨d.heap.size,0,none⟩)))):=fun d r hb ho=>by
   have e:Zs (.arr l) t u= .arr (JL.ofL (l.toL.set i u)):=by simp only[Zs,hx]
   rw[e];exact Sw hb ho (by simp) (zeB (by omega) (by rw[JL.ofL_toL];exact C) hu)
  have hiI:(i:Int)<(y.length:Int):=by omega
  rw[← B]at F;clear hr hu hx hc R H A C T e0 hv hl P E B;generalize zh t=st at *;go_in;go_wp2_with fail;refine (uh N).mono ?_;rintro e d ⟨rfl,rfl⟩;clear N;go_wp2_with fail;refine (uh HC).mono ?_;rintro e d ⟨r,rfl,M,J⟩;obtain⟨D,s,rfl⟩:∃ D s,r= .slice (some ⟨D,0,none⟩) y.length s:=by
   rcases M.2 with ⟨_,h0⟩ |⟨D,s,cur,hv,_⟩
   ·omega
   ·exact⟨D,s,hv⟩
  have L:=M.stored i (.iface ty' p');have hfz:=M.frozenAt i;have hge:=(M.lt D rfl);have hcl:∃ x,d.cell? ⟨D,i,none⟩=some x:=⟨_,by
   have:=World.ownsRow.cells M rfl i y[i] (yy hil);rw[Addr.add_lit,Nat.zero_add]at this;exact this⟩
  obtain⟨x0,hcx⟩:=hcl;have Q:Bw w (d.setCell ⟨D,i,none⟩ (.iface ty' p')):=J.grown L.2 J.size (fun k hk=>by injection hk with hk;omega);have I:=ze Q;have Z:=ze L.1;clear HC M J L Q;go_wp2;go_ret;exact⟨(uh I).alloc (by have:=(uh I).size;omega) _,_,_,rfl,(by have h:=uh o _ _ (uh I) (uh Z);rw[show (d.setCell ⟨D,i,none⟩ (Value.iface ty' p')).heap.size=d.heap.size by simp]at h;exact h)⟩
 | obj m=>
  have f:=hr;unfold zS at f;rw[zk]at f;obtain⟨Y,mb,nn,y,h,hSob,hSmb,S,G,hnn,K⟩:=f;injection h with h1 h2;subst h1;subst h2;have hd:=((qq m).1 hv).1;have B:y.length=m.toL.length:=by have:=congrArg List.length (YB m y K).1;rw[Om]at this;simpa using this
  have F:=C4 hl;have t1:∀ w:Wo,(Instr.typeAssert (.iface 173 (.pointer (some ⟨Y,0,none⟩))) 61 102 true).run prog w= .ok (.tuple #[.pointer none,.bool false]) w:=fun _=>by kernel_rfl
  have t2:∀ w:Wo,(Instr.typeAssert (.iface 173 (.pointer (some ⟨Y,0,none⟩))) 61 173 true).run prog w= .ok (.tuple #[.pointer (some ⟨Y,0,none⟩),.bool true]) w:=fun _=>by kernel_rfl
  have HW:=ze (CY Y mb nn y t (.iface ty' p') w S G (by omega) ht);have o:Hid (∀ (d:Wo) (z b n:Nat),Bw w d->z<d.heap.size->b<d.heap.size->d.heap[z]?=some (.cells #[.map (some b)] 175 (0,0))->d.ownsMap prog 9 RH b n (zZ (y++[(t,.iface ty' p')]))->zS d (Zs (.obj m) t u) (.iface 173 (.pointer (some ⟨z,0,none⟩)))):=fun d z b n hb U V W X=>by
   have:=C3 hb K hd hu U V W X;rw[hc]at this;exact this
  clear hr hu hc G K hv hl S hd B;generalize zh t=st at *;go_in;go_wp2_with fail;refine (uh HW).mono ?_;rintro e d ⟨z,b',n',rfl,J,U,V,W,X⟩;have HF:=ze (uh o d z b' n' J U V W X);have HB:=ze J;clear HW J U V W X o;go_wp2;go_ret;exact⟨uh HB,_,_,rfl,uh HF⟩
 | _=>cases hc
def Ve(fid:FuncId):Prop:=∀ (args:Array Value) (w:Wo),Sem.run prog (callFunc fid args) w= .ok (.enter fid args) w
theorem zeO:Ve 235:=fun args w=>by simp[callFunc,go_sem,func235,Result.andThen];rfl
theorem zeP:Ve 237:=fun args w=>by simp[callFunc,go_sem,func237,Result.andThen];rfl
theorem zeQ:Ve 212:=fun args w=>by simp[callFunc,go_sem,func212,Result.andThen];rfl
def W2(w0:Wo)(fid:FuncId)(caps:Array Value)(f:JV->Option JV):Prop:=
 ∀ (wx:Wo) (h:JV) (ty:TypeId) (p:Value),Bw w0 wx->zo h->(ct h).length<=500000->zS wx h (.iface ty p) ->
  Calls prog fid (#[.iface ty p]++caps) wx (Zj wx (ZS 3 (f h)))
theorem W2.next{w0 w1:Wo}{fid:FuncId}{caps:Array Value}{f:JV->Option JV}(h:W2 w0 fid caps f)(hb:Bw w0 w1):W2 w1 fid caps f:=
 fun wx v ty p hx=>h wx v ty p (zi hb hx)
theorem Oo(fid:FuncId)(hent:Ve fid)(caps:Array Value)(f:JV->Option JV):∀ (ts:List (List UInt8)) (v:JV) (a:Option Addr) (g off cap:Nat) (w:Wo) (ty:TypeId) (p:Value),W2 w fid caps f->zo v->(ct v).length<=500000->zS w v (.iface ty p)->SS w a g off (ts.map zH)->ts.length<=cap->cap<=9223372036854775807->(∀ t∈ts,t.length<=1048576) ->
  Calls prog 211 #[.iface ty p,.slice a ts.length cap,.func (Fn.func fid) #[] caps] w (Zj w (ZS 3 (ZO f v ts)))
 | [],v,a,g,off,cap,w,ty,p,hF,hv,hl,hr,hs,hcap,hcap2,ht=>by
  have HF:=ze (hF w v ty p (yI _ _) hv hl hr);rw[zai];have S:∀ (w:Wo),Sem.run prog (callFunc fid (#[.iface ty p]++caps)) w= .ok (.enter fid (#[.iface ty p]++caps)) w:=fun w=>hent _ w;clear hF hr hs hv hent;go_in;go_wp2_with fail;refine (uh HF).mono ?_;rintro e M ⟨K,⟨c,G,b,rfl,l⟩ |⟨u,n,q,b,rfl,l⟩⟩
  ·have o:Hid (Zj w (ZS 3 (f v)) (.returned (.tuple #[.nilIface,G])) M):=⟨K,.inl ⟨c,G,b,rfl,l⟩⟩;obtain⟨fb,rfl,_⟩:=l;clear HF K b;go_wp2;go_ret2;exact uh o
  ·have o:Hid (Zj w (ZS 3 (f v)) (.returned (.tuple #[.iface n q,.nilIface])) M):=⟨K,.inr ⟨u,n,q,b,rfl,l⟩⟩;clear HF K b l;go_wp2;go_ret2;exact uh o
 | t :: ts,v,a,g,off,cap,w,ty,p,hF,hv,hl,hr,hs,hcap,hcap2,ht=>by
  have J:t.length<=1048576:=ht t (by simp);obtain rfl:=hs.ad (by simp);have B:w.cell? ⟨g,off,none⟩=some (.string (zh t)):=by
   have:=hs.cell 0 (by simp);rw[Nat.add_zero]at this;rw[this];simp[zH,zh]
  have T:g<w.heap.size:=yK _ _ B;have z:Hid (∀ a',(0<ts.length->a'=some ⟨g,off+1,none⟩)->SS w a' g (off+1) (ts.map zH)):=fun a' ha=>⟨fun h=>ha (by simpa using h),fun j hj=>by
   have:=hs.cell (j+1) (by simpa using hj);rw[show off+(j+1)=off+1+j by omega]at this;rw[this];simp⟩
  have HC:=ze (RV v hv.tw t J ty p w _ hr);have U:¬ ((ts.length:Int)+1=0):=by omega
  simp only[yp]at hcap ⊢
  cases hc:zn v t with
  | none=>
   have O:Hid (ZO f v (t :: ts)=none):=zaj hc;rw[hc]at HC;clear hF hv hr hs hent z ht hc;generalize zh t=Z at *;go_in;go_wp2_with fail;refine (uh HC).mono ?_;rintro e M ⟨rfl,⟨x,rfl,-⟩ |⟨x,u',rfl,A,-⟩⟩
   ·clear HC;go_wp2;go_ret2;exact⟨zY _ _,.inl ⟨3,_,by rw[uh O];rfl,rfl,_,rfl,yH _ _⟩⟩
   ·cases A
  | some c=>
   have H:(ct c).length<=500000:=by have:=(Y8 hc hv.ok hv.tw).2.2.1;omega
   have HR:Hid (∀ m D a' cap',zS w c (.iface m D)->(0<ts.length->a'=some ⟨g,off+1,none⟩)->ts.length<=cap'->cap'<=9223372036854775807->Calls prog 211 #[.iface m D,.slice a' ts.length cap',.func (Fn.func fid) #[] caps] w (Zj w (ZS 3 (ZO f c ts)))):=fun m D a' cap' hx b l L=>
    Oo fid hent caps f ts c a' g (off+1) cap' w m D hF (hv.child hc) H hx (uh z _ b) l L (fun x hx=>ht x (by simp[hx]))
   have P:Hid (∀ (d:Wo) u n q,Bw w d->zS d u (.iface n q)->Calls prog 239 #[.iface ty p,.string (zh t),.iface n q] d fun e w'=>Bw d w'/\∃ n q,e= .returned (.iface n q)/\zS w' (Zs v t u) (.iface n q)):=fun d u n q hb hx=>
    zeN v u c t d ty n p q hv hc J (by omega) (hr.next hb) hx
   have i:Hid (ZO f v (t :: ts)=(ZO f c ts).map (Zs v t)):=zak hc;have R:(ts.length:Int)+1<=(cap:Int):=by omega
   have r:Hid (∀ d,Bw w d->d.cell? ⟨g,off,none⟩=some (.string (zh t))):=fun d hb=>(hb.cell (p:=⟨g,off,none⟩) T).trans B;rw[hc]at HC;clear hF hv hr hs hent z ht hc hl H;generalize zh t=Z at *;go_in;go_wp2_with fail;refine (uh HC).mono ?_;rintro e M ⟨rfl,⟨x,rfl,A⟩ |⟨x,u',rfl,A,hx⟩⟩
   ·cases A
   ·injection A with A;subst A;obtain⟨m,D,rfl⟩:=Qe hx;have s:=ze (fun a' cap'=>uh HR m D a' cap' hx);clear HC HR hx;go_wp2_with fail
    all_goals refine (uh s _ _ (fun _=>by first | rfl |(exfalso;omega)) (by omega) (by omega)).mono ?_
    all_goals
     rintro e d ⟨C,⟨k,G,b,rfl,l⟩ |⟨u,n,q,b,rfl,l⟩⟩
     ·have W:ZS 3 (ZO f v (t :: ts))= .inl k:=by
       rw[uh i]
       cases I:ZO f c ts with
       | none=>rw[I]at b;exact b
       | some y=>rw[I]at b;cases b
      have o:Hid (Zj w (ZS 3 (ZO f v (t :: ts))) (.returned (.tuple #[.nilIface,G])) d):=⟨C,.inl ⟨k,G,W,rfl,l⟩⟩;obtain⟨fb,rfl,-⟩:=l;clear s P i r C b W;go_wp2;go_ret2;exact uh o
     ·have I:=Qc b;have F:=ze (uh P d u n q C l);have Q:=uh r d C;have o:Hid (ZO f v (t :: ts)=some (Zs v t u)):=by show _=_;rw[uh i,I];rfl
      have E:=ze C;clear s P i r C b l I B;go_wp2_with fail;refine (uh F).mono ?_;rintro e w3 ⟨V,Y,X,rfl,L⟩;have N:Hid (Zj w (ZS 3 (ZO f v (t :: ts))) (.returned (.tuple #[.iface Y X,.nilIface])) w3):=⟨zi (uh E) V,.inr ⟨_,Y,X,by rw[uh o];rfl,rfl,L⟩⟩;clear F o E V L Q;go_wp2;go_ret2;exact uh N
theorem C5{w:Wo}{S:Nat->Prop}{a:Option Addr}{n cap:Nat}{xs:List Value}(h:Yu w S (.slice a n cap) xs):xs.length<=cap/\cap<=9223372036854775807:=by
 rcases h.1.2 with ⟨b,k⟩ |⟨g,d,f,b,_,_,i,j,_⟩
 ·injection b with _ _ h3;subst h3;exact⟨by omega,by omega⟩
 ·injection b with _ _ h3;subst h3;exact⟨i,by unfold maxLen at j;omega⟩
theorem Xm{w:Wo}{B:Nat}{r:Value}{n:Nat}{xs:List Value}(h:w.ownsRow B 61 1 r n xs):∃ a c,r= .slice a n c:=by
 rcases h.2 with ⟨b,i⟩ |⟨g,d,f,b,_⟩
 ·exact⟨none,0,by rw[b,i]⟩
 ·exact⟨_,_,b⟩
theorem zeR{w:Wo}{b n:Nat}{xs:List (List UInt8×Value)}(h:w.ownsMap prog 9 RH b n (zZ xs))(hd:(xs.map (·.1)).Nodup)(key:List UInt8)(hk:key.length<=1048576)(ty:TypeId):
  ∃ w',(Builtin.delete_ #[172,9] ty #[.map (some b),.string (zh key)]).run prog w= .ok (.tuple #[]) w'/\w'.ownsMap prog 9 RH b n (zZ (xs.filter fun q=>!(q.1 ==key)))/\w.grownBy w' (some b):=by
 obtain⟨w',a,d,f⟩:=h.drop (Maps.string_keyed underlying9) underlying172 (Rn key hk) ty;exact⟨w',a,by rw[← zeE hd];exact d,f.grown⟩
theorem zeS(v:JV)(t:List UInt8)(w:Wo)(ty:TypeId)(p:Value)(hv:zo v)(ht:t.length<=1048576)(hl:(ct v).length<=1000000)(hr:zS w v (.iface ty p)):
  Calls prog 238 #[.iface ty p,.string (zh t)] w (Zj w (ZS 3 (QA v t))):=by
 have HC:=ze (RV v hv.tw t ht ty p w _ hr)
 cases hc:zn v t with
 | none=>
  have HNO:Hid (QA v t=none):=by show _=_;unfold QA;rw[hc];rfl
  rw[hc]at HC;clear hr hv hc hl;generalize zh t=st at *;go_in;go_wp2_with fail;refine (uh HC).mono ?_;rintro e y ⟨rfl,⟨x,rfl,-⟩ |⟨x,u',rfl,D,-⟩⟩
  ·clear HC;go_wp2;go_ret2;exact⟨zY _ _,.inl ⟨3,_,by rw[uh HNO];rfl,rfl,_,rfl,yH _ _⟩⟩
  ·cases D
 | some c=>
  have J:Hid (QA v t=some (ZU v t)):=by show _=_;unfold QA;rw[hc];rfl
  rw[hc]at HC
  cases v with
  | obj m=>
   have B:=hr;unfold zS at B;rw[zk]at B;obtain⟨ob,mb,nn,f,h,hSob,hSmb,ag,M,hnn,Q⟩:=B;injection h with h1 R;subst h1;subst R;have hd:=((qq m).1 hv).1;have Z:(f.map (·.1)).Nodup:=by rw[(YB m f Q).1,Om];exact hd
   have t1:∀ w:Wo,(Instr.typeAssert (.iface 173 (.pointer (some ⟨ob,0,none⟩))) 61 102 true).run prog w= .ok (.tuple #[.pointer none,.bool false]) w:=fun _=>by kernel_rfl
   have t2:∀ w:Wo,(Instr.typeAssert (.iface 173 (.pointer (some ⟨ob,0,none⟩))) 61 173 true).run prog w= .ok (.tuple #[.pointer (some ⟨ob,0,none⟩),.bool true]) w:=fun _=>by kernel_rfl
   have HW:=ze (CU mb nn _ w M);have c0:w.cell? ⟨ob,0,none⟩=some (.map (some mb)):=yG ag 0;have z:Hid (∀ (y:Wo) (b n:Nat),Bw w y->b<y.heap.size->y.ownsMap prog 9 RH b n (zZ (f.filter fun q=>!(q.1 ==t)))->zS (y.alloc (.cells #[.map (some b)] 175)) (ZU (.obj m) t) (.iface 173 (.pointer (some ⟨y.heap.size,0,none⟩)))):=fun y b n hb hlt ho=>by
    have V:=zY y (.cells #[.map (some b)] 175);have hz:(y.alloc (.cells #[.map (some b)] 175)).heap.size=y.heap.size+1:=by simp
    have R:=zi hb V;show zk _ _ (.obj (JM.ofL (m.toL.filter fun q=>!(q.1 ==t)))) _
    rw[zk];refine⟨y.heap.size,b,_,_,rfl,by omega,by omega,yH _ _,(Sr ho).alloc _,ye _,Sn t _ _ ?_⟩;rw[JM.ofL_toL];exact Zt.keep (fun k C=>R.block k C) (fun _ C=>yF C R.size) _ _ Q
   have HDX:=ze Z;clear hr hc M Q hv hl ag hd Z;go_in;go_wp2_with fail;refine (uh HC).mono ?_;rintro e y ⟨rfl,⟨x,rfl,D⟩ |⟨x,u',rfl,D,-⟩⟩
   ·cases D
   clear HC D;go_wp2_with fail;refine (uh HW).mono ?_;rintro e y ⟨rfl,o1,b1⟩;have hg1:=o1.lt;obtain⟨w2,hrun,o2,g2⟩:=zeR o1 (uh HDX) t ht 0;have N:Bw w w2:=b1.grown g2 b1.size (fun k C=>by injection C with C;omega);have hz2:=g2.size;have HF:=ze (uh z w2 _ _ N (by omega) o2);have HB:=ze N;clear HW o1 b1 o2 g2 N z;generalize zh t=st at *;go_wp2;go_ret2;exact⟨(uh HB).alloc (by omega) _,.inr ⟨_,_,_,by rw[uh J];rfl,rfl,uh HF⟩⟩
  | arr l=>
   have B:=hr;unfold zS at B;rw[zk]at B;obtain⟨ab,sv,f,h,hSab,X,F,G⟩:=B;injection h with h1 R;subst h1;subst R;obtain⟨a,g,d,rfl,K,E⟩:=J1 F;obtain⟨H,_⟩:=QY l f G;rw[ql]at hc;obtain⟨i,hx,Y⟩:=Option.bind_eq_some_iff.1 hc;have hil:i<f.length:=by rw[H];exact (List.getElem?_eq_some_iff.1 Y).1
   obtain⟨rfl,hSg⟩:=K (by omega);have L:=On hl;have hc0:w.cell? ⟨ab,0,none⟩=some (.slice (some ⟨g,0,none⟩) f.length d):=by rw[yG X];rfl
   have t1:∀ w:Wo,(Instr.typeAssert (.iface 102 (.pointer (some ⟨ab,0,none⟩))) 61 102 true).run prog w= .ok (.tuple #[.pointer (some ⟨ab,0,none⟩),.bool true]) w:=fun _=>by kernel_rfl
   have HI:=FY (zh t) w (by rw[zN];exact ht);rw[Za]at HI;have e0:JJ t= .tuple #[.int .i64 (i:Int),.bool true]:=by unfold JJ;rw[hx]
   rw[e0]at HI;have T:=ze HI;have hiI:(i:Int)<(f.length:Int):=by omega
   have A:=C5 F;have hcap1:=A.1;have hcap2:=A.2;have hcI:(i:Int)<=(d:Int):=by omega
   obtain⟨j,hj⟩:∃ j,j=i+1:=⟨_,rfl⟩;have hwj:IntKind.i64.wrap ((i:Int)+1)=(j:Int):=by rw[IntKind.wrap_i64,hj];omega
   have hjI:(j:Int)<=(f.length:Int):=by omega
   have hjn:j<=f.length:=by omega
   have z:Hid (∀ (y:Wo) (r:Value) (n:Nat),Bw w y->y.ownsRow w.heap.size 61 1 r n (f.take i++f.drop j)->n=(f.take i++f.drop j).length->zS (y.alloc (.cells #[r] 105)) (ZU (.arr l) t) (.iface 102 (.pointer (some ⟨y.heap.size,0,none⟩)))):=fun y r n hb ho hn=>by
    have e:ZU (.arr l) t= .arr (JL.ofL (l.toL.eraseIdx i)):=by simp only[ZU,hx]
    rw[e];refine Sw hb ho hn ?_;rw[hj];exact zeA i (by rw[JL.ofL_toL];exact G)
   have O:f.length<=1000000:=by rw[H];exact L
   have I:Hid (Calls prog 259 #[.slice (some ⟨w.heap.size,0,none⟩) 2 2] (w.alloc (.cells #[.slice (some ⟨g,0,none⟩) i d,.slice (if d=j then some ⟨g,0,none⟩else some ⟨g,j,none⟩) (f.length - j) (d - j)] 103)).drew fun e w'=>∃ r n,e= .returned r/\w'.ownsRow w.heap.size 61 1 r n (f.take i++f.drop j)/\n=(f.take i++f.drop j).length/\Bw w w'):=by
    have V:=(zY w (.cells #[.slice (some ⟨g,0,none⟩) i d,.slice (if d=j then some ⟨g,0,none⟩else some ⟨g,j,none⟩) (f.length - j) (d - j)] 103)).drew;have kA:=yH w (.cells #[.slice (some ⟨g,0,none⟩) i d,.slice (if d=j then some ⟨g,0,none⟩else some ⟨g,j,none⟩) (f.length - j) (d - j)] 103);have aa:(f.take i).length=i:=by rw[ym];omega
    have P:(f.drop j).length=f.length - j:=yv;have U:=Sv G;have hgl:g<w.heap.size:=hSg;have hVR:VR w (some ⟨g,0,none⟩) g 0 f:=⟨fun _=>rfl,fun k C=>by rw[Nat.zero_add];exact E k C⟩;have W:=hVR.below V;refine (Tj [⟨some ⟨g,0,none⟩,g,0,d,f.take i⟩,⟨if d=j then some ⟨g,0,none⟩else some ⟨g,j,none⟩,g,j,d - j,f.drop j⟩] w.heap.size _ ?_ ?_ ?_ (by simp)).mono ?_
    ·intro k C
     match k,C with
     | 0,_=>show _=some (Value.slice _ (f.take i).length _);rw[aa];exact yG kA 0
     | 1,_=>show _=some (Value.slice _ (f.drop j).length _);rw[P];exact yG kA 1
    ·intro s hs;rcases List.mem_cons.1 hs with rfl | hs
     ·exact⟨⟨fun _=>rfl,fun k C=>by
       have hk':k<i:=by simpa [aa]using C
       rw[W.cell k (by omega)];simp⟩,fun u hu=>U u (List.mem_of_mem_take hu),fun h=>by cases h⟩
     ·obtain rfl:=List.mem_singleton.1 hs;refine⟨⟨fun D=>?_,fun k C=>?_⟩,fun u hu=>U u (List.mem_of_mem_drop hu),fun h=>?_⟩
      ·have h0':0<f.length - j:=by rw[← P];exact D
       show (if d=j then some _ else some _)=_
       rw[yf (by omega)]
      ·have hk':k<f.length - j:=by rw[← P];exact C
       have:=W.cell (j+k) (by omega);rw[Nat.zero_add]at this;show World.cell? _ ⟨g,j+k,none⟩=some (f.drop j)[k]
       rw[this];simp
      ·have h':(if d=j then some (⟨g,0,none⟩:Addr)else some ⟨g,j,none⟩)=none:=h;split at h'<;>cases h'
    ·simp[qK];omega
    ·rintro e w' ⟨r,rfl,o,b⟩;have ef:qK [⟨some ⟨g,0,none⟩,g,0,d,f.take i⟩,⟨if d=j then some ⟨g,0,none⟩else some ⟨g,j,none⟩,g,j,d - j,f.drop j⟩]=f.take i++f.drop j:=by simp[qK]
     rw[ef]at o;exact⟨r,_,rfl,QO o V.size,rfl,zi V b⟩
   have HJ:=ze hj;clear hj;rw[← H]at L;clear hr hx hc Y F E G HI e0 hv hl X K H A O;generalize zh t=st at *;go_in;go_wp2_with fail;refine (uh HC).mono ?_;rintro e y ⟨rfl,⟨x,rfl,D⟩ |⟨x,u',rfl,D,-⟩⟩
   ·cases D
   clear HC D;go_wp2_with fail;refine (uh T).mono ?_;rintro e y ⟨rfl,rfl⟩;clear T;go_wp2_with fail;go_region_law (go_simp;refine (uh I).mono ?_;rintro e w4 ⟨r,n,rfl,o4,af,b4⟩;obtain⟨ra,rc,rfl⟩:=Xm o4;have HF:=ze (uh z w4 _ n b4 o4 af);have S:=ze b4;clear z I o4 af b4)
   all_goals
    generalize (if d=j then some (⟨g,0,none⟩:Addr)else some ⟨g,j,none⟩)=ad at *;go_wp2;go_ret2;exact⟨(uh S).alloc (uh S).size _,.inr ⟨_,_,_,by rw[uh J];rfl,rfl,uh HF⟩⟩
  | _=>cases hc
theorem zeT{w:Wo}{S:Nat->Prop}{a:Option Addr}{n cap:Nat}{xs:List Value}(h:Yu w S (.slice a n cap) xs):(a=none/\cap=0/\n=0/\xs=[])∨∃ g,a=some ⟨g,0,none⟩/\S g/\n=xs.length/\VR w (some ⟨g,0,none⟩) g 0 xs:=by
 obtain⟨⟨k,l⟩,m⟩:=h;rcases l with ⟨d,i⟩ |⟨g,f,b,d,o,p,r⟩
 ·injection d with e1 e2 e3;exact .inl ⟨e1,e3,e2,yO i⟩
 ·injection d with e1 e2 e3;subst e1;subst e2;subst e3;refine .inr ⟨g,rfl,m g rfl,rfl,fun _=>rfl,fun j hj=>?_⟩;have:=World.ownsRow.cells (w:=w) (base:=0) (e:=61) (size:=1) ⟨k,.inr ⟨g,cap,b,rfl,o,p,r⟩⟩ rfl j xs[j] (yy hj)
  rwa [Addr.add_lit]at this
theorem VR.take{w:Wo}{a:Option Addr}{g off:Nat}{xs:List Value}(h:VR w a g off xs)(i:Nat):VR w a g off (xs.take i):=
 ⟨fun h0=>h.ad (by rw[ym]at h0;omega),fun j hj=>by
  have b:j<xs.length:=by rw[ym]at hj;omega
  rw[h.cell j b];simp⟩
theorem VR.drop{w:Wo}{a:Option Addr}{g off:Nat}{xs:List Value}(h:VR w a g off xs)(i:Nat){a':Option Addr}(ha:i<xs.length->a'=some ⟨g,off+i,none⟩):VR w a' g (off+i) (xs.drop i):=
 ⟨fun h0=>ha (by rw[yv]at h0;omega),fun j hj=>by
  have b:i+j<xs.length:=by rw[yv]at hj;omega
  rw[Nat.add_assoc,h.cell (i+j) b];simp⟩
theorem C6 (w:Wo) (y:Value) (hy:y.oneCell'=true) (us vs:List Value) (a1 a3:Option Addr) (g1 o1 c1 n1 g3 o3 c3 n3:Nat) (hn1:us.length=n1) (hn3:vs.length=n3) (h1:VR w a1 g1 o1 us) (h3:VR w a3 g3 o3 vs) (k1:a1=none->c1=0) (k3:a3=none->c3=0)
  (q1:∀ u∈us,u.oneCell'=true) (q3:∀ u∈vs,u.oneCell'=true) (hl:us.length+vs.length<=900000):
  Calls prog 259 #[.slice (some ⟨w.heap.size+1,0,none⟩) 3 3] ((w.alloc (.cells #[y] 61)).alloc (.cells #[.slice a1 n1 c1,.slice (some ⟨w.heap.size,0,none⟩) 1 1,.slice a3 n3 c3] 103)).drew fun e w'=>∃ r n,e= .returned r/\w'.ownsRow w.heap.size 61 1 r n (us++y :: vs)/\n=(us++y :: vs).length/\Bw w w':=by
 have p:=zY w (.cells #[y] 61);have z:(w.alloc (.cells #[y] 61)).heap.size=w.heap.size+1:=by simp
 have q:=yH w (.cells #[y] 61);have l:=(zY (w.alloc (.cells #[y] 61)) (.cells #[.slice a1 n1 c1,.slice (some ⟨w.heap.size,0,none⟩) 1 1,.slice a3 n3 c3] 103)).drew;have f:=yH (w.alloc (.cells #[y] 61)) (.cells #[.slice a1 n1 c1,.slice (some ⟨w.heap.size,0,none⟩) 1 1,.slice a3 n3 c3] 103);rw[z]at f;have d:=zi p l;have j:=(l.block w.heap.size (by omega)).trans q;have v:=h1.below d;have x:=h3.below d;refine (Tj [⟨a1,g1,o1,c1,us⟩,⟨some ⟨w.heap.size,0,none⟩,w.heap.size,0,1,[y]⟩,⟨a3,g3,o3,c3,vs⟩] (w.heap.size+1) _ ?_ ?_ ?_ (by simp)).mono ?_
 ·intro k g
  match k,g with
  | 0,_=>show _=some (Value.slice _ us.length _);rw[hn1];exact yG f 0
  | 1,_=>exact yG f 1
  | 2,_=>show _=some (Value.slice _ vs.length _);rw[hn3];exact yG f 2
 ·intro s a;rcases List.mem_cons.1 a with rfl | a
  ·exact⟨v,q1,k1⟩
  ·rcases List.mem_cons.1 a with rfl | a
   ·refine⟨⟨fun _=>rfl,fun k g=>?_⟩,fun u hu=>by rw[List.mem_singleton.1 hu];exact hy,fun h=>by cases h⟩;have i:k=0:=by simpa using g
    subst i;exact yG j 0
   ·obtain rfl:=List.mem_singleton.1 a;exact⟨x,q3,k3⟩
 ·simp[qK];omega
 ·rintro e w' ⟨r,rfl,o,b⟩;have m:qK [⟨a1,g1,o1,c1,us⟩,⟨some ⟨w.heap.size,0,none⟩,w.heap.size,0,1,[y]⟩,⟨a3,g3,o3,c3,vs⟩]=us++y :: vs:=by simp[qK]
  rw[m]at o;exact⟨r,_,rfl,QO o d.size,rfl,zi d b⟩
theorem zeU(l:JL)(u:JV)(t:List UInt8)(w:Wo)(ty ty':TypeId)(p p':Value)(ht:t.length<=1048576)(hl:(ct (.arr l)).length<=500000)(hr:zS w (.arr l) (.iface ty p))(hu:zS w u (.iface ty' p')):
  Calls prog 236 #[.iface ty p,.string (zh t),.iface ty' p'] w (Zj w (ZS 3 (ZG (.arr l) t u))):=by
 have V:=hr;unfold zS at V;rw[zk]at V;obtain⟨ab,sv,C,h,hSab,P,y,L⟩:=V;injection h with h1 h2;subst h1;subst h2;obtain⟨a,g0,I,rfl,_,_⟩:=J1 y;obtain⟨M,_⟩:=QY l C L;have Y:=On hl;rw[← M]at Y;have hc0:w.cell? ⟨ab,0,none⟩=some (.slice a C.length I):=by rw[yG P];rfl
 have t1:∀ w:Wo,(Instr.typeAssert (.iface 102 (.pointer (some ⟨ab,0,none⟩))) 61 102 true).run prog w= .ok (.tuple #[.pointer (some ⟨ab,0,none⟩),.bool true]) w:=fun _=>by kernel_rfl
 have X:=FY (zh t) w (by rw[zN];exact ht);rw[Za]at X;obtain⟨z,ok,B⟩:∃ (z:Nat) (ok:Bool),JJ t= .tuple #[.int .i64 (z:Int),.bool ok]:=by
  unfold JJ
  cases Z8 t with
  | none=>exact⟨0,false,rfl⟩
  | some i=>exact⟨i,true,rfl⟩
 obtain⟨i,J⟩:∃ i:Nat,i=if t=[45]then C.length else z:=⟨_,rfl⟩
 obtain⟨b,D⟩:∃ b:Bool,b=if t=[45]then true else ok:=⟨_,rfl⟩
 have G:ZG (.arr l) t u=if b=true/\i<=C.length then some (.arr (JL.ofL (l.toL.take i++u :: l.toL.drop i)))else none:=by
  simp only[ZG];by_cases s:t=[45]
  ·rw[yg s]at J D ⊢;subst J;subst D;rw[← M];simp
  ·rw[yf s]at J D ⊢;subst J;subst D;unfold JJ at B
   cases hx:Z8 t with
   | none=>
    rw[hx]at B;injection B with e;have e2:b=false:=by have:=congrArg (fun x:Array Value=>x[1]?) e;simp at this;exact this
    rw[e2];simp
   | some j=>
    rw[hx]at B;injection B with e;have e2:b=true:=by have:=congrArg (fun x:Array Value=>x[1]?) e;simp at this;exact this
    have e3:i=j:=by have:=congrArg (fun x:Array Value=>x[0]?) e;simp at this;omega
    subst e3;rw[e2,M];simp
 rw[B]at X;have f:=ze X;have N:((zh t).toList ==[45])=decide (t=[45]):=by rw[ByteArray.toList_eq,Za];by_cases h:t=[45]<;>simp[h]
 have F:=C5 y;have hcap1:=F.1;have hcap2:=F.2;have q1:=Sv L;have m:Hid (∀ (E:Wo) (r:Value) (n:Nat),Bw w E->E.ownsRow w.heap.size 61 1 r n (C.take i++.iface ty' p' :: C.drop i)->n=(C.take i++.iface ty' p' :: C.drop i).length->zS (E.alloc (.cells #[r] 105)) (.arr (JL.ofL (l.toL.take i++u :: l.toL.drop i))) (.iface 102 (.pointer (some ⟨E.heap.size,0,none⟩)))):=fun E r n D ho hn=>
  Sw D ho hn (zez i (by rw[JL.ofL_toL];exact L) hu)
 by_cases v:b=true/\i<=C.length
 ·have o:Hid (ZG (.arr l) t u=some (.arr (JL.ofL (l.toL.take i++u :: l.toL.drop i)))):=by show _=_;rw[G,yg v]
  have hiI:(i:Int)<=(C.length:Int):=by omega
  have hiC:(i:Int)<=(I:Int):=by omega
  have Z:=v.2;have O:=ze v.1;have S:(C.take i).length=i:=by rw[ym];omega
  have T:(C.drop i).length=C.length - i:=yv;rcases zeT y with ⟨rfl,rfl,-,aa⟩ |⟨g,rfl,hSg,-,R⟩
  ·subst aa;have hi0:i=0:=by simpa using Z
   subst hi0;have v0:VR w none 0 0 []:=⟨fun h=>by simp at h,fun j h=>by simp at h⟩;have d:=ze (C6 w (.iface ty' p') rfl [] [] none none 0 0 0 0 0 0 0 0 rfl rfl v0 v0 (fun _=>rfl) (fun _=>rfl) (fun u hu=>by simp at hu) (fun u hu=>by simp at hu) (by simp));have A:Hid (∀ (E:Wo) (r:Value) (n:Nat),Bw w E->E.ownsRow w.heap.size 61 1 r n ([]++.iface ty' p' :: [])->n=([]++Value.iface ty' p' :: []).length->zS (E.alloc (.cells #[r] 105)) (.arr (JL.ofL (l.toL.take 0++u :: l.toL.drop 0))) (.iface 102 (.pointer (some ⟨E.heap.size,0,none⟩)))):=fun E r n=>uh m E r n;clear hr hu y L X hl P M F q1 G v S T B v0 m;simp only[yE]at hc0;by_cases s:t=[45]
   ·rw[yj s]at N;clear D s J;generalize zh t=st at *;go_in;go_wp2_with fail;refine (uh f).mono ?_;rintro e E ⟨rfl,rfl⟩;clear f;go_wp2_with fail;go_region_law (go_simp;refine (uh d).mono ?_;rintro e W ⟨r,n,rfl,K,q,H⟩;obtain⟨ra,rc,rfl⟩:=Xm K;have Q:=ze (uh A W _ n H K q);have k:=ze H;clear A d K q H)
    all_goals
     go_wp2;go_ret2;exact⟨(uh k).alloc (uh k).size _,.inr ⟨_,_,_,by rw[uh o];rfl,rfl,uh Q⟩⟩
   ·rw[yf s]at J D;rw[yk s]at N;subst J;have U:ok=true:=by rw[← D];exact uh O
    subst U;clear D s O;generalize zh t=st at *;go_in;go_wp2_with fail;refine (uh f).mono ?_;rintro e E ⟨rfl,rfl⟩;clear f;go_wp2_with fail;go_region_law (go_simp;refine (uh d).mono ?_;rintro e W ⟨r,n,rfl,K,q,H⟩;obtain⟨ra,rc,rfl⟩:=Xm K;have Q:=ze (uh A W _ n H K q);have k:=ze H;clear A d K q H)
    all_goals
     go_wp2;go_ret2;exact⟨(uh k).alloc (uh k).size _,.inr ⟨_,_,_,by rw[uh o];rfl,rfl,uh Q⟩⟩
  ·have d:=ze (C6 w (.iface ty' p') rfl (C.take i) (C.drop i) (some ⟨g,0,none⟩) (if I=i then some ⟨g,0,none⟩else some ⟨g,i,none⟩) g 0 I i g (0+i) (I - i) (C.length - i) S T (R.take i) (R.drop i (fun h=>by rw[yf (by omega),Nat.zero_add])) (fun h=>by cases h) (fun h=>by split at h<;>cases h) (fun u hu=>q1 u (List.mem_of_mem_take hu)) (fun u hu=>q1 u (List.mem_of_mem_drop hu)) (by omega));clear hr hu y L X hl P M F q1 G v S T R B;by_cases s:t=[45]
   ·rw[yg s]at J D;rw[yj s]at N;have HII:=ze J;have hiz:(C.length:Int)=(i:Int):=by omega
    clear D s J;generalize zh t=st at *;go_in;go_wp2_with fail;refine (uh f).mono ?_;rintro e E ⟨rfl,rfl⟩;clear f;go_wp2_with fail;go_region_law (go_simp;refine (uh d).mono ?_;rintro e W ⟨r,n,rfl,K,q,H⟩;obtain⟨ra,rc,rfl⟩:=Xm K;have Q:=ze (uh m W _ n H K q);have k:=ze H;clear m d K q H)
    all_goals
     generalize (if I=i then some (⟨g,0,none⟩:Addr)else some ⟨g,i,none⟩)=ad at *;go_wp2;go_ret2;exact⟨(uh k).alloc (uh k).size _,.inr ⟨_,_,_,by rw[uh o];rfl,rfl,uh Q⟩⟩
   ·rw[yf s]at J D;rw[yk s]at N;subst J;have U:ok=true:=by rw[← D];exact uh O
    subst U;clear D s O;generalize zh t=st at *;go_in;go_wp2_with fail;refine (uh f).mono ?_;rintro e E ⟨rfl,rfl⟩;clear f;go_wp2_with fail;go_region_law (go_simp;refine (uh d).mono ?_;rintro e W ⟨r,n,rfl,K,q,H⟩;obtain⟨ra,rc,rfl⟩:=Xm K;have Q:=ze (uh m W _ n H K q);have k:=ze H;clear m d K q H)
    all_goals
     generalize (if I=i then some (⟨g,0,none⟩:Addr)else some ⟨g,i,none⟩)=ad at *;go_wp2;go_ret2;exact⟨(uh k).alloc (uh k).size _,.inr ⟨_,_,_,by rw[uh o];rfl,rfl,uh Q⟩⟩
 ·have o:Hid (ZG (.arr l) t u=none):=by show _=_;rw[G,yf v]
  have s:¬ t=[45]:=fun s=>v ⟨by rw[D,yg s],by rw[J,yg s];exact ye _⟩;rw[yf s]at J D;rw[yk s]at N;subst J;subst D;clear hr hu y L X hl P M F q1 G B m s;generalize zh t=st at *
  cases b with
  | false=>
   clear v;go_in;go_wp2_with fail;refine (uh f).mono ?_;rintro e E ⟨rfl,rfl⟩;clear f;go_wp2;go_ret2;exact⟨zY _ _,.inl ⟨3,_,by rw[uh o];rfl,rfl,_,rfl,yH _ _⟩⟩
  | true=>
   have h1:¬ (i:Int)<=(C.length:Int):=fun h=>v ⟨rfl,by omega⟩;have h2:decide ((i:Int)<=(C.length:Int))=false:=yk h1;clear v;go_in;go_wp2_with fail;refine (uh f).mono ?_;rintro e E ⟨rfl,rfl⟩;clear f;go_wp2;go_ret2;exact⟨zY _ _,.inl ⟨3,_,by rw[uh o];rfl,rfl,_,rfl,yH _ _⟩⟩
theorem zeV(v u:JV)(t:List UInt8)(w:Wo)(ty ty':TypeId)(p p':Value)(hw:qQ w)(hv:zo v)(ht:t.length<=1048576)(hl:(ct v).length<=500000)(hr:zS w v (.iface ty p))(hu:zS w u (.iface ty' p')):
  Calls prog 236 #[.iface ty p,.string (zh t),.iface ty' p'] w (Zj w (ZS 3 (ZG v t u))):=by
 have leaf:(∀ w:Wo,(Instr.typeAssert (.iface ty p) 61 102 true).run prog w= .ok (.tuple #[.pointer none,.bool false]) w)->(∀ w:Wo,(Instr.typeAssert (.iface ty p) 61 173 true).run prog w= .ok (.tuple #[.pointer none,.bool false]) w)->ZG v t u=none ->
   Calls prog 236 #[.iface ty p,.string (zh t),.iface ty' p'] w (Zj w (ZS 3 (ZG v t u))):=fun h1 h2 hc=>by
  have f:=ze hc;clear hc hr hu hv hw;generalize zh t=Q at *;go_in;go_wp2;go_ret2;exact⟨zY _ _,.inl ⟨3,_,by rw[uh f];rfl,rfl,_,rfl,yH _ _⟩⟩
 have d:=hr;unfold zS at d
 cases v with
 | nul=>rw[zk]at d;injection d with a b;subst a;subst b;exact leaf (fun _=>by kernel_rfl) (fun _=>by kernel_rfl) rfl
 | tt=>rw[zk]at d;injection d with a b;subst a;subst b;exact leaf (fun _=>by kernel_rfl) (fun _=>by kernel_rfl) rfl
 | ff=>rw[zk]at d;injection d with a b;subst a;subst b;exact leaf (fun _=>by kernel_rfl) (fun _=>by kernel_rfl) rfl
 | num l=>rw[zk]at d;obtain⟨z,d,_⟩:=d;injection d with a b;subst a;subst b;exact leaf (fun _=>by kernel_rfl) (fun _=>by kernel_rfl) rfl
 | str l=>rw[zk]at d;injection d with a b;subst a;subst b;exact leaf (fun _=>by kernel_rfl) (fun _=>by kernel_rfl) rfl
 | arr l=>exact zeU l u t w ty ty' p p' ht hl hr hu
 | obj m=>
  clear leaf;rw[zk]at d;obtain⟨x,P,V,E,h,C,B,r,j,T,o⟩:=d;injection h with h1 h2;subst h1;subst h2;have M:=((qq m).1 hv).1;have D:E.length=m.toL.length:=by have:=congrArg List.length (YB m E o).1;rw[Om]at this;simpa using this
  have O:=C4 hl;have X:∀ w:Wo,(Instr.typeAssert (.iface 173 (.pointer (some ⟨x,0,none⟩))) 61 102 true).run prog w= .ok (.tuple #[.pointer none,.bool false]) w:=fun _=>by kernel_rfl
  have Y:∀ w:Wo,(Instr.typeAssert (.iface 173 (.pointer (some ⟨x,0,none⟩))) 61 173 true).run prog w= .ok (.tuple #[.pointer (some ⟨x,0,none⟩),.bool true]) w:=fun _=>by kernel_rfl
  have G:=Any.utf8_ValidString Tryz.laysValid (zh t) w (by rw[zN];omega) hw.tab.tabs;rw[Za]at G;have g:=ze G;have L:Hid (∀ wx,Bw w wx->Calls prog 260 #[.pointer (some ⟨x,0,none⟩),.string (zh t),.iface ty' p'] wx (CV wx (E++[(t,.iface ty' p')]))):=fun wx hx=>
   CY x P V E t (.iface ty' p') wx ((hx.block x C).trans r) (YR j (hx.block P B)) (by omega) ht
  cases hval:Lib.validD t with
  | false=>
   have f:Hid (ZG (.obj m) t u=none):=by show _=_;simp only[ZG,hval];rfl
   rw[hval]at g;clear hr hu j o hv hl r M D G L hval;generalize zh t=Q at *;go_in;go_wp2_with fail;refine (uh g).mono ?_;rintro e k ⟨rfl,s⟩;have F:=ze s;clear g s;go_wp2;go_ret2;exact⟨zi (uh F) (zY _ _),.inl ⟨3,_,by rw[uh f];rfl,rfl,_,rfl,yH _ _⟩⟩
  | true=>
   have f:Hid (ZG (.obj m) t u=some (if (zn (.obj m) t).isSome then Zs (.obj m) t u else .obj (JM.ofL (m.toL++[(t,u)])))):=by show _=_;simp only[ZG,hval];rfl
   have q:Hid (∀ (k:Wo) (i b n:Nat),Bw w k->i<k.heap.size->b<k.heap.size->k.heap[i]?=some (.cells #[.map (some b)] 175 (0,0))->k.ownsMap prog 9 RH b n (zZ (E++[(t,.iface ty' p')]))->zS k (if (zn (.obj m) t).isSome then Zs (.obj m) t u else .obj (JM.ofL (m.toL++[(t,u)]))) (.iface 173 (.pointer (some ⟨i,0,none⟩)))):=fun k i b n hb H I J K=>
    C3 hb o M hu H I J K
   rw[hval]at g;clear hr hu j o hv hl r M D G hval;generalize zh t=Q at *;go_in;go_wp2_with fail;refine (uh g).mono ?_;rintro e k ⟨rfl,s⟩;have A:=ze (uh L k s);have F:=ze s;clear g s L;go_wp2_with fail;refine (uh A).mono ?_;rintro e W ⟨i,S,U,rfl,N,H,I,J,K⟩;have y:=ze (zi (uh F) N);have R:=ze (uh q W i S U (uh y) H I J K);clear A F N H I J K q;go_wp2;go_ret2;exact⟨uh y,.inr ⟨_,_,_,by rw[uh f];rfl,rfl,uh R⟩⟩
theorem SS.last{w:Wo}{a:Option Addr}{g off:Nat}{ts:List (List UInt8)}(h:SS w a g off (ts.map zH))(h0:ts≠[]):SS w a g off (ts.dropLast.map zH)/\a=some ⟨g,off,none⟩/\w.cell? ⟨g,off+(ts.length - 1),none⟩=some (.string (zh (q7 ts))):=by
 obtain⟨d,t,rfl⟩:∃ d t,ts=d++[t]:=⟨ts.dropLast,ts.getLast h0,(List.dropLast_concat_getLast h0).symm⟩;have f:(d++[t]).dropLast=d:=List.dropLast_concat;have i:q7 (d++[t])=t:=by simp[q7]
 have k:(d++[t]).length - 1=d.length:=by simp
 rw[f,i,k];have b:((d++[t]).map zH).length=d.length+1:=by simp
 refine⟨⟨fun h0=>h.ad (by rw[b];omega),fun j hj=>?_⟩,h.ad (by rw[b];omega),?_⟩
 ·rw[yl]at hj;have:=h.cell j (by rw[b];omega);rw[this,yx];simp[List.getElem?_append_left,hj]
 ·have:=h.cell d.length (by rw[b];omega);rw[this,yx];simp[zH,zh]
theorem Zj.two{w w':Wo}{o:Nat⊕JV}{e:Ending}(h:Zj w o e w'):∃ x y,e= .returned (.tuple #[x,y])/\Zj w o (.returned (.tuple #[x,y])) w':=by
 obtain⟨b,⟨c,f,a,rfl,d⟩ |⟨u,t,p,a,rfl,d⟩⟩:=h
 ·exact⟨_,_,rfl,b,.inl ⟨c,f,a,rfl,d⟩⟩
 ·exact⟨_,_,rfl,b,.inr ⟨u,t,p,a,rfl,d⟩⟩
theorem Zj.undrew{w w':Wo}{o:Nat⊕JV}{e:Ending}(h:Zj w.drew o e w'):Zj w o e w':=⟨(yI _ w).drew.trans h.1,h.2⟩
theorem Zj.from{w w1 w':Wo}{o:Nat⊕JV}{e:Ending}(hb:Bw w w1)(h:Zj w1 o e w'):Zj w o e w':=⟨zi hb h.1,h.2⟩
theorem zeW (h u:JV) (t:List UInt8) (w:Wo) (ty ty':TypeId) (p p':Value) (tb lb vb g off n cap:Nat) (hw:qQ w) (hv:zo h) (ht:t.length<=1048576) (hl:(ct h).length<=500000) (hr:zS w h (.iface ty p)) (hu:zS w u (.iface ty' p'))
  (k1:w.cell? ⟨tb,0,none⟩=some (.slice (some ⟨g,off,none⟩) (n+1) cap)) (k2:w.cell? ⟨lb,0,none⟩=some (.int .i64 (n:Int))) (k3:w.cell? ⟨vb,0,none⟩=some (.iface ty' p')) (k4:w.cell? ⟨g,off+n,none⟩=some (.string (zh t))) (_hn:n<=10000000):
  Calls prog 235 #[.iface ty p,.pointer (some ⟨tb,0,none⟩),.pointer (some ⟨lb,0,none⟩),.pointer (some ⟨vb,0,none⟩)] w (Zj w (ZS 3 (ZG h t u))):=by
 have a:Hid (Calls prog 236 #[.iface ty p,.string (zh t),.iface ty' p'] w.drew (Zj w.drew (ZS 3 (ZG h t u)))):=zeV h u t w.drew ty ty' p p' (hw.up (yI _ _).drew) hv ht hl (hr.next (yI _ _).drew) (hu.next (yI _ _).drew);have i:(n:Int)<(n:Int)+1:=by omega
 clear hw hv hr hu;generalize zh t=j at *;go_in;go_wp2_with fail;go_region_law (go_simp;refine (uh a).mono ?_;rintro e k b;obtain⟨x,y,rfl,d⟩:=Zj.two b;have f:=ze d;clear b d a)
 all_goals
  go_wp2;go_ret2;exact Zj.undrew (uh f)
theorem zeX (h:JV) (t:List UInt8) (w:Wo) (ty:TypeId) (p:Value) (tb lb g off n cap:Nat) (hv:zo h) (ht:t.length<=1048576) (hl:(ct h).length<=500000) (hr:zS w h (.iface ty p))
  (k1:w.cell? ⟨tb,0,none⟩=some (.slice (some ⟨g,off,none⟩) (n+1) cap)) (k2:w.cell? ⟨lb,0,none⟩=some (.int .i64 (n:Int))) (k4:w.cell? ⟨g,off+n,none⟩=some (.string (zh t))) (_hn:n<=10000000):
  Calls prog 237 #[.iface ty p,.pointer (some ⟨tb,0,none⟩),.pointer (some ⟨lb,0,none⟩)] w (Zj w (ZS 3 (QA h t))):=by
 have a:=ze (zeS h t w ty p hv ht (by omega) hr);have i:(n:Int)<(n:Int)+1:=by omega
 clear hv hr;generalize zh t=j at *;go_in;go_wp2_with fail;refine (uh a).mono ?_;rintro e k b;obtain⟨x,y,rfl,d⟩:=Zj.two b;have f:=ze d;clear b d a;go_wp2;go_ret2;exact uh f
theorem Sx(v u:JV)(ts:List (List UInt8))(a:Option Addr)(g off cap:Nat)(w:Wo)(ty ty':TypeId)(p p':Value)(hw:qQ w)(hv:zo v)(hl:(ct v).length<=500000)(hr:zS w v (.iface ty p))(hu:zS w u (.iface ty' p'))(hs:SS w a g off (ts.map zH))(hcap:ts.length<=cap)(hcap2:cap<=9223372036854775807)(hn9:ts.length<=10000000)(ht:∀ t∈ts,t.length<=1048576):
  Calls prog 209 #[.iface ty p,.slice a ts.length cap,.iface ty' p'] w (Zj w (ZS 3 (Z4 v ts u))):=by
 by_cases l:ts=[]
 ·subst l;have S:Hid (Z4 v [] u=some u):=by show _=_;unfold Z4;rw[yg rfl]
  have U:Hid (∀ wx,Bw w wx->zS wx u (.iface ty' p')):=fun wx hx=>hu.next hx;clear hw hv hr hu hs;simp only[yE];go_in;go_wp2;go_ret2;have Q:=zi (zY w (.cells #[.slice a 0 cap] 30)) (zY _ (.cells #[.iface ty' p'] 61));exact⟨Q,.inr ⟨u,_,_,by rw[uh S];rfl,rfl,uh U _ Q⟩⟩
 ·obtain⟨r,rfl,b⟩:=hs.last l;have q:0<ts.length:=List.length_pos_iff.2 l;obtain⟨n,A⟩:∃ n,ts.length=n+1:=⟨ts.length - 1,by omega⟩;have i:q7 ts∈ts:=by
   rw[← List.dropLast_concat_getLast l];simp[q7]
  have s:=ht _ i;have E:Hid (Z4 v ts u=ZO (fun h=>ZG h (q7 ts) u) v ts.dropLast):=by show _=_;unfold Z4;rw[yf l]
  rw[A,Nat.add_sub_cancel]at b;have o:ts.dropLast.length=n:=by rw[List.length_dropLast,A];rfl
  have F:=zY w (.cells #[.slice (some ⟨g,off,none⟩) (n+1) cap] 30);have K:=yH w (.cells #[.slice (some ⟨g,off,none⟩) (n+1) cap] 30);have D:(w.alloc (.cells #[.slice (some ⟨g,off,none⟩) (n+1) cap] 30)).heap.size=w.heap.size+1:=by simp
  generalize hw1:w.alloc (.cells #[.slice (some ⟨g,off,none⟩) (n+1) cap] 30)=m at F K D;have G:=zY m (.cells #[.iface ty' p'] 61);have L:=yH m (.cells #[.iface ty' p'] 61);have M:(m.alloc (.cells #[.iface ty' p'] 61)).heap.size=m.heap.size+1:=by simp
  generalize hw2:m.alloc (.cells #[.iface ty' p'] 61)=C at G L M;have z:=zY C (.cells #[.int .i64 (n:Int)] 3);have B:=yH C (.cells #[.int .i64 (n:Int)] 3);generalize hw3:C.alloc (.cells #[.int .i64 (n:Int)] 3)=R at z B;have k:=zi G z;have d:=zi F k;have N:W2 R 235 #[.pointer (some ⟨w.heap.size,0,none⟩),.pointer (some ⟨w.heap.size+2,0,none⟩),.pointer (some ⟨w.heap.size+1,0,none⟩)] (fun h=>ZG h (q7 ts) u):=fun wx h tyh ph hx hgh hlh hrh=>by
   have H:=zi d hx;have I:=zi k hx;have J:=zi z hx;refine zeW h u (q7 ts) wx tyh ty' ph p' w.heap.size (w.heap.size+2) (w.heap.size+1) g off n cap (hw.up H) hgh s hlh hrh (hu.next H) ?_ ?_ ?_ ?_ (by omega)
   ·exact yG ((I.block _ (by omega)).trans K) 0
   ·have:=(hx.block C.heap.size (yC.1 B).1).trans B;rw[M,D]at this;exact yG this 0
   ·have:=(J.block m.heap.size (by omega)).trans L;rw[D]at this;exact yG this 0
   ·exact (H.cell (p:=⟨g,off+n,none⟩) (yK _ _ b)).trans b
  have j:=ze (Oo 235 zeO _ _ ts.dropLast v (some ⟨g,off,none⟩) g off cap R ty p N hv hl (hr.next d) (r.below d) (by omega) hcap2 (fun t h=>ht t ((List.dropLast_sublist ts).subset h)));rw[o]at j;have f:=ze d;subst hw3;subst hw2;subst hw1;have W:(n:Int)<=(cap:Int):=by omega
  have V:¬ ((n:Int)+1=0):=by omega
  rw[A];clear hw hv hr hu hs r ht N F K D G L M z B k d o A q s i b l;go_in;go_wp2_with fail;refine (uh j).mono ?_;rintro e X O;obtain⟨x,y,rfl,P⟩:=Zj.two O;have T:=ze (Zj.from (uh f) P);clear O P j f;go_wp2;go_ret2;rw[uh E];exact uh T
theorem C7(v:JV)(ts:List (List UInt8))(a:Option Addr)(g off cap:Nat)(w:Wo)(ty:TypeId)(p:Value)(hv:zo v)(hl:(ct v).length<=500000)(hr:zS w v (.iface ty p))(hs:SS w a g off (ts.map zH))(hcap:ts.length<=cap)(hcap2:cap<=9223372036854775807)(hn9:ts.length<=10000000)(ht:∀ t∈ts,t.length<=1048576):
  Calls prog 210 #[.iface ty p,.slice a ts.length cap] w (Zj w (ZS 3 (qe v ts))):=by
 by_cases k:ts=[]
 ·subst k;have J:Hid (qe v []=none):=by show _=_;unfold qe;rw[yg rfl]
  clear hv hr hs;simp only[yE];go_in;go_wp2;go_ret2;exact⟨zi (zY w (.cells #[.slice a 0 cap] 30)) (zY _ _),.inl ⟨3,_,by rw[uh J];rfl,rfl,_,rfl,by first | exact yH _ _ |(have:=yH (w.alloc (.cells #[.slice a 0 cap] 30)) (.cells #[.int .i64 3] 140);simpa using this)⟩⟩
 ·obtain⟨o,rfl,b⟩:=hs.last k;have m:0<ts.length:=List.length_pos_iff.2 k;obtain⟨n,s⟩:∃ n,ts.length=n+1:=⟨ts.length - 1,by omega⟩;have i:q7 ts∈ts:=by
   rw[← List.dropLast_concat_getLast k];simp[q7]
  have q:=ht _ i;have A:Hid (qe v ts=ZO (fun h=>QA h (q7 ts)) v ts.dropLast):=by show _=_;unfold qe;rw[yf k]
  rw[s,Nat.add_sub_cancel]at b;have l:ts.dropLast.length=n:=by rw[List.length_dropLast,s];rfl
  have B:=zY w (.cells #[.slice (some ⟨g,off,none⟩) (n+1) cap] 30);have D:=yH w (.cells #[.slice (some ⟨g,off,none⟩) (n+1) cap] 30);have E:(w.alloc (.cells #[.slice (some ⟨g,off,none⟩) (n+1) cap] 30)).heap.size=w.heap.size+1:=by simp
  generalize hw1:w.alloc (.cells #[.slice (some ⟨g,off,none⟩) (n+1) cap] 30)=z at B D E;have r:=zY z (.cells #[.int .i64 (n:Int)] 3);have u:=yH z (.cells #[.int .i64 (n:Int)] 3);generalize hw3:z.alloc (.cells #[.int .i64 (n:Int)] 3)=I at r u;have d:=zi B r;have F:W2 I 237 #[.pointer (some ⟨w.heap.size,0,none⟩),.pointer (some ⟨w.heap.size+1,0,none⟩)] (fun h=>QA h (q7 ts)):=fun wx h tyh ph hx hgh hlh hrh=>by
   have L:=zi d hx;have C:=zi r hx;refine zeX h (q7 ts) wx tyh ph w.heap.size (w.heap.size+1) g off n cap hgh q hlh hrh ?_ ?_ ?_ (by omega)
   ·exact yG ((C.block _ (by omega)).trans D) 0
   ·have:=(hx.block z.heap.size (yC.1 u).1).trans u;rw[E]at this;exact yG this 0
   ·exact (L.cell (p:=⟨g,off+n,none⟩) (yK _ _ b)).trans b
  have j:=ze (Oo 237 zeP _ _ ts.dropLast v (some ⟨g,off,none⟩) g off cap I ty p F hv hl (hr.next d) (o.below d) (by omega) hcap2 (fun t h=>ht t ((List.dropLast_sublist ts).subset h)));rw[l]at j;have f:=ze d;subst hw3;subst hw1;have N:(n:Int)<=(cap:Int):=by omega
  have M:¬ ((n:Int)+1=0):=by omega
  rw[s];clear hv hr hs o ht F B D E r u d l s m q i b k;go_in;go_wp2_with fail;refine (uh j).mono ?_;rintro e O G;obtain⟨x,y,rfl,H⟩:=Zj.two G;have K:=ze (Zj.from (uh f) H);clear G H j f;go_wp2;go_ret2;rw[uh A];exact uh K
structure U0(w:Wo)(x:Value)(ts:List (List UInt8))(a:Option Addr)(g cap:Nat):Prop where
 form:x= .slice a ts.length cap
 row:SS w a g 0 (ts.map zH)
 cap1:ts.length<=cap
 cap2:cap<=9223372036854775807
 len:ts.length<=10000000
 tok:∀ t∈ts,t.length<=1048576
theorem U0.next{w w':Wo}{x:Value}{ts:List (List UInt8)}{a:Option Addr}{g cap:Nat}(h:U0 w x ts a g cap)(hb:Bw w w'):U0 w' x ts a g cap:=⟨h.form,h.row.below hb,h.cap1,h.cap2,h.len,h.tok⟩
structure YV(w:Wo)(og:Nat)(o:Zv)(hasVal:Bool)(pa fa:Option Addr)(pg pc fg fc:Nat)(vt:TypeId)(vp:Value):Prop where
 path:U0 w (.slice pa o.path.length pc) o.path pa pg pc
 src:U0 w (.slice fa o.src.length fc) o.src fa fg fc
 c7:w.cell? ⟨og,7,none⟩=some (.slice pa o.path.length pc)
 c8:w.cell? ⟨og,8,none⟩=some (.slice fa o.src.length fc)
 c9:hasVal=true->w.cell? ⟨og,9,none⟩=some (.iface vt vp)
 val:hasVal=true->zS w o.val (.iface vt vp)
theorem YV.next{w w':Wo}{og:Nat}{o:Zv}{hasVal:Bool}{pa fa:Option Addr}{pg pc fg fc:Nat}{vt:TypeId}{vp:Value}(h:YV w og o hasVal pa fa pg pc fg fc vt vp)(hb:Bw w w'):YV w' og o hasVal pa fa pg pc fg fc vt vp:=
 ⟨h.path.next hb,h.src.next hb,(hb.cell (p:=⟨og,7,none⟩) (yK _ _ h.c7)).trans h.c7,(hb.cell (p:=⟨og,8,none⟩) (yK _ _ h.c8)).trans h.c8,fun e=>(hb.cell (p:=⟨og,9,none⟩) (yK _ _ (h.c9 e))).trans (h.c9 e),fun e=>(h.val e).next hb⟩
theorem zeY(v:JV)(o:Zv)(w:Wo)(ty:TypeId)(p:Value){og:Nat}{pa fa:Option Addr}{pg pc fg fc:Nat}{vt:TypeId}{vp:Value}(hw:qQ w)(hv:zo v)(hl:(ct v).length<=500000)(hr:zS w v (.iface ty p))(ho:YV w og o true pa fa pg pc fg fc vt vp):
  Calls prog 179 #[.iface ty p,.pointer (some ⟨og,0,none⟩)] w (Zj w (ZS 3 (Z4 v o.path o.val))):=by
 have b:Bw w w.drew:=(yI _ _).drew;have a:=ho.path;have d:Hid (Calls prog 209 #[.iface ty p,.slice pa o.path.length pc,.iface vt vp] w.drew (Zj w.drew (ZS 3 (Z4 v o.path o.val)))):=Sx v o.val o.path pa pg 0 pc w.drew ty vt p vp (hw.up b) hv hl (hr.next b) ((ho.val rfl).next b) (a.row.below b) a.cap1 a.cap2 a.len a.tok;have i:=ho.c7;have j:=ho.c9 rfl;clear hw hv hr ho a b;generalize o.path.length=n at *;go_in;go_wp2_with fail;go_region_law (go_simp;refine (uh d).mono ?_;rintro e k f;obtain⟨x,y,rfl,g⟩:=Zj.two f;have h:=ze g;clear f g d)
 all_goals
  go_wp2;go_ret2;exact Zj.undrew (uh h)
theorem zeZ(v:JV)(o:Zv)(w:Wo)(ty:TypeId)(p:Value){og:Nat}{b:Bool}{pa fa:Option Addr}{pg pc fg fc:Nat}{vt:TypeId}{vp:Value}(hv:zo v)(hl:(ct v).length<=500000)(hr:zS w v (.iface ty p))(ho:YV w og o b pa fa pg pc fg fc vt vp):
  Calls prog 180 #[.iface ty p,.pointer (some ⟨og,0,none⟩)] w (Zj w (ZS 3 (qe v o.path))):=by
 have a:=ho.path;have d:=ze (C7 v o.path pa pg 0 pc w ty p hv hl hr a.row a.cap1 a.cap2 a.len a.tok);have i:=ho.c7;clear hv hr ho a;generalize o.path.length=n at *;go_in;go_wp2_with fail;refine (uh d).mono ?_;rintro e j f;obtain⟨x,y,rfl,g⟩:=Zj.two f;have h:=ze g;clear f g d;go_wp2;go_ret2;exact uh h
theorem ze0(u:JV)(x:Value)(w:Wo)(bb og:Nat)(vt:TypeId)(vp:Value)(k1:w.cell? ⟨bb,0,none⟩=some (.pointer (some ⟨og,0,none⟩)))(k2:w.cell? ⟨og,9,none⟩=some (.iface vt vp))(hu:zS w u (.iface vt vp)):
  Calls prog 212 #[x,.pointer (some ⟨bb,0,none⟩)] w (Zj w (.inr u)):=by
 have a:=ze hu;clear hu;go_in;go_wp2;go_ret2;exact⟨yI _ _,.inr ⟨u,_,_,rfl,rfl,uh a⟩⟩
theorem ze1(v:JV)(o:Zv)(w:Wo)(ty:TypeId)(p:Value){og:Nat}{pa fa:Option Addr}{pg pc fg fc:Nat}{vt:TypeId}{vp:Value}(hv:zo v)(hl:(ct v).length<=500000)(hr:zS w v (.iface ty p))(ho:YV w og o true pa fa pg pc fg fc vt vp):
  Calls prog 181 #[.iface ty p,.pointer (some ⟨og,0,none⟩)] w (Zj w (ZS 3 (ZO (fun _=>some o.val) v o.path))):=by
 have d:=zY w (.cells #[.pointer (some ⟨og,0,none⟩)] 83);have l:=yH w (.cells #[.pointer (some ⟨og,0,none⟩)] 83);have a:=ho.next d;have b:=a.path;have i:W2 (w.alloc (.cells #[.pointer (some ⟨og,0,none⟩)] 83)) 212 #[.pointer (some ⟨w.heap.size,0,none⟩)] (fun _=>some o.val):=fun wx h tyh ph hx hgh hlh hrh=>
  ze0 o.val _ wx w.heap.size og vt vp (yG ((hx.block _ (by simp)).trans l) 0) ((a.next hx).c9 rfl) ((a.next hx).val rfl)
 have f:=ze (Oo 212 zeQ _ _ o.path v pa pg 0 pc _ ty p i hv hl (hr.next d) b.row b.cap1 b.cap2 b.tok);have q:=a.c7;have g:=ze d;clear hv hr ho a b i d l;generalize o.path.length=n at *;go_in;go_wp2_with fail;refine (uh f).mono ?_;rintro e r j;obtain⟨x,y,rfl,k⟩:=Zj.two j;have m:=ze (Zj.from (uh g) k);clear j k f g;go_wp2;go_ret2;exact uh m
def G1(v:JV)(o:Zv):Nat⊕JV:=match zr v o.src with
 | none=>.inl 3
 | some m=>ZS 3 (Z4 v o.path m)
theorem ze2{v:JV}{o:Zv}(h:zr v o.src=none):G1 v o= .inl 3:=by unfold G1;rw[h]
theorem ze3{v m:JV}{o:Zv}(h:zr v o.src=some m):G1 v o=ZS 3 (Z4 v o.path m):=by unfold G1;rw[h]
def Wa(v:JV)(o:Zv):Nat⊕JV:=match zr v o.path with
 | none=>.inl 3
 | some h=>if ct h=ct o.val then .inr v else .inl 5
theorem ze4{v:JV}{o:Zv}(h:zr v o.path=none):Wa v o= .inl 3:=by unfold Wa;rw[h]
theorem ze5{v m:JV}{o:Zv}(h:zr v o.path=some m):Wa v o=if ct m=ct o.val then .inr v else .inl 5:=by unfold Wa;rw[h]
theorem ze6(v:JV)(o:Zv)(w:Wo)(ty:TypeId)(p:Value){og:Nat}{b:Bool}{pa fa:Option Addr}{pg pc fg fc:Nat}{vt:TypeId}{vp:Value}(hw:qQ w)(hv:zo v)(hl:(ct v).length<=500000)(hr:zS w v (.iface ty p))(ho:YV w og o b pa fa pg pc fg fc vt vp)(hsl:o.src.length<=1048577):
  Calls prog 183 #[.iface ty p,.pointer (some ⟨og,0,none⟩)] w (Zj w (G1 v o)):=by
 have i:=ho.path;have z:=ho.src;have u:=ze (Su v hv o.src fa fg 0 fc w ty p hr z.row hsl z.tok);have r:Hid (∀ (a:Wo) (m:JV) t q,Bw w a->zS a m (.iface t q)->Calls prog 209 #[.iface ty p,.slice pa o.path.length pc,.iface t q] a (Zj a (ZS 3 (Z4 v o.path m)))):=fun a m t q hx hm=>
  Sx v m o.path pa pg 0 pc a ty t p q (hw.up hx) hv hl (hr.next hx) hm (i.row.below hx) i.cap1 i.cap2 i.len i.tok
 have J:=ho.c8;have f:Hid (∀ a,Bw w a->a.cell? ⟨og,7,none⟩=some (.slice pa o.path.length pc)):=fun a hx=>(ho.next hx).c7;clear hw hv hr ho i z;generalize hnp:o.path.length=n at *;generalize hns:o.src.length=k at *;clear hnp hns;go_in;go_wp2_with fail;refine (uh u).mono ?_;rintro e a ⟨g,⟨c,B,d,rfl,l⟩ |⟨m,H,q,d,rfl,l⟩⟩
 ·have h:zr v o.src=none:=by
   cases hq:zr v o.src with
   | none=>rfl
   | some y=>rw[hq]at d;cases d
  rw[h]at d;have G:c=3:=by injection d with d;exact d.symm
  subst G;have E:Hid (Zj w (G1 v o) (.returned (.tuple #[.nilIface,B])) a):=⟨g,.inl ⟨3,B,ze2 h,rfl,l⟩⟩;obtain⟨fb,rfl,-⟩:=l;clear u r f g d h;go_wp2;go_ret2;exact uh E
 ·have h:=Qc d;have s:=ze (ze3 h);have j:=ze (uh r a m H q g l);have I:=uh f a g;have A:=ze g;clear u r f g d l h;go_wp2_with fail;refine (uh j).mono ?_;rintro e K C;obtain⟨x,y,rfl,D⟩:=Zj.two C;have F:=ze (Zj.from (uh A) D);clear C D j A;go_wp2;go_ret2;rw[uh s];exact uh F
def Xn:Prop:=∀ (a b:JV) (w:Wo) (ta tb:TypeId) (pa pb:Value),zo a->zo b->(ct a).length<=1000000->(ct b).length<=1000000->zS w a (.iface ta pa)->zS w b (.iface tb pb) ->
 Calls prog 215 #[.iface ta pa,.iface tb pb] w (Rb (.bool (decide (ct a=ct b))) w)
theorem ze7(hEq:Xn)(v:JV)(o:Zv)(w:Wo)(ty:TypeId)(p:Value){og:Nat}{pa fa:Option Addr}{pg pc fg fc:Nat}{vt:TypeId}{vp:Value}(hv:zo v)(_hl:(ct v).length<=500000)(hu:zo o.val)(hlu:(ct o.val).length<=1000000)(hr:zS w v (.iface ty p))(ho:YV w og o true pa fa pg pc fg fc vt vp)(hsl:o.path.length<=1048577)(hgl:∀ m,zr v o.path=some m->(ct m).length<=1000000):
  Calls prog 184 #[.iface ty p,.pointer (some ⟨og,0,none⟩)] w (Zj w (Wa v o)):=by
 have A:=ho.path;have z:=ze (Su v hv o.path pa pg 0 pc w ty p hr A.row hsl A.tok);have u:Hid (∀ (a:Wo) (m:JV) t q,Bw w a->zr v o.path=some m->zS a m (.iface t q)->Calls prog 215 #[.iface t q,.iface vt vp] a (Rb (.bool (decide (ct m=ct o.val))) a)):=fun a m t q hx g hm=>
  hEq m o.val a t vt q vp (hv.get g) hu (hgl m g) hlu hm ((ho.next hx).val rfl)
 have G:=ho.c7;have i:Hid (∀ a,Bw w a->a.cell? ⟨og,9,none⟩=some (.iface vt vp)):=fun a hx=>(ho.next hx).c9 rfl;have HR:Hid (∀ a,Bw w a->zS a v (.iface ty p)):=fun a hx=>hr.next hx;clear hv hr ho A hu hEq hgl;generalize hnp:o.path.length=n at *;clear hnp;go_in;go_wp2_with fail;refine (uh z).mono ?_;rintro e a ⟨j,⟨c,B,f,rfl,r⟩ |⟨m,E,q,f,rfl,r⟩⟩
 ·have g:zr v o.path=none:=by
   cases hq:zr v o.path with
   | none=>rfl
   | some y=>rw[hq]at f;cases f
  rw[g]at f;have D:c=3:=by injection f with f;exact f.symm
  subst D;have C:Hid (Zj w (Wa v o) (.returned (.tuple #[.nilIface,B])) a):=⟨j,.inl ⟨3,B,ze4 g,rfl,r⟩⟩;obtain⟨fb,rfl,-⟩:=r;clear z u i HR j f g;go_wp2;go_ret2;exact uh C
 ·have g:=Qc f;have b:=ze (uh u a m E q j g r);have d:=ze5 g;have H:=uh i a j;have s:=ze j;clear z u i j f r g;by_cases k:ct m=ct o.val
  ·rw[yj k]at b;rw[yg k]at d;have x:=ze d;clear k d;go_wp2_with fail;refine (uh b).mono ?_;rintro e F ⟨rfl,l⟩;have h:=ze (zi (uh s) l);clear b l s;go_wp2;go_ret2;exact⟨uh h,.inr ⟨v,_,_,uh x,rfl,uh HR _ (uh h)⟩⟩
  ·rw[yk k]at b;rw[yf k]at d;have x:=ze d;clear k d;go_wp2_with fail;refine (uh b).mono ?_;rintro e F ⟨rfl,l⟩;have h:=ze (zi (uh s) l);clear b l s HR;go_wp2;go_ret2;exact⟨zi (uh h) (zY _ _),.inl ⟨5,_,uh x,rfl,_,rfl,yH _ _⟩⟩
theorem Oq(s:Bs)(hs:s.size<=1048576):(ZB s).length<=1048577/\∀ x∈ZB s,x.length<=1048576:=by
 have a:=Zg s;have b:=OV s.data.toList;refine⟨by show ((zK s.data.toList).getD []).length<=_;omega,fun x hx=>?_⟩;unfold ZB at hx
 cases hp:zK s.data.toList with
 | none=>rw[hp]at hx;simp at hx
 | some ts=>
  rw[hp]at hx;have:=Ny hp x (by simpa using hx);omega
theorem C8{w:Wo}{x:Value}{s:Bs}(h:OT w 0 x (ZB s))(hs:s.size<=1048576):∃ a g cap,x= .slice a (ZB s).length cap/\U0 w (.slice a (ZB s).length cap) (ZB s) a g cap:=by
 obtain⟨n,j⟩:=Oq s hs;obtain⟨a,g,cap,rfl,b,_⟩:=h.shape;refine⟨a,g,cap,rfl,rfl,b,?_,?_,by omega,j⟩
 all_goals
  rcases h.2 with ⟨d,m⟩ |⟨l,f,i,d,_,_,o,k,_⟩
  ·injection d with _ e2 e3;omega
  ·injection d with _ _ e3;unfold maxLen at k;omega
theorem GZ.toM{w:Wo}{S:Nat->Prop}{m:zG}{q:Gd}(h:GZ w S m q)(hS:∀ k,S k->k<w.heap.size)(hz1:m.path.size<=1048576)(hz2:m.src.size<=1048576)(u:JV)(hu:ZR m.kind=true->u=q.v):
  ∃ pa fa pg pc fg fc vt vp,YV w q.g ⟨m.kind,ZB m.path,ZB m.src,u⟩ (ZR m.kind) pa fa pg pc fg fc vt vp:=by
 obtain⟨pa,pg,pc,n,j⟩:=C8 h.path hz1;obtain⟨fa,fg,fc,o,i⟩:=C8 h.src hz2;have a:=h.blk;unfold GY at a;have b:w.cell? ⟨q.g,7,none⟩=some q.pv:=yG a 7;have d:w.cell? ⟨q.g,8,none⟩=some q.fv:=yG a 8;have f:w.cell? ⟨q.g,9,none⟩=some q.vv:=yG a 9;rw[n]at b;rw[o]at d
 cases hv:ZR m.kind with
 | false=>exact⟨pa,fa,pg,pc,fg,fc,0,.nilIface,j,i,b,d,fun e=>(by cases e),fun e=>(by cases e)⟩
 | true=>
  obtain⟨_,_,t,p,r,l⟩:=h.val hv;rw[r]at f l;refine⟨pa,fa,pg,pc,fg,fc,t,p,j,i,b,d,fun _=>f,fun _=>?_⟩;rw[show u=q.v from hu hv];exact zk.keep (fun _ _=>rfl) hS _ _ l
theorem ze8:Ve 179:=fun args w=>by simp[callFunc,go_sem,func179,Result.andThen];rfl
theorem ze9:Ve 180:=fun args w=>by simp[callFunc,go_sem,func180,Result.andThen];rfl
theorem zfa:Ve 181:=fun args w=>by simp[callFunc,go_sem,func181,Result.andThen];rfl
theorem zfb:Ve 182:=fun args w=>by simp[callFunc,go_sem,func182,Result.andThen];rfl
theorem zfc:Ve 183:=fun args w=>by simp[callFunc,go_sem,func183,Result.andThen];rfl
theorem zfd:Ve 184:=fun args w=>by simp[callFunc,go_sem,func184,Result.andThen];rfl
def Ot:Prop:=∀ (v:JV) (o:Zv) (w:Wo) (ty:TypeId) (p:Value) (og:Nat) (b:Bool) (pa fa:Option Addr) (pg pc fg fc:Nat) (vt:TypeId) (vp:Value),o.kind=4->qQ w->zo v->(ct v).length<=200000->zS w v (.iface ty p)->YV w og o b pa fa pg pc fg fc vt vp->o.src.length<=1048577->o.path.length<=1048577 ->
 Calls prog 182 #[.iface ty p,.pointer (some ⟨og,0,none⟩)] w (Zj w (Zl v o))
theorem zfe(hEq:Xn)(hMv:Ot)(v:JV)(o:Zv)(w:Wo)(ty:TypeId)(p:Value){og:Nat}{pa fa:Option Addr}{pg pc fg fc:Nat}{vt:TypeId}{vp:Value}(k1:1<=o.kind)(k6:o.kind<=6)(hw:qQ w)(hv:zo v)(hl:(ct v).length<=200000)(hu:zo o.val)(hlu:(ct o.val).length<=1000000)(hr:zS w v (.iface ty p))(ho:YV w og o (ZR o.kind) pa fa pg pc fg fc vt vp)(hsl:o.src.length<=1048577)(hpl:o.path.length<=1048577)(hgl:∀ m,zr v o.path=some m->(ct m).length<=1000000):
  ∃ fid,Vn o.kind= .func (Fn.func fid) #[] #[]/\Ve fid/\Calls prog fid #[.iface ty p,.pointer (some ⟨og,0,none⟩)] w (Zj w (Zl v o)):=by
 have a:o.kind=1∨o.kind=2∨o.kind=3∨o.kind=4∨o.kind=5∨o.kind=6:=by omega
 rcases a with e | e | e | e | e | e
 ·rw[show ZR o.kind=true by rw[e];rfl]at ho;refine⟨_,by rw[e];rfl,ze8,?_⟩;rw[show Zl v o=ZS 3 (Z4 v o.path o.val) by unfold Zl;rw[yg e]];exact zeY v o w ty p hw hv (by omega) hr ho
 ·refine⟨_,by rw[e];rfl,ze9,?_⟩;rw[show Zl v o=ZS 3 (qe v o.path) by unfold Zl;rw[yf (by omega),yg e]];exact zeZ v o w ty p hv (by omega) hr ho
 ·rw[show ZR o.kind=true by rw[e];rfl]at ho;refine⟨_,by rw[e];rfl,zfa,?_⟩;rw[show Zl v o=ZS 3 (ZO (fun _=>some o.val) v o.path) by unfold Zl;rw[yf (by omega),yf (by omega),yg e]];exact ze1 v o w ty p hv (by omega) hr ho
 ·refine⟨_,by rw[e];rfl,zfb,?_⟩;exact hMv v o w ty p og _ pa fa pg pc fg fc vt vp e hw hv hl hr ho hsl hpl
 ·refine⟨_,by rw[e];rfl,zfc,?_⟩;rw[show Zl v o=G1 v o by unfold Zl G1;rw[yf (by omega),yf (by omega),yf (by omega),yf (by omega),yg e];cases zr v o.src<;>rfl];exact ze6 v o w ty p hw hv (by omega) hr ho hsl
 ·rw[show ZR o.kind=true by rw[e];rfl]at ho;refine⟨_,by rw[e];rfl,zfd,?_⟩;rw[show Zl v o=Wa v o by unfold Zl Wa;rw[yf (by omega),yf (by omega),yf (by omega),yf (by omega),yf (by omega)];cases zr v o.path<;>rfl];exact ze7 hEq v o w ty p hv (by omega) hu hlu hr ho hpl hgl
theorem C9{w:Wo}{S S':Nat->Prop}(a b:JV)(v:Value)(ha:zo a)(hb:zo b)(h:zk w S a v)(h':zk w S' b v):ct a=ct b:=by
 induction hn:zm a using Nat.strongRecOn generalizing a b v with
 | _ n ih=>
  have p:qm a=qm b:=by
   obtain⟨q,e⟩:=VB h;obtain⟨N,d⟩:=VB h';rw[e]at d;injection d
  cases a with
  | nul=>cases b with
   | nul=>rfl
   | _=>exact absurd p (by simp only[qm];decide)
  | tt=>cases b with
   | tt=>rfl
   | ff=>rw[zk]at h;rw[zk]at h';rw[h]at h';injection h' with _ h';injection h' with h';cases h'
   | _=>exact absurd p (by simp only[qm];decide)
  | ff=>cases b with
   | ff=>rfl
   | tt=>rw[zk]at h;rw[zk]at h';rw[h]at h';injection h' with _ h';injection h' with h';cases h'
   | _=>exact absurd p (by simp only[qm];decide)
  | num l=>cases b with
   | num m=>
    rw[zk]at h h';obtain⟨z,e,hz,_⟩:=h;obtain⟨z',d,ah,_⟩:=h';rw[e]at d;injection d with _ d;injection d with _ d;subst d;rw[ct,ct,← hz,← ah]
   | _=>exact absurd p (by simp only[qm];decide)
  | str l=>cases b with
   | str m=>
    rw[zk]at h h';rw[h]at h';injection h' with _ h';injection h' with h';have e:=congrArg (fun b:Bs=>b.data.toList) h';simp only[Za]at e;rw[e]
   | _=>exact absurd p (by simp only[qm];decide)
  | arr l=>cases b with
   | arr m=>
    rw[zk]at h h';obtain⟨ab,sv,s,e,_,Z,T,hL⟩:=h;obtain⟨ab',aj,i,d,_,f,M,W⟩:=h';rw[e]at d;injection d with _ d;injection d with d;injection d with d;injection d with d;subst d;rw[Z]at f;have ag:sv=aj:=by
     injection f with f;injection f with f;simpa using f
    subst ag;obtain⟨a1,g,cap,e1,hg,I⟩:=J1 T;obtain⟨a2,g',ak,e2,aa,C⟩:=J1 M;rw[e1]at e2;injection e2 with ea el _;obtain⟨hl,Y⟩:=QY l s hL;obtain⟨hl',P⟩:=QY m i W;rw[LH ha hb];apply List.ext_getElem
    ·rw[yl,yl];omega
    ·intro j H D;rw[yl]at H D;rw[List.getElem_map,List.getElem_map];have j1:j<s.length:=by omega
     have j2:j<i.length:=by omega
     have g1:=(hg (by omega)).1;have g2:=(aa (by omega)).1;have eg:g=g':=by
      have:=g1.symm.trans (ea.trans g2);injection this with this;injection this
     have U:i[j]=s[j]:=by
      have:=I j j1;rw[eg,C j j2]at this;injection this
     have B:=P j j2 D;rw[U]at B;have hd:zm l.toL[j]<=dl l.toL:=Xa (yt _);exact ih (zm l.toL[j]) (by rw[← hn,zm,Vu];omega) _ _ s[j] ((YM l).1 ha _ (yt _)) ((YM m).1 hb _ (yt _)) (Y j j1 H) B rfl
   | _=>exact absurd p (by simp only[qm];decide)
  | obj k=>cases b with
   | obj m=>
    rw[zk]at h h';obtain⟨ob,mb,nn,s,e,_,_,Z,F,_,hM⟩:=h;obtain⟨ob',ai,nn',i,d,_,_,f,A,_,X⟩:=h';rw[e]at d;injection d with _ d;injection d with d;injection d with d;injection d with d;subst d;rw[Z]at f;have af:mb=ai:=by
     injection f with f;injection f with f;simpa using f
    subst af;have V:zZ s=zZ i:=by
     obtain⟨es,cl,q1,_,_,d1⟩:=F;obtain⟨es',cl',O,_,_,d2⟩:=A;rw[q1]at O;injection O with O;injection O with O _;subst O;exact d1.trans d2.symm
    obtain⟨u,R⟩:=YB k s hM;obtain⟨o,L⟩:=YB m i X;have gk:=(qq k).1 ha;have gm:=(qq m).1 hb;have Q:(s.map (·.1)).Nodup:=by rw[u,Qs];exact gk.1
    have E:(i.map (·.1)).Nodup:=by rw[o,Qs];exact gm.1
    have s1:Maps.size (zZ s)=s.length:=by rw[WT (WS F Q),yl]
    have s2:Maps.size (zZ i)=i.length:=by rw[WT (WS A E),yl]
    have l1:s.length=k.toL.length:=by have:=congrArg List.length u;rw[Qs]at this;simpa using this
    have l2:i.length=m.toL.length:=by have:=congrArg List.length o;rw[Qs]at this;simpa using this
    rw[LI ha hb];refine⟨by rw[V]at s1;omega,fun q hq=>?_⟩;obtain⟨x,hx,hr⟩:=R q.1 q.2 hq;have J:=GU s Q hx;have ad:q.1∈m.toL.map (·.1):=by
     have H:Maps.has (zZ s) (.string q.1)=true:=by
      rw[WR,List.contains_eq_mem,decide_eq_true_eq];exact yP.2 ⟨_,hx,rfl⟩
     rw[V,WR,List.contains_eq_mem,decide_eq_true_eq,o,Qs]at H;exact H
    obtain⟨N,K,G⟩:=yP.1 ad;obtain⟨y,hy,B⟩:=L N.1 N.2 K;have r:=GU i E hy;have U:y=x:=by
     have H:=WJ q.1 .nil s;have D:=WJ N.1 .nil i;rw[G,← V,H]at D;rw[G]at r;rw[J,r]at D;injection D with D;exact D.symm
    rw[U]at B;refine⟨N.2,by rw[← G];exact K,?_⟩;have hd:zm q.2<=dl (k.toL.map (·.2)):=Xa (yP.2 ⟨q,hq,rfl⟩);exact ih (zm q.2) (by rw[← hn,zm,JE];omega) _ _ x (gk.2 q hq).2 (gm.2 N K).2 hr B rfl
   | _=>exact absurd p (by simp only[qm];decide)
theorem Ea{tp te:TypeId}(hinfo:(prog.info? tp).map (·.comparable)=some true)(hu:prog.underlying tp=some (.pointer te))(hz:∀ w:Wo,∃ n,n≠0/\(sizeOf te).run prog w= .ok n w)(a:Nat)(w:Wo):
  (binOp .eql 61 (.iface tp (.pointer (some ⟨a,0,none⟩))) (.iface tp (.pointer (some ⟨a,0,none⟩)))).run prog w= .ok (.bool true) w:=by
 obtain⟨i,j,g⟩:=yA.1 hinfo;obtain⟨n,k,l⟩:=hz w;have b:(sameAddr ⟨a,0,none⟩ ⟨a,0,none⟩).run prog w= .ok true w:=run_sameAddr_same w _;have h:∀ d:Nat,(Op.equalIn (d+1) tp (.pointer (some ⟨a,0,none⟩)) (.pointer (some ⟨a,0,none⟩))).run prog w= .ok true w:=fun d=>by
  rw[Op.equalIn];simp[run_underlying hu,l,k,b]
 have f:∀ d:Nat,(Op.equalIn (d+1+1) 61 (.iface tp (.pointer (some ⟨a,0,none⟩))) (.iface tp (.pointer (some ⟨a,0,none⟩)))).run prog w= .ok true w:=fun d=>by
  rw[Op.equalIn];simp[run_underlying underlying61,typeInfo,j,g,h d]
 simp only[binOp];simp[Op.equal,Op.maxDepth,f 9998]
theorem Sy{w:Wo}{a b:JV}{v1 v2:Value}(h1:zS w a v1)(h2:zS w b v2)(ga:zo a)(gb:zo b):
  ∃ r,(binOp .eql 61 v1 v2).run prog w= .ok (.bool r) w/\(r=true->ct a=ct b)/\(r=false->Qo a b=false):=by
 have x:∀ w:Wo,∃ n,n≠0/\(sizeOf 105).run prog w= .ok n w:=fun w=>⟨1,by decide,by kernel_rfl⟩;have p:∀ w:Wo,∃ n,n≠0/\(sizeOf 175).run prog w= .ok n w:=fun w=>⟨1,by decide,by kernel_rfl⟩;have leaf:zk w (fun _=>False) a v1->∃ r,(binOp .eql 61 v1 v2).run prog w= .ok (.bool r) w/\(r=true->ct a=ct b)/\(r=false->Qo a b=false):=fun h=>
  ⟨Qo a b,FU (fun k hk=>hk.elim) h h2,RK,id⟩
 have f:=h1;have g:=h2;unfold zS at h1 h2;by_cases q:qm a=qm b
 ·cases a with
  | nul=>exact leaf (by rw[zk]at h1 ⊢;exact h1)
  | tt=>exact leaf (by rw[zk]at h1 ⊢;exact h1)
  | ff=>exact leaf (by rw[zk]at h1 ⊢;exact h1)
  | num l=>exact leaf (by rw[zk]at h1 ⊢;exact h1)
  | str l=>exact leaf (by rw[zk]at h1 ⊢;exact h1)
  | arr l=>cases b with
   | arr m=>
    rw[zk]at h1 h2;obtain⟨i,F,A,j,_,s,_⟩:=h1;obtain⟨d,z,v,o,_,u,_⟩:=h2;by_cases e:i=d
    ·subst e;refine⟨true,by rw[j,o];exact Ea (by kernel_rfl) underlying102 x i w,fun _=>?_,fun h=>by cases h⟩;exact C9 _ _ v1 ga gb f (by rw[j,← o];exact g)
    ·subst j;subst o;exact⟨false,FS (by kernel_rfl) underlying102 x i d e w s u,fun h=>(by cases h),fun _=>rfl⟩
   | _=>exact absurd q (by simp only[qm];decide)
  | obj l=>cases b with
   | obj m=>
    rw[zk]at h1 h2;obtain⟨i,b,C,A,j,_,_,s,_⟩:=h1;obtain⟨d,B,y,v,o,_,_,u,_⟩:=h2;by_cases e:i=d
    ·subst e;refine⟨true,by rw[j,o];exact Ea (by kernel_rfl) underlying173 p i w,fun _=>?_,fun h=>by cases h⟩;exact C9 _ _ v1 ga gb f (by rw[j,← o];exact g)
    ·subst j;subst o;exact⟨false,FS (by kernel_rfl) underlying173 p i d e w s u,fun h=>(by cases h),fun _=>rfl⟩
   | _=>exact absurd q (by simp only[qm];decide)
 ·obtain⟨D,rfl⟩:=VB h1;obtain⟨E,rfl⟩:=VB h2;exact⟨false,run_eql_iface_types _ _ _ _ underlying61 q w,fun h=>(by cases h),fun _=>Bp q⟩
def Wc(a b:JV):Prop:=∀ (w:Wo) (ta tb:TypeId) (pa pb:Value),zS w a (.iface ta pa)->zS w b (.iface tb pb) ->
 Calls prog 215 #[.iface ta pa,.iface tb pb] w (Rb (.bool (decide (ct a=ct b))) w)
theorem Eb{w:Wo}{l:JL}{sv:Value}{xs:List Value}(hrow:Yu w (fun k=>k<w.heap.size) sv xs)(hL:Zi w (fun k=>k<w.heap.size) l xs):
  ∃ a g cap,sv= .slice a l.toL.length cap/\(0<l.toL.length->a=some ⟨g,0,none⟩/\g<w.heap.size)/\∀ j (hj:j<l.toL.length),∃ t p,w.cell? ⟨g,j,none⟩=some (.iface t p)/\zS w l.toL[j] (.iface t p):=by
 obtain⟨a,g,cap,e,m,i⟩:=J1 hrow;obtain⟨h,b⟩:=QY l xs hL;refine⟨a,g,cap,by rw[← h];exact e,by rw[← h];exact m,fun j hj=>?_⟩;have d:=b j (by omega) hj;obtain⟨t,p,f⟩:=Qe d;refine⟨t,p,by rw[i j (by omega),f],?_⟩;rw[f]at d;exact d
theorem zff (l m:JL) (hE:∀ u∈l.toL,∀ u'∈m.toL,Wc u u') (w:Wo) (a1 a2:Option Addr) (g1 g2 c1 c2:Nat) (hl:l.toL.length<=1000000)
  (h1:0<l.toL.length->a1=some ⟨g1,0,none⟩/\g1<w.heap.size) (h2:0<m.toL.length->a2=some ⟨g2,0,none⟩/\g2<w.heap.size)
  (k1:∀ j (hj:j<l.toL.length),∃ t p,w.cell? ⟨g1,j,none⟩=some (.iface t p)/\zS w l.toL[j] (.iface t p)) (k2:∀ j (hj:j<m.toL.length),∃ t p,w.cell? ⟨g2,j,none⟩=some (.iface t p)/\zS w m.toL[j] (.iface t p)):
  Calls prog 240 #[.slice a1 l.toL.length c1,.slice a2 m.toL.length c2,.func (Fn.func 215) #[] #[]] w fun e w'=>e= .returned (.bool (decide (l.toL.map ct=m.toL.map ct)))/\Bw w w':=by
 by_cases s:l.toL.length=m.toL.length
 ·have G:Hid (∀ (wr:Wo) (j:Nat) (hj:j < l.toL.length),Bw w wr->∃ t p i g,wr.cell? ⟨g1,j,none⟩=some (.iface t p)/\wr.cell? ⟨g2,j,none⟩=some (.iface i g) /\
    Calls prog 215 #[.iface t p,.iface i g] wr (Rb (.bool (decide (ct (l.toL.getD j .nul)=ct (m.toL.getD j .nul)))) wr)):=by
   intro wr j hj d;have a:j<m.toL.length:=by omega
   obtain⟨t,p,e,J⟩:=k1 j hj;obtain⟨i,g,H,D⟩:=k2 j a;have B:l.toL.getD j .nul=l.toL[j]:=by simp[List.getD,hj]
   have C:m.toL.getD j .nul=m.toL[j]:=by simp[List.getD,a]
   rw[B,C];exact⟨t,p,i,g,(d.cell (p:=⟨g1,j,none⟩) (h1 (by omega)).2).trans e,(d.cell (p:=⟨g2,j,none⟩) (h2 (by omega)).2).trans H,hE _ (yt hj) _ (yt a) wr t i p g (J.next d) (D.next d)⟩
  have y:Hid (0<l.toL.length->a1=some ⟨g1,0,none⟩/\a2=some ⟨g2,0,none⟩):=fun h=>⟨(h1 h).1,(h2 (by omega)).1⟩;have o:Hid ((∀ j (hj:j<l.toL.length),ct (l.toL.getD j .nul)=ct (m.toL.getD j .nul))->decide (l.toL.map ct=m.toL.map ct)=true):=fun h=>yj (List.ext_getElem (by simpa using s) fun j hj _=>by
   rename_i a;rw[yl]at hj a;have:=h j hj;rw[List.getElem_map,List.getElem_map];simpa [List.getD,hj,a]using this)
  have z:Hid (∀ j (hj:j<l.toL.length),¬ ct (l.toL.getD j .nul)=ct (m.toL.getD j .nul)->decide (l.toL.map ct=m.toL.map ct)=false):=fun j hj h=>yk fun e=>h (by
   have:=congrArg (fun L=>L[j]?) e;have a:j<m.toL.length:=by omega
   simp only[List.getElem?_map]at this;rw[yy hj,yy a]at this;simpa [List.getD,hj,a]using this)
  clear hE h1 h2 k1 k2;generalize x:(decide (l.toL.map ct=m.toL.map ct))=Q at *;clear x;rw[← s];clear s;generalize hN:l.toL.length=N at *;clear hN;go_in;go_wp2_with fail;go_loopw [17] (fun iv wr=>∃ k:Nat,k<=N/\iv= .int .i64 (k:Int)/\Bw w wr/\Hid (∀ j (hj:j<N),j<k->ct (l.toL.getD j .nul)=ct (m.toL.getD j .nul))) (fun iv _=>N - (intOf iv).toNat)
  case atStart=>exact⟨0,yu _,rfl,yI _ _,fun j _ hj=>by omega⟩
  case round=>
   obtain⟨k,O,rfl,d,q⟩:=hrel;by_cases r:k<N
   ·obtain⟨rfl,rfl⟩:=uh y (by omega);obtain⟨t,p,i,g,K,M,b⟩:=uh G wr k r d;have HC:=ze b;have v:=ze d;clear b d;go_wp2_with fail;refine (uh HC).mono ?_;rintro e S ⟨rfl,E⟩;have n:=ze (zi (uh v) E);clear HC E K M v;by_cases f:ct (l.toL.getD k .nul)=ct (m.toL.getD k .nul)
    ·rw[yj f];have F:Hid (∀ j (hj:j<N),j<k+1->ct (l.toL.getD j .nul)=ct (m.toL.getD j .nul)):=fun j hj h=>by
      by_cases B:j=k
      ·subst B;exact f
      ·exact uh q j hj (by omega)
     clear f q;go_wp2;go_roundw
     case rel=>exact⟨k+1,by omega,by go_num,uh n,F⟩
     case measure=>simp[intOf];omega
    ·rw[yk f];have A:=ze (uh z k r f);clear f q;go_wp2;go_ret;exact⟨by rw[uh A];rfl,uh n⟩
   ·have A:=ze (uh o fun j hj=>uh q j hj (by omega));have v:=ze d;clear q d;go_wp2;go_ret;exact⟨by rw[uh A];rfl,uh v⟩
 ·have x:decide (l.toL.map ct=m.toL.map ct)=false:=yk fun e=>s (by simpa using congrArg List.length e);rw[x];have I:¬ ((l.toL.length:Int)=(m.toL.length:Int)):=by omega
  clear x hE k1 k2 h1 h2 s;generalize l.toL.length=P at *;generalize m.toL.length=R at *;go_in;go_wp2;go_ret;exact⟨rfl,yI _ _⟩
end Go.Proofs.YtpaecnbdoljafaaGreatDoor
namespace Go.Proofs.YtpaecnbdoljafaaGreatDoor
open Go.RowKit Go.Sort Go.Proofs.Tryz
theorem Sz{m:JM}{q:List UInt8×JV}(h:q∈m.toL):(quoted q.1).length+1+(ct q.2).length<=(ct (.obj m)).length:=by
 have a:=Jm m;have b:=V8 Zo h;simp only[Zo]at b;unfold hold at a;omega
theorem zfg (k m:JM) (gk:zo (.obj k)) (gm:zo (.obj m)) (lk:(ct (.obj k)).length<=1000000) (hE:∀ q∈k.toL,∀ q'∈m.toL,Wc q.2 q'.2) (w:Wo) (b1 b2 n1 n2:Nat) (xs ys:List (List UInt8×Value))
  (h1:w.ownsMap prog 9 RH b1 n1 (zZ xs)) (h2:w.ownsMap prog 9 RH b2 n2 (zZ ys)) (r1:Zt w (fun k=>k<w.heap.size) k xs) (r2:Zt w (fun k=>k<w.heap.size) m ys):
  Calls prog 241 #[.map (some b1),.map (some b2),.func (Fn.func 215) #[] #[]] w fun e w'=>e= .returned (.bool (decide (ct (.obj k)=ct (.obj m))))/\Bw w w':=by
 obtain⟨f,I⟩:=YB k xs r1;obtain⟨d,o⟩:=YB m ys r2;have g1:=(qq k).1 gk;have g2:=(qq m).1 gm;have M:(xs.map (·.1)).Nodup:=by rw[f,Qs];exact g1.1
 have z:(ys.map (·.1)).Nodup:=by rw[d,Qs];exact g2.1
 have l1:xs.length=k.toL.length:=by have:=congrArg List.length f;rw[Qs]at this;simpa using this
 have l2:ys.length=m.toL.length:=by have:=congrArg List.length d;rw[Qs]at this;simpa using this
 have s1:Maps.size (zZ xs)=k.toL.length:=by rw[WT (WS h1 M),yl,l1]
 have s2:Maps.size (zZ ys)=m.toL.length:=by rw[WT (WS h2 z),yl,l2]
 have B:=LI gk gm;have hln1:∀ ty,(Builtin.len_ #[172] ty #[.map (some b1)]).run prog w= .ok (.int .i64 (k.toL.length:Int)) w:=fun ty=>by
  have:=h1.len underlying172 ty;rw[s1]at this;exact this
 have R:∀ ty,(Builtin.len_ #[172] ty #[.map (some b2)]).run prog w= .ok (.int .i64 (m.toL.length:Int)) w:=fun ty=>by
  have:=h2.len underlying172 ty;rw[s2]at this;exact this
 have hb1:=h1.lt;have hb2:=h2.lt;by_cases hn:k.toL.length=m.toL.length
 ·have D:Hid (∀ (wr:Wo) (a:Lit->Bool) (x:List UInt8) (c:Value) (l:Lit) (y1:DataW Value) (y2:List MemPlace),Bw w wr->keyOf prog 9 (.string (zh x))=some l->a l=true->(a l=true->Maps.has (zZ xs) l=true)->RH c=some (y1,y2)->(∀ zd,(zZ xs).atKey l zd=y1) ->
    ∃ t p u,l= .string x/\c= .iface t p/\(x,u)∈k.toL/\((∃ v0,(Instr.lookup 172 (.map (some b2)) (.string (zh x)) true).run prog wr= .ok (.tuple #[v0,.bool false]) wr/\decide (ct (.obj k)=ct (.obj m))=false) ∨
     ∃ t' p' J,(Instr.lookup 172 (.map (some b2)) (.string (zh x)) true).run prog wr= .ok (.tuple #[.iface t' p',.bool true]) wr/\(x,J)∈m.toL/\(¬ ct u=ct J->decide (ct (.obj k)=ct (.obj m))=false) /\
      Calls prog 215 #[.iface t p,.iface t' p'] wr (Rb (.bool (decide (ct u=ct J))) wr))):=by
   intro wr a x c l y1 y2 hwr s hl hh P K;obtain⟨x',hx',hkl,_⟩:=Maps.keyOf_str underlying9 s;have ex:x'=x:=by
    have:Value.string (zh x)=encStr x':=hx';simp only[encStr,Value.string.injEq]at this;have h2:=congrArg (fun b:Bs=>b.data.toList) this;simpa [zh]using h2.symm
   subst ex;subst hkl;have L:=hh hl;rw[WR,f]at L;simp only[List.contains_eq_mem,decide_eq_true_eq]at L;rw[Qs]at L;obtain⟨q,i,hqx⟩:=yP.1 L;obtain⟨N,v⟩:=q;simp only at hqx;subst hqx;obtain⟨x0,hx0,hr⟩:=I N v i;have ad:=GU xs M hx0;have e1:=(K (.held .nilIface)).symm.trans (WJ N (.held .nilIface) xs);rw[ad]at e1;injection P with P;injection P with P _;subst P;injection e1 with e1;subst e1;obtain⟨t,p,rfl⟩:=Qe hr;have hkn:N.length<=10000000:=by have:=Sz i;have:=KF N;simp only at *;omega
   obtain⟨v0,g,hv0⟩:=Rg (YR h2 (hwr.block b2 hb2)) N hkn;have j:=FC N ys;refine⟨t,p,v,rfl,rfl,i,?_⟩
   cases n:(Je ys N).isSome with
   | false=>
    rw[n]at g;refine .inl ⟨v0,g,yk fun e=>?_⟩;obtain⟨u,hu,_⟩:=(B.1 e).2 _ i;rw[n,d,Qs]at j;have:N∈m.toL.map (·.1):=yP.2 ⟨_,hu,rfl⟩;rw[List.contains_eq_mem,yj this]at j
    cases j
   | true=>
    rw[n]at g j;have hin2:N∈m.toL.map (·.1):=by
     rw[d,Qs]at j;simpa using j.symm
    obtain⟨q',C,eq'⟩:=yP.1 hin2;obtain⟨k2,J⟩:=q';simp only at eq';subst eq';obtain⟨y0,hy0,hr'⟩:=o k2 J C;have hl':=GU ys z hy0;have ey:v0=y0:=by have:=(hv0 n).symm.trans hl';injection this
    subst ey;obtain⟨t',p',rfl⟩:=Qe hr';refine .inr ⟨t',p',J,g,C,fun hne=>yk fun e=>?_,hE _ i _ C wr t t' p p' (zS.next hr hwr) (zS.next hr' hwr)⟩;obtain⟨u2,hu2,e2⟩:=(B.1 e).2 _ i;have:(k2,J)=(k2,u2):=Ph g2.1 C hu2 rfl;injection this with _ this;exact hne (by rw[this];exact e2)
  have HZ:Hid (∀ q∈k.toL,Maps.has (zZ xs) (.string q.1)=false->∃ u,(q.1,u)∈m.toL/\ct q.2=ct u):=fun q i h=>by
   rw[WR,f,Qs,List.contains_eq_mem,decide_eq_false_iff_not]at h;exact absurd (yP.2 ⟨q,i,rfl⟩) h
  have G:Hid ((∀ q∈k.toL,∃ u,(q.1,u)∈m.toL/\ct q.2=ct u)->decide (ct (.obj k)=ct (.obj m))=true):=fun h=>yj (B.2 ⟨hn,h⟩);have HUQ:Hid (∀ q∈k.toL,∀ q'∈k.toL,q.1=q'.1->q=q'):=fun q i q' C e=>Ph g1.1 i C e;have HOW:=ze h1;rw[← hn]at R;generalize decide (ct (.obj k)=ct (.obj m))=Q at *;clear hE h1 h2 r1 r2 f I d o g1 g2 M z l1 l2 s1 s2 B hn gk gm lk;generalize k.toL.length=NN at *;go_in;go_wp2_with (first |(at_range;refine wpList_range_own _ rfl _ 172 rfl 9 61 (Maps.string_keyed underlying9) underlying172 RH b1 n1 (zZ xs) rfl (uh HOW) ?_;intro w0 S A hs0) | go_in);have B0:Hid (Bw w w0):=⟨A.os,A.tape,A.output,A.size,fun k hk=>A.block k hk (by simp)⟩;have E:=ze S;clear S A hs0 HOW hln1 R;obtain⟨r,hr⟩:∃ r,w.heap.size=r:=⟨_,rfl⟩;have HRR:=ze hr;rw[hr]at E;simp only[hr];clear hr;go_frame;go_loopw [18] (fun _ wr=>∃ a ab,wr.ranges prog 9 RH b1 r n1 (zZ xs) a ab/\(∀ l,a l=true->Maps.has (zZ xs) l=true)/\Bw w wr/\Hid (∀ q∈k.toL,a (.string q.1)=false->∃ u,(q.1,u)∈m.toL/\ct q.2=ct u)) (fun _ wr=>wr.rangeLeft b1 r)
  case atStart=>exact⟨_,_,uh E,fun _ h=>h,uh B0,HZ⟩
  case round=>
   obtain⟨a,ab,hrg,U,bw,hd⟩:=hrel;have HRG:=ze hrg;have F:=ze U;have W:=ze bw;clear hrg U bw E B0 HZ;go_wp2_with (first |(at_next;(refine wpList_next_ranges (α:=List UInt8) (β:=Value) _ rfl _ rfl 9 (Maps.string_keyed underlying9) RH (fun x=>.string (zh x)) (fun v=>v) (fun key l hk=>by obtain⟨x,hx,_⟩:=Maps.keyOf_str underlying9 hk;exact⟨x,hx⟩) (fun v y _=>⟨v,rfl⟩) b1 r n1 (zZ xs) a ab rfl (uh HRG) ?_ ?_)) | go_in)
   ·intro _ hl0;have HQ:=ze (uh G fun q i=>uh hd q i (hl0 _));clear D G hl0 hd F HUQ;go_wp2;go_ret;exact⟨by rw[uh HQ];rfl,uh W⟩
   ·intro x c l y1 y2 w2 cnt2 s n P K T hlt hg2 hs2 hen;have aa:Bw w w2:=(uh W).trans (US hg2 (by have:=uh HRR;omega) (uh W).size);obtain⟨t,p,u,rfl,rfl,hu,hcs⟩:=uh D w2 a x c l y1 y2 aa s n (uh F l) P K;have HRG2:=ze T;have V:=ze aa;have HLT:=ze hlt;clear s n P K T hg2 hs2 aa D hlt;rcases hcs with ⟨v0,g,i⟩ |⟨t',p',J,g,hu',hno,H⟩
    ·have HQ:=ze i;clear i G hd hu;go_wp2;go_ret;exact⟨by rw[uh HQ];rfl,uh V⟩
    ·have HC:=ze H;have X:=ze hno;have HU:=ze hu;have Y:=ze hu';clear H hno hu hu';go_wp2_with fail;refine (uh HC).mono ?_;rintro e w3 ⟨rfl,Z⟩;have O:=ze ((uh HRG2).kept (⟨Z.os,Z.tape,Z.output,Z.size,fun k hk _=>Z.block k hk⟩:w2.grownBy w3 none) (by simp) (by simp));have HB3:=ze (zi (uh V) Z);clear HC Z g hen V;by_cases he:ct u=ct J
     ·rw[yj he];have HD:Hid (∀ q∈k.toL,Jf a x (.string q.1)=false->∃ u,(q.1,u)∈m.toL/\ct q.2=ct u):=fun q i h=>by
       by_cases ex:q.1=x
       ·have:=uh HUQ q i (x,u) (uh HU) ex;subst this;exact⟨J,uh Y,he⟩
       ·rw[K6 ex]at h;exact uh hd q i h
      clear he hd X HU Y;go_wp2;go_roundw
      case rel=>exact⟨Jf a x,cnt2,uh O,fun l h=>uh F l (by unfold Jf at h;rw[Bool.and_eq_true]at h;exact h.1),uh HB3,HD⟩
      case measure=>rw[(uh O).left_eq,(uh HRG).left_eq];exact uh HLT
     ·rw[yk he];have HQ:=ze (uh X he);clear he hd X HU Y;go_wp2;go_ret;exact⟨by rw[uh HQ];rfl,uh HB3⟩
 ·have i:decide (ct (.obj k)=ct (.obj m))=false:=yk fun e=>hn (B.1 e).1;rw[i];have hne:¬ ((k.toL.length:Int)=(m.toL.length:Int)):=by omega
  clear i hE h1 h2 r1 r2 f I d o g1 g2 M z l1 l2 s1 s2 B hn gk gm lk;generalize k.toL.length=N1 at *;generalize m.toL.length=N2 at *;go_in;go_wp2;go_ret;exact⟨rfl,yI _ _⟩
end Go.Proofs.YtpaecnbdoljafaaGreatDoor
namespace Go.Proofs.YtpaecnbdoljafaaGreatDoor
open Go.RowKit Go.Proofs.Tryz
theorem SB(a:Addr)(w:Wo):(Instr.typeAssert (.iface 102 (.pointer (some a))) 61 102 true).run prog w= .ok (.tuple #[.pointer (some a),.bool true]) w:=by kernel_rfl
theorem SC(a:Addr)(w:Wo):(Instr.typeAssert (.iface 173 (.pointer (some a))) 61 173 true).run prog w= .ok (.tuple #[.pointer (some a),.bool true]) w:=by kernel_rfl
theorem SE{a:JV}(h:∀ l,a≠.arr l)(p:Value)(w:Wo):(Instr.typeAssert (.iface (qm a) p) 61 102 true).run prog w= .ok (.tuple #[.pointer none,.bool false]) w:=by
 cases a with
 | arr l=>exact absurd rfl (h l)
 | nul=>kernel_rfl
 | tt=>kernel_rfl
 | ff=>kernel_rfl
 | num _=>kernel_rfl
 | str _=>kernel_rfl
 | obj _=>kernel_rfl
theorem Ed{a:JV}(h:∀ l,a≠.obj l)(p:Value)(w:Wo):(Instr.typeAssert (.iface (qm a) p) 61 173 true).run prog w= .ok (.tuple #[.pointer none,.bool false]) w:=by
 cases a with
 | obj l=>exact absurd rfl (h l)
 | nul=>kernel_rfl
 | tt=>kernel_rfl
 | ff=>kernel_rfl
 | num _=>kernel_rfl
 | str _=>kernel_rfl
 | arr _=>kernel_rfl
theorem zfh(l m:JL)(gl:zo (.arr l))(gm:zo (.arr m))(ll:(ct (.arr l)).length<=1000000)(hE:∀ u∈l.toL,∀ u'∈m.toL,Wc u u'):Wc (.arr l) (.arr m):=by
 intro w ta tb pa U v x;obtain⟨N,H,f,-⟩:=Sy v x gl gm;unfold zS at v x;rw[zk]at v x;obtain⟨E,X,xs,C,O,k,g,G⟩:=v;obtain⟨h,P,R,D,I,n,d,i⟩:=x;injection C with C e1';injection D with D e2';subst C;subst e1';subst D;subst e2';obtain⟨A,K,c1,rfl,o,r⟩:=Eb g G;obtain⟨B,L,c2,rfl,q,s⟩:=Eb d i;have M:l.toL.length<=1000000:=On ll;have V:w.cell? ⟨E,0,none⟩=some (.slice A l.toL.length c1):=yG k 0;have W:w.cell? ⟨h,0,none⟩=some (.slice B m.toL.length c2):=yG n 0;have z:Hid (Calls prog 240 #[.slice A l.toL.length c1,.slice B m.toL.length c2,.func (Fn.func 215) #[] #[]] w.drew fun e w'=>e= .returned (.bool (decide (ct (.arr l)=ct (.arr m))))/\Below w.drew.heap.size w.drew w'):=by
  have:=zff l m hE w.drew A B K L c1 c2 M o q (fun j hj=>by obtain⟨t,p,a,b⟩:=r j hj;exact⟨t,p,a,b.next (yI _ _).drew⟩) (fun j hj=>by obtain⟨t,p,a,b⟩:=s j hj;exact⟨t,p,a,b.next (yI _ _).drew⟩);rw[show decide (ct (.arr l)=ct (.arr m))=decide (l.toL.map ct=m.toL.map ct) by rw[Bool.eq_iff_iff,decide_eq_true_eq,decide_eq_true_eq];exact LH gl gm];exact this
 have Y:=SB ⟨E,0,none⟩;have Z:=SB ⟨h,0,none⟩;clear hE gl gm ll k n g d G i r s o q;generalize l.toL.length=S at *;generalize m.toL.length=T at *
 cases N with
 | true=>
  have J:Hid (decide (ct (.arr l)=ct (.arr m))=true):=yj (f rfl);clear f z;go_in;go_wp2;go_ret;exact⟨by rw[uh J];rfl,yI _ _⟩
 | false=>
  clear f;generalize decide (ct (.arr l)=ct (.arr m))=Q at *;go_in;go_wp2_with fail;go_region_law (go_simp;refine (uh z).mono ?_;rintro e w1 ⟨rfl,F⟩;have y:=ze ((yI _ w).drew.trans F);clear F z)
  all_goals
   go_wp2;go_ret;exact⟨rfl,uh y⟩
theorem zfi(k m:JM)(gk:zo (.obj k))(gm:zo (.obj m))(lk:(ct (.obj k)).length<=1000000)(hE:∀ q∈k.toL,∀ q'∈m.toL,Wc q.2 q'.2):Wc (.obj k) (.obj m):=by
 intro w P R pa J o p;obtain⟨E,C,d,-⟩:=Sy o p gk gm;unfold zS at o p;rw[zk]at o p;obtain⟨u,g,z,H,x,_,F,l,f,_,B⟩:=o;obtain⟨i,v,A,I,y,_,G,n,b,_,j⟩:=p;injection x with x e1';injection y with y e2';subst x;subst e1';subst y;subst e2';have K:w.cell? ⟨u,0,none⟩=some (.map (some g)):=yG l 0;have L:w.cell? ⟨i,0,none⟩=some (.map (some v)):=yG n 0;have s:Hid (Calls prog 241 #[.map (some g),.map (some v),.func (Fn.func 215) #[] #[]] w.drew fun e w'=>e= .returned (.bool (decide (ct (.obj k)=ct (.obj m))))/\Below w.drew.heap.size w.drew w'):=
  zfg k m gk gm lk hE w.drew g v z A H I f.drew b.drew (Zt.keep (w:=w) (w':=w.drew) (fun _ _=>rfl) (fun _ h=>h) _ _ B) (Zt.keep (w:=w) (w':=w.drew) (fun _ _=>rfl) (fun _ h=>h) _ _ j)
 have M:=SC ⟨u,0,none⟩;have N:=SC ⟨i,0,none⟩;have O:∀ w:Wo,(Instr.typeAssert (.iface 173 (.pointer (some ⟨u,0,none⟩))) 61 102 true).run prog w= .ok (.tuple #[.pointer none,.bool false]) w:=fun w=>SE (a:=.obj k) (fun _ e=>by cases e) _ w;clear hE gk gm lk l n f b B j
 cases E with
 | true=>
  have D:Hid (decide (ct (.obj k)=ct (.obj m))=true):=yj (d rfl);clear d s;go_in;go_wp2;go_ret;exact⟨by rw[uh D];rfl,yI _ _⟩
 | false=>
  clear d;generalize decide (ct (.obj k)=ct (.obj m))=Q at *;go_in;go_wp2_with fail;go_region_law (go_simp;refine (uh s).mono ?_;rintro e S ⟨rfl,g⟩;have r:=ze ((yI _ w).drew.trans g);clear g s)
  all_goals
   go_wp2;go_ret;exact⟨rfl,uh r⟩
theorem zfj(a b:JV)(ga:zo a)(gb:zo b)(h1:∀ l m,a= .arr l->b≠.arr m)(h2:∀ l m,a= .obj l->b≠.obj m):Wc a b:=by
 intro w C D pa p i n;obtain⟨A,z,d,g⟩:=Sy i n ga gb;have j:C=qm a:=by obtain⟨q,e⟩:=VB i;injection e
 have k:D=qm b:=by obtain⟨q,e⟩:=VB n;injection e
 cases A with
 | true=>
  have o:Hid (decide (ct a=ct b)=true):=yj (d rfl);clear d g i n j k h1 h2 ga gb;go_in;go_wp2;go_ret;exact⟨by rw[uh o];rfl,yI _ _⟩
 | false=>
  have o:Hid (decide (ct a=ct b)=false):=yk fun e=>by
   rcases KZ ga.ok gb.ok e with h |⟨l,m,f,v⟩ |⟨l,m,f,v⟩
   ·rw[g rfl]at h;cases h
   ·exact h1 l m f v
   ·exact h2 l m f v
  by_cases s:∃ l,a= .arr l
  ·obtain⟨l,rfl⟩:=s;have r:∀ w:Wo,(Instr.typeAssert (.iface (qm b) p) 61 102 true).run prog w= .ok (.tuple #[.pointer none,.bool false]) w:=fun w=>SE (a:=b) (fun m e=>h1 l m rfl e) p w;unfold zS at i;rw[zk]at i;obtain⟨u,H,E,f,-⟩:=i;injection f with _ f;subst f;have x:=SB ⟨u,0,none⟩;rw[← k]at r;simp only[qm]at j;subst j;clear d g n h1 h2 ga gb k;go_in;go_wp2_with fail;go_quiet (fail);go_wp2;go_ret;exact⟨by rw[uh o];rfl,Kh w _⟩
  ·have x:∀ w:Wo,(Instr.typeAssert (.iface (qm a) pa) 61 102 true).run prog w= .ok (.tuple #[.pointer none,.bool false]) w:=fun w=>SE (a:=a) (fun l e=>s ⟨l,e⟩) pa w;by_cases y:∃ l,a= .obj l
   ·obtain⟨l,rfl⟩:=y;have B:∀ w:Wo,(Instr.typeAssert (.iface (qm b) p) 61 173 true).run prog w= .ok (.tuple #[.pointer none,.bool false]) w:=fun w=>Ed (a:=b) (fun m e=>h2 l m rfl e) p w;unfold zS at i;rw[zk]at i;obtain⟨u,F,G,E,f,-⟩:=i;injection f with _ f;subst f;have r:=SC ⟨u,0,none⟩;rw[← k]at B;rw[← j]at x;simp only[qm]at j;subst j;clear d g n h1 h2 ga gb s k;go_in;go_wp2_with fail;go_quiet (fail);go_wp2;go_ret;exact⟨by rw[uh o];rfl,Kh w _⟩
   ·have r:∀ w:Wo,(Instr.typeAssert (.iface (qm a) pa) 61 173 true).run prog w= .ok (.tuple #[.pointer none,.bool false]) w:=fun w=>Ed (a:=a) (fun l e=>y ⟨l,e⟩) pa w;rw[← j]at x r;clear d g i n h1 h2 ga gb s y j k;go_in;go_wp2;go_ret;exact⟨by rw[uh o];rfl,yI _ _⟩
theorem zfk(a b:JV)(ga:zo a)(gb:zo b)(la:(ct a).length<=1000000)(lb:(ct b).length<=1000000):Wc a b:=by
 induction hn:zm a using Nat.strongRecOn generalizing a b with
 | _ n ih=>
  by_cases d:∃ l m,a= .arr l/\b= .arr m
  ·obtain⟨l,m,rfl,rfl⟩:=d;refine zfh l m ga gb la fun u hu u' hu'=>ih (zm u) ?_ u u' ((YM l).1 ga u hu) ((YM m).1 gb u' hu') ?_ ?_ rfl
   ·have:=Xa hu;rw[← hn,zm,Vu];omega
   ·have:=LJ hu;omega
   ·have:=LJ hu';omega
  ·by_cases f:∃ l m,a= .obj l/\b= .obj m
   ·obtain⟨l,m,rfl,rfl⟩:=f;refine zfi l m ga gb la fun q hq q' hq'=>ih (zm q.2) ?_ q.2 q'.2 (((qq l).1 ga).2 q hq).2 (((qq m).1 gb).2 q' hq').2 ?_ ?_ rfl
    ·have:=Xa (yP.2 ⟨q,hq,rfl⟩:q.2∈l.toL.map (·.2));rw[← hn,zm,JE];omega
    ·have:=Sz hq;omega
    ·have:=Sz hq';omega
   ·exact zfj a b ga gb (fun l m e1 e2=>d ⟨l,m,e1,e2⟩) (fun l m e1 e2=>f ⟨l,m,e1,e2⟩)
theorem Ee{a b:List (List UInt8)}:a.map zH=b.map zH↔a=b:=by
 constructor
 ·intro h;have:=congrArg (List.map fun s:Bs=>s.data.toList) h;rw[List.map_map,List.map_map]at this;have e:((fun s:Bs=>s.data.toList)∘zH)=id:=by funext t;simp[zH]
  rwa [e,List.map_id,List.map_id]at this
 ·intro h;rw[h]
def JN(v:JV)(o:Zv):Nat⊕JV:=match zr v o.src with
 | none=>.inl 3
 | some m=>if o.src=o.path then .inr v else if o.src.isPrefixOf o.path then .inl 6 else match qe v o.src with
  | none=>.inl 3
  | some r=>ZS 3 (Z4 r o.path m)
theorem zfl{v:JV}{o:Zv}(h:zr v o.src=none):JN v o= .inl 3:=by unfold JN;rw[h]
theorem zfm{v m:JV}{o:Zv}(h:zr v o.src=some m)(e:o.src=o.path):JN v o= .inr v:=by unfold JN;rw[h];simp only;rw[yg e]
theorem zfn{v m:JV}{o:Zv}(h:zr v o.src=some m)(e:¬ o.src=o.path)(hp:o.src.isPrefixOf o.path=true):JN v o= .inl 6:=by unfold JN;rw[h];simp only;rw[yf e,yg hp]
theorem Ef{v m:JV}{o:Zv}(h:zr v o.src=some m)(e:¬ o.src=o.path)(hp:¬ o.src.isPrefixOf o.path=true)(hd:qe v o.src=none):JN v o= .inl 3:=by unfold JN;rw[h];simp only;rw[yf e,yf hp,hd]
theorem Eg{v m r:JV}{o:Zv}(h:zr v o.src=some m)(e:¬ o.src=o.path)(hp:¬ o.src.isPrefixOf o.path=true)(hd:qe v o.src=some r):JN v o=ZS 3 (Z4 r o.path m):=by unfold JN;rw[h];simp only;rw[yf e,yf hp,hd]
theorem Eh{a b:List (List UInt8)}:a.isPrefixOf b=true↔a=b.take a.length:=by
 rw[List.isPrefixOf_iff_prefix,List.prefix_iff_eq_take]
theorem SS.takeT{w:Wo}{a:Option Addr}{g off:Nat}{ts:List (List UInt8)}(h:SS w a g off (ts.map zH))(k:Nat)(hk:k<=ts.length):SS w a g off ((ts.take k).map zH):=by
 refine⟨fun h0=>h.ad ?_,fun j hj=>?_⟩
 ·rw[yl,ym]at h0;rw[yl];omega
 ·rw[yl,ym]at hj;rw[h.cell j (by rw[yl];omega),XQ (by omega),XQ (by rw[ym];omega)];congr 3;simp only[List.getD,List.getElem?_take];rw[yg (by omega)]
theorem zfo(v:JV)(o:Zv)(w:Wo)(ty:TypeId)(p:Value){og:Nat}{b:Bool}{pa fa:Option Addr}{pg pc fg fc:Nat}{vt:TypeId}{vp:Value}(hw:qQ w)(hv:zo v)(hl:(ct v).length<=200000)(hr:zS w v (.iface ty p))(ho:YV w og o b pa fa pg pc fg fc vt vp)(hsl:o.src.length<=1048577):
  Calls prog 182 #[.iface ty p,.pointer (some ⟨og,0,none⟩)] w (Zj w (JN v o)):=by
 have Q:=ho.path;have P:=ho.src;have HV:=ze (Su v hv o.src fa fg 0 fc w ty p hr P.row hsl P.tok);have HR:Hid (∀ E,Bw w E->zS E v (.iface ty p)):=fun E hx=>hr.next hx;have L:Hid (∀ (X:Wo) (e:Bool),decide (o.src=o.path)=e->Bw w X->Calls prog 214 #[.slice fa o.src.length fc,.slice pa o.path.length pc] X (Rb (.bool e) X)):=by
  intro X e O hx;have:=DX (o.src.map zH) (o.path.map zH) fa pa fg 0 fc pg 0 pc X (P.row.below hx) (Q.row.below hx) (by rw[yl];omega);rw[yl,yl]at this;refine this.mono ?_;rintro e' w' ⟨rfl,n,rfl⟩;exact⟨by rw[← O];congr 2;simp only[Ee],Kh X n⟩
 have D:Hid (∀ (X:Wo) (e:Bool),o.src.length<o.path.length->o.src.isPrefixOf o.path=e->Bw w X->Calls prog 214 #[.slice fa o.src.length fc,.slice pa o.src.length pc] X (Rb (.bool e) X)):=by
  intro X e hlt O hx;have:=DX (o.src.map zH) ((o.path.take o.src.length).map zH) fa pa fg 0 fc pg 0 pc X (P.row.below hx) ((Q.row.below hx).takeT _ (by omega)) (by rw[yl];omega);rw[yl,yl,ym,Nat.min_eq_left (by omega)]at this;refine this.mono ?_;rintro e' w' ⟨rfl,n,rfl⟩;refine⟨?_,Kh X n⟩;congr 2;rw[← O,Bool.eq_iff_iff,decide_eq_true_eq,Ee,Eh]
 have C:Hid (∀ X,Bw w X->Calls prog 210 #[.iface ty p,.slice fa o.src.length fc] X (Zj X (ZS 3 (qe v o.src)))):=fun X hx=>
  C7 v o.src fa fg 0 fc X ty p hv (by omega) (hr.next hx) (P.row.below hx) P.cap1 P.cap2 P.len P.tok
 have j:Hid (∀ (X:Wo) (r m:JV) t1 p1 t2 p2,Bw w X->qe v o.src=some r->zS X r (.iface t1 p1)->zS X m (.iface t2 p2)->Calls prog 209 #[.iface t1 p1,.slice pa o.path.length pc,.iface t2 p2] X (Zj X (ZS 3 (Z4 r o.path m)))):=fun X r m t1 p1 t2 p2 hx s a i=>
  Sx r m o.path pa pg 0 pc X t1 t2 p1 p2 (hw.up hx) (Wv hv s) (by have:=Ku hv s;omega) a i (Q.row.below hx) Q.cap1 Q.cap2 Q.len Q.tok
 have HC:Hid (∀ E,Bw w E->E.cell? ⟨og,7,none⟩=some (.slice pa o.path.length pc)/\E.cell? ⟨og,8,none⟩=some (.slice fa o.src.length fc)):=fun E hx=>⟨(ho.next hx).c7,(ho.next hx).c8⟩;have c8:=ho.c8;have hcap:=Q.cap1;have hcap2:=Q.cap2;clear hw hv hr ho Q P;generalize hnp:o.path.length=n at *;generalize hns:o.src.length=k at *;have H:=ze hnp;have I:=ze hns;clear hnp hns;go_in;go_wp2_with fail;refine (uh HV).mono ?_;rintro e E ⟨W,⟨c,S,a,rfl,i⟩ |⟨m,t',q,a,rfl,i⟩⟩
 ·have hg:zr v o.src=none:=by
   cases hq:zr v o.src with
   | none=>rfl
   | some y=>rw[hq]at a;cases a
  rw[hg]at a;have hc:c=3:=by injection a with a;exact a.symm
  subst hc;have HE:Hid (Zj w (JN v o) (.returned (.tuple #[.nilIface,S])) E):=⟨W,.inl ⟨3,S,zfl hg,rfl,i⟩⟩;obtain⟨fb,rfl,-⟩:=i;clear HV L D C j HC HR W a hg;go_wp2;go_ret2;exact uh HE
 ·have hg:=Qc a;have T:=ze hg;have HM:=ze i;have HB:=ze W;have bd:Bw w E.drew:=W.drew;obtain⟨Z,A⟩:=uh HC E W;clear HV W a i hg c8;by_cases O:o.src=o.path
  ·have HS:=ze (uh L E.drew true (yj O) bd);have U:=ze (zfm (uh T) O);clear L D C j HC bd O HM T;go_wp2_with fail;go_region_law (go_simp;refine (uh HS).mono ?_;rintro e R ⟨rfl,Y⟩;have f:=ze (zi (uh HB).drew Y);clear Y HS)
   all_goals
    go_wp2;go_ret2;exact⟨uh f,.inr ⟨v,_,_,uh U,rfl,uh HR _ (uh f)⟩⟩
  ·have HS:=ze (uh L E.drew false (yk O) bd);have G:=ze O;clear L bd O;go_wp2_with fail;go_region_law (go_simp;refine (uh HS).mono ?_;rintro e R ⟨rfl,Y⟩;have f:=ze (zi (uh HB).drew Y);have K:=ze ((zS.next (w':=E.drew) (uh HM) (yI _ _).drew).next Y);clear Y HS HM Z A)
   all_goals
    obtain⟨Z,A⟩:=uh HC _ (uh f);by_cases hlt:k<n
    ·have hltI:(k:Int)<(n:Int):=by omega
     have hkc:k<=pc:=by omega
     have hkI:(k:Int)<=(pc:Int):=by omega
     cases hpx:o.src.isPrefixOf o.path with
     | true=>
      have M:=ze (uh D R.drew true (by have:=uh H;have:=uh I;omega) hpx (uh f).drew);have U:=ze (zfn (uh T) (uh G) hpx);have SD:=ze (uh HC R.drew (uh f).drew);clear D C j HR K H I hpx;go_wp2_with fail;go_region_held3 (fun w'=>w'.cell? ⟨og,7,none⟩=some (.slice pa n pc)/\w'.cell? ⟨og,8,none⟩=some (.slice fa k fc)) (first | exact uh S3 | exact uh SD) (first |(go_simp;refine (uh M).mono ?_;rintro e w3 ⟨rfl,F⟩;have d:=ze (zi (uh f).drew F);have S3:=ze (uh HC w3 (uh d));clear F M))
      all_goals
       go_wp2;go_ret2;exact⟨zi (uh d) (zY _ _),.inl ⟨6,_,uh U,rfl,_,rfl,yH _ _⟩⟩
     | false=>
      have M:=ze (uh D R.drew false (by have:=uh H;have:=uh I;omega) hpx (uh f).drew);have z:Hid (¬ o.src.isPrefixOf o.path=true):=by rw[hpx];exact fun h=>by cases h
      have SD:=ze (uh HC R.drew (uh f).drew);clear D H I hpx;go_wp2_with fail;go_region_held3 (fun w'=>w'.cell? ⟨og,7,none⟩=some (.slice pa n pc)/\w'.cell? ⟨og,8,none⟩=some (.slice fa k fc)) (first | exact uh S3 | exact uh SD) (first |(go_simp;refine (uh M).mono ?_;rintro e w3 ⟨rfl,F⟩;have d:=ze (zi (uh f).drew F);have B:=ze ((zS.next (w':=R.drew) (uh K) (yI _ _).drew).next F);have S3:=ze (uh HC w3 (uh d));clear F M K Z A))
      all_goals
       have F:=uh d;have g:=ze (uh C _ F);obtain⟨-,A⟩:=uh HC _ F;clear C F;go_wp2_with fail;refine (uh g).mono ?_;rintro e V ⟨N,⟨c,S,a,rfl,i⟩ |⟨r,t4,q4,a,rfl,i⟩⟩
       ·have s:qe v o.src=none:=by
         cases hq:qe v o.src with
         | none=>rfl
         | some y=>rw[hq]at a;cases a
        rw[s]at a;have hc:c=3:=by injection a with a;exact a.symm
        subst hc;have HE:Hid (Zj w (JN v o) (.returned (.tuple #[.nilIface,S])) V):=⟨zi (uh d) N,.inl ⟨3,S,Ef (uh T) (uh G) (uh z) s,rfl,i⟩⟩;obtain⟨fb,rfl,-⟩:=i;clear j HC HR g N a s d B;go_wp2;go_ret2;exact uh HE
       ·have s:=Qc a;have l:=zi (uh d) N;have u:=ze (uh j V r m t4 q4 t' q l s i ((uh B).next N));have U:=ze (Eg (uh T) (uh G) (uh z) s);obtain⟨Z,-⟩:=uh HC V l;have J:=ze l;clear j HC HR g N a i s l d B A;go_wp2_with fail;refine (uh u).mono ?_;rintro e w5 hP;obtain⟨x,y,rfl,hQ⟩:=Zj.two hP;have HQ:=ze (Zj.from (uh J) hQ);clear hP hQ u J;go_wp2;go_ret2;rw[uh U];exact uh HQ
    ·have hnltI:¬ (k:Int)<(n:Int):=by omega
     have z:Hid (¬ o.src.isPrefixOf o.path=true):=fun h=>uh G (by
      have e:=Eh.1 h;have a:=uh H;have i:=uh I
      rwa [yr (by omega)]at e)
     clear D H I;go_wp2_with fail;go_quiet (fail);have d:Hid (Bw w (R.drewN nq)):=YQ (uh f) nq;have B:Hid (zS (R.drewN nq) m (.iface t' q)):=zS.next (uh K) (Kh R nq);clear K f Z A;have F:=uh d;have g:=ze (uh C _ F);obtain⟨-,A⟩:=uh HC _ F;clear C F;go_wp2_with fail;refine (uh g).mono ?_;rintro e V ⟨N,⟨c,S,a,rfl,i⟩ |⟨r,t4,q4,a,rfl,i⟩⟩
     ·have s:qe v o.src=none:=by
       cases hq:qe v o.src with
       | none=>rfl
       | some y=>rw[hq]at a;cases a
      rw[s]at a;have hc:c=3:=by injection a with a;exact a.symm
      subst hc;have HE:Hid (Zj w (JN v o) (.returned (.tuple #[.nilIface,S])) V):=⟨zi (uh d) N,.inl ⟨3,S,Ef (uh T) (uh G) (uh z) s,rfl,i⟩⟩;obtain⟨fb,rfl,-⟩:=i;clear j HC HR g N a s d B;go_wp2;go_ret2;exact uh HE
     ·have s:=Qc a;have l:=zi (uh d) N;have u:=ze (uh j V r m t4 q4 t' q l s i ((uh B).next N));have U:=ze (Eg (uh T) (uh G) (uh z) s);obtain⟨Z,-⟩:=uh HC V l;have J:=ze l;clear j HC HR g N a i s l d B A;go_wp2_with fail;refine (uh u).mono ?_;rintro e w5 hP;obtain⟨x,y,rfl,hQ⟩:=Zj.two hP;have HQ:=ze (Zj.from (uh J) hQ);clear hP hQ u J;go_wp2;go_ret2;rw[uh U];exact uh HQ
theorem zfp:Ot:=fun v o w ty p og b pa fa pg pc fg fc vt vp hk hw hv hl hr ho hsl _=>by
 have e:Zl v o=JN v o:=by
  unfold Zl JN;rw[yf (by omega),yf (by omega),yf (by omega),yg hk];rfl
 rw[e];exact zfo v o w ty p hw hv hl hr ho hsl
end Go.Proofs.YtpaecnbdoljafaaGreatDoor
