import Derived.Shelf.SlMaps.Clone
import Derived.Test.YtekpghcckdjnhaaGreatDoorBz39
import Derived.Test.YtekpghcckdjnhaaGreatDoorBz37
set_option maxRecDepth 100000
set_option maxHeartbeats 8000000
namespace Go.Proofs.YtekpghcckdjnhaaGreatDoor
open Go.RowKit Go.Proofs.Tryz
theorem BH(b n:Nat)(D:DataW Value)(w:Wo)(hown:w.ownsMap prog 9 RH b n D):
  Calls prog 270 #[.map (some b)] w fun e w'=>e= .returned (.map (some w.heap.size))/\w'.ownsMap prog 9 RH w.heap.size n D/\Bw w w':=by
 have j:=hown.lt;obtain⟨d,a,i,F,h,g⟩:=hown;have k:=fun w=>run_eql_map_nil_sl (P:=prog) w 226 _ _ (some b) underlying226;have f:Hid ((w.alloc (.map d a)).ownsMap prog 9 RH w.heap.size n D/\Bw w (w.alloc (.map d a))):=⟨⟨d,a,(MapKept.heap_alloc w _).1,F,h,g⟩,(yH _ w).alloc (ye _) _⟩;clear F h g;go_in;go_wp2;rw[run_callFunc_extern func284 (by kernel_rfl) (by kernel_rfl) (by kernel_rfl) (e:=Extern.MapsClone.clone) (by kernel_rfl),run_maps_clone_sl w 226 i];simp only[Result.andThen];rw[Oper.upon_value];go_wp2;rw[run_typeAssert_map_sl _ 226 _ _ _ _ underlying226];simp only[Result.andThen];rw[Oper.upon_value];go_wp2;go_ret;exact⟨rfl,(uh f).1,(uh f).2⟩
theorem zd8{w:Wo}{b n:Nat}{xs:List (List UInt8×Value)}(h:w.ownsMap prog 9 RH b n (Zb xs))(hn:n<=10000000)(key:List UInt8)(hk:key.length<=1048576)(v:Value):
  ∃ w',(Instr.mapUpdate 226 (.map (some b)) (.string (ze key)) v).run prog w= .ok () w'/\w'.ownsMap prog 9 RH b (n+1) (Zb (xs++[(key,v)]))/\w.grownBy w' (some b):=by
 obtain⟨w',a,d,f⟩:=h.update (Maps.string_keyed underlying9) underlying226 (by unfold maxLen;omega) (Nz key hk) (show RH v=some (.held v,[])from rfl);exact⟨w',a,by rw[V2];exact d,f⟩
def BI(w:Wo)(xs:List (List UInt8×Value))(e:Ending)(w':Wo):Prop:=∃ ob b n,e= .returned (.pointer (some ⟨ob,0,none⟩))/\Bw w w'/\ob<w'.heap.size/\b<w'.heap.size/\w'.heap[ob]?=some (.cells #[.map (some b)] 228 (0,0))/\w'.ownsMap prog 9 RH b n (Zb xs)
theorem BJ(ob b n:Nat)(xs:List (List UInt8×Value))(t:List UInt8)(v:Value)(w:Wo)(hob:w.heap[ob]?=some (.cells #[.map (some b)] 228 (0,0)))(hown:w.ownsMap prog 9 RH b n (Zb xs))(hn:n<=10000000)(ht:t.length<=1048576):
  Calls prog 269 #[.pointer (some ⟨ob,0,none⟩),.string (ze t),v] w (BI w (xs++[(t,v)])):=by
 have l:=zb (BH b n _ w hown);have c0:w.cell? ⟨ob,0,none⟩=some (.map (some b)):=yF hob 0;clear hob hown;go_in;go_wp2_with fail;refine (uh l).mono ?_;rintro e u ⟨rfl,j,h⟩;have q:=j.lt;obtain⟨s,m,o,i⟩:=zd8 j hn t ht v;have a:Bw w s:=h.grown i h.size (fun k hk=>by injection hk with hk;omega);have r:=i.size;generalize hB:w.heap.size=B at *;have f:=zb hB;clear hB;have g:=zb o;have d:=zb a;clear l j h o i a c0;generalize ze t=st at *;go_wp2;go_ret;refine⟨_,_,_,rfl,(by have p:=uh f;exact ((uh d).mono (by omega)).alloc (by omega) _),?_,?_,yG _ _,(uh g).alloc _⟩
 all_goals simp
 all_goals omega
theorem FO(m:JM):Qd m=m.toL.map (·.1):=QE m
theorem BK(t:List UInt8)(u:JV):∀ m:JM,JM.ofL (m.toL++[(t,u)])=m.app (.cons t u .nil)
 | .nil=>rfl
 | .cons k v r=>by
  show JM.ofL ((k,v) ::(r.toL++[(t,u)]))= .cons k v (r.app (.cons t u .nil))
  rw[JM.ofL,BK t u r]
theorem BL {w w1:Wo} {m:JM} {xs:List (List UInt8×Value)} {t:List UInt8} {u:JV} {y:Value} {ob b n:Nat} (hb:Bw w w1) (hm:Zu w (fun k=>k<w.heap.size) m xs) (hd:(m.toL.map (·.1)).Nodup) (hu:zi w (fun k=>k<w.heap.size) u y)
  (h1:ob<w1.heap.size) (h2:b<w1.heap.size) (h3:w1.heap[ob]?=some (.cells #[.map (some b)] 228 (0,0))) (h4:w1.ownsMap prog 9 RH b n (Zb (xs++[(t,y)]))):
  zO w1 (if (zQ (.obj m) t).isSome then qr (.obj m) t u else .obj (JM.ofL (m.toL++[(t,u)]))) (.iface 225 (.pointer (some ⟨ob,0,none⟩))):=by
 have a:xs.map (·.1)=m.toL.map (·.1):=by rw[(Yu m xs hm).1,FO]
 have j:(xs.map (·.1)).Nodup:=by rw[a];exact hd
 have d:Zu w1 (fun k=>k<w1.heap.size) m xs:=Zu.keep (fun k a=>hb.block k a) (fun _ a=>yE a hb.size) _ _ hm;have g:zi w1 (fun k=>k<w1.heap.size) u y:=zi.keep (fun k a=>hb.block k a) (fun _ a=>yE a hb.size) _ _ hu;have f:(zQ (.obj m) t).isSome=true↔t∈xs.map (·.1):=by
  rw[a,Vo,Option.isSome_map,List.find?_isSome];constructor
  ·rintro⟨q,l,e⟩;exact yO.2 ⟨q,l,by simpa using e⟩
  ·intro h;obtain⟨q,l,e⟩:=yO.1 h;exact⟨q,l,by simpa using e⟩
 by_cases i:(zQ (.obj m) t).isSome=true
 ·rw[yg i];show zi w1 _ (.obj (JM.ofL (m.toL.map fun q=>if q.1=t then (q.1,u)else q))) _
  rw[zdr j (f.1 i)]at h4;rw[zi];refine⟨ob,b,_,_,rfl,h1,h2,h3,PS h4,ye _,?_⟩;refine PJ t g _ _ ?_;rw[JM.ofL_toL];exact d
 ·rw[yf i];show zi w1 _ (.obj (JM.ofL (m.toL++[(t,u)]))) _
  rw[zi];refine⟨ob,b,_,_,rfl,h1,h2,h3,PS h4,ye _,?_⟩;rw[BK];refine Zu.app _ _ _ _ d ?_;rw[Zu];exact⟨y,[],rfl,g,by rw[Zu]⟩
theorem Rl{w:Wo}{S:Nat->Prop}{l:JL}{xs:List Value}(h:Zl w S l xs):∀ u∈xs,u.oneCell'=true:=fun u hu=>by
 obtain⟨j,b,rfl⟩:=List.getElem_of_mem hu;obtain⟨d,a⟩:=JW l xs h;obtain⟨t,p,e⟩:=Vb (a j b (by omega));rw[e];rfl
theorem Rm{w w1:Wo}{L:List JV}{xs:List Value}{r:Value}{n:Nat}(hb:Bw w w1)(ho:w1.ownsRow w.heap.size 66 1 r n xs)(hn:n=xs.length)(hl:Zl w (fun k=>k<w.heap.size) (JL.ofL L) xs):
  zO (w1.alloc (.cells #[r] 198)) (.arr (JL.ofL L)) (.iface 195 (.pointer (some ⟨w1.heap.size,0,none⟩))):=by
 subst hn;have a:=zu w1 (.cells #[r] 198);have f:=a.size;have b:w1.heap.size<(w1.alloc (.cells #[r] 198)).heap.size:=by simp
 show zi _ _ _ _
 rw[zi];refine⟨w1.heap.size,r,xs,rfl,b,yG _ _,⟨qT (ZB ho a) (yt _),fun g hg=>?_⟩,?_⟩
 ·have:=(ho.lt g hg).2;omega
 ·have d:=zh hb a;exact Zl.keep (fun k hk=>d.block k hk) (fun _ hk=>yE hk d.size) _ _ hl
theorem FP{l:JL}{N:Nat}(h:(ct (.arr l)).length<=N):l.toL.length<=N:=by
 have:=U1 l;have a:l.toL.length<=hold l.toL.length:=by unfold hold;omega
 have:=Nat.le_add_right (hold l.toL.length) ((l.toL.map fun v=>(ct v).length).sum);omega
theorem BM{m:JM}{N:Nat}(h:(ct (.obj m)).length<=N):m.toL.length<=N:=by
 have:=Yh m;have a:m.toL.length<=hold m.toL.length:=by unfold hold;omega
 have:=Nat.le_add_right (hold m.toL.length) ((m.toL.map Z0).sum);omega
theorem zd9(v u c:JV)(t:List UInt8)(w:Wo)(ty ty':TypeId)(p p':Value)(hv:zx v)(hc:zQ v t=some c)(ht:t.length<=1048576)(hl:(ct v).length<=1000000)(hr:zO w v (.iface ty p))(hu:zO w u (.iface ty' p')):
  Calls prog 245 #[.iface ty p,.string (ze t),.iface ty' p'] w fun e w'=>Bw w w'/\∃ t' q,e= .returned (.iface t' q)/\zO w' (qr v t u) (.iface t' q):=by
 cases v with
 | arr l=>
  have f:=hr;unfold zO at f;rw[zi]at f;obtain⟨ab,sv,y,h,hSab,P,H,C⟩:=f;injection h with h1 h2;subst h1;subst h2;obtain⟨a,g,O,rfl,E,A⟩:=VH H;obtain⟨B,_⟩:=JW l y C;rw[Jv]at hc;obtain⟨i,hx,R⟩:=Option.bind_eq_some_iff.1 hc;have hil:i<y.length:=by rw[B];exact (List.getElem?_eq_some_iff.1 R).1
  obtain⟨rfl,hSg⟩:=E (by omega);have F:=FP hl;have hc0:w.cell? ⟨ab,0,none⟩=some (.slice (some ⟨g,0,none⟩) y.length O):=by rw[yF P];rfl
  have t1:∀ w:Wo,(Instr.typeAssert (.iface 195 (.pointer (some ⟨ab,0,none⟩))) 66 195 true).run prog w= .ok (.tuple #[.pointer (some ⟨ab,0,none⟩),.bool true]) w:=fun _=>by kernel_rfl
  have T:=XO (ze t) w (by rw[Zw];exact ht);rw[Zf]at T;have e0:Jr t= .tuple #[.int .i64 (i:Int),.bool true]:=by unfold Jr;rw[hx]
  rw[e0]at T;have N:=zb T;have HC:=zb (za1 ⟨g,0,none⟩ g 0 O y w ⟨fun _=>rfl,fun j hj=>by rw[Nat.zero_add];exact A j hj⟩ (Rl C) (by omega));have o:Hid (∀ (d:Wo) (r:Value),Bw w d->d.ownsRow w.heap.size 66 1 r y.length (y.set i (.iface ty' p'))->zO (d.alloc (.cells #[r] 198)) (qr (.arr l) t u) (.iface 195 (.pointer (some ⟨d.heap.size,0,none⟩)))):=fun d r hb ho=>by
   have e:qr (.arr l) t u= .arr (JL.ofL (l.toL.set i u)):=by simp only[qr,hx]
   rw[e];exact Rm hb ho (by simp) (zdp (by omega) (by rw[JL.ofL_toL];exact C) hu)
  have hiI:(i:Int)<(y.length:Int):=by omega
  rw[← B]at F;clear hr hu hx hc R H A C T e0 hv hl P E B;generalize ze t=st at *;go_in;go_wp2_with fail;refine (uh N).mono ?_;rintro e d ⟨rfl,rfl⟩;clear N;go_wp2_with fail;refine (uh HC).mono ?_;rintro e d ⟨r,rfl,M,J⟩;obtain⟨D,s,rfl⟩:∃ D s,r= .slice (some ⟨D,0,none⟩) y.length s:=by
   rcases M.2 with ⟨_,h0⟩ |⟨D,s,cur,hv,_⟩
   ·omega
   ·exact⟨D,s,hv⟩
  have L:=M.stored i (.iface ty' p');have hfz:=M.frozenAt i;have hge:=(M.lt D rfl);have hcl:∃ x,d.cell? ⟨D,i,none⟩=some x:=⟨_,by
   have:=World.ownsRow.cells M rfl i y[i] (yx hil);rw[Addr.add_lit,Nat.zero_add]at this;exact this⟩
  obtain⟨x0,hcx⟩:=hcl;have Q:Bw w (d.setCell ⟨D,i,none⟩ (.iface ty' p')):=J.grown L.2 J.size (fun k hk=>by injection hk with hk;omega);have I:=zb Q;have Z:=zb L.1;clear HC M J L Q;go_wp2;go_ret;exact⟨(uh I).alloc (by have:=(uh I).size;omega) _,_,_,rfl,(by have h:=uh o _ _ (uh I) (uh Z);rw[show (d.setCell ⟨D,i,none⟩ (Value.iface ty' p')).heap.size=d.heap.size by simp]at h;exact h)⟩
 | obj m=>
  have f:=hr;unfold zO at f;rw[zi]at f;obtain⟨Y,mb,nn,y,h,hSob,hSmb,S,G,hnn,K⟩:=f;injection h with h1 h2;subst h1;subst h2;have hd:=((QU m).1 hv).1;have B:y.length=m.toL.length:=by have:=congrArg List.length (Yu m y K).1;rw[FO]at this;simpa using this
  have F:=BM hl;have t1:∀ w:Wo,(Instr.typeAssert (.iface 225 (.pointer (some ⟨Y,0,none⟩))) 66 195 true).run prog w= .ok (.tuple #[.pointer none,.bool false]) w:=fun _=>by kernel_rfl
  have t2:∀ w:Wo,(Instr.typeAssert (.iface 225 (.pointer (some ⟨Y,0,none⟩))) 66 225 true).run prog w= .ok (.tuple #[.pointer (some ⟨Y,0,none⟩),.bool true]) w:=fun _=>by kernel_rfl
  have HW:=zb (BJ Y mb nn y t (.iface ty' p') w S G (by omega) ht);have o:Hid (∀ (d:Wo) (z b n:Nat),Bw w d->z<d.heap.size->b<d.heap.size->d.heap[z]?=some (.cells #[.map (some b)] 228 (0,0))->d.ownsMap prog 9 RH b n (Zb (y++[(t,.iface ty' p')]))->zO d (qr (.obj m) t u) (.iface 225 (.pointer (some ⟨z,0,none⟩)))):=fun d z b n hb U V W X=>by
   have:=BL hb K hd hu U V W X;rw[hc]at this;exact this
  clear hr hu hc G K hv hl S hd B;generalize ze t=st at *;go_in;go_wp2_with fail;refine (uh HW).mono ?_;rintro e d ⟨z,b',n',rfl,J,U,V,W,X⟩;have HF:=zb (uh o d z b' n' J U V W X);have HB:=zb J;clear HW J U V W X o;go_wp2;go_ret;exact⟨uh HB,_,_,rfl,uh HF⟩
 | _=>cases hc
def YY(fid:FuncId):Prop:=∀ (args:Array Value) (w:Wo),Sem.run prog (callFunc fid args) w= .ok (.enter fid args) w
theorem zea:YY 241:=fun args w=>by simp[callFunc,go_sem,func241,Result.andThen];rfl
theorem zeb:YY 243:=fun args w=>by simp[callFunc,go_sem,func243,Result.andThen];rfl
theorem zec:YY 218:=fun args w=>by simp[callFunc,go_sem,func218,Result.andThen];rfl
def FQ(w0:Wo)(fid:FuncId)(caps:Array Value)(f:JV->Option JV):Prop:=
 ∀ (wx:Wo) (h:JV) (ty:TypeId) (p:Value),Bw w0 wx->zx h->(ct h).length<=500000->zO wx h (.iface ty p) ->
  Calls prog fid (#[.iface ty p]++caps) wx (Zg wx (ZM 3 (f h)))
theorem FR(fid:FuncId)(hent:YY fid)(caps:Array Value)(f:JV->Option JV):∀ (ts:List (List UInt8)) (v:JV) (a:Option Addr) (g off cap:Nat) (w:Wo) (ty:TypeId) (p:Value),FQ w fid caps f->zx v->(ct v).length<=500000->zO w v (.iface ty p)->SS w a g off (ts.map zz)->ts.length<=cap->cap<=9223372036854775807->(∀ t∈ts,t.length<=1048576) ->
  Calls prog 217 #[.iface ty p,.slice a ts.length cap,.func (Fn.func fid) #[] caps] w (Zg w (ZM 3 (qj f v ts)))
 | [],v,a,g,off,cap,w,ty,p,hF,hv,hl,hr,hs,hcap,hcap2,ht=>by
  have HF:=zb (hF w v ty p (yH _ _) hv hl hr);rw[Ao];have T:∀ (w:Wo),Sem.run prog (callFunc fid (#[.iface ty p]++caps)) w= .ok (.enter fid (#[.iface ty p]++caps)) w:=fun w=>hent _ w;clear hF hr hs hv hent;go_in;go_wp2_with fail;refine (uh HF).mono ?_;rintro e N ⟨L,⟨c,H,b,rfl,l⟩ |⟨u,n,q,b,rfl,l⟩⟩
  ·have o:Hid (Zg w (ZM 3 (f v)) (.returned (.tuple #[.nilIface,H])) N):=⟨L,.inl ⟨c,H,b,rfl,l⟩⟩;obtain⟨fb,rfl,_⟩:=l;clear HF L b;go_wp2;go_ret2;exact uh o
  ·have o:Hid (Zg w (ZM 3 (f v)) (.returned (.tuple #[.iface n q,.nilIface])) N):=⟨L,.inr ⟨u,n,q,b,rfl,l⟩⟩;clear HF L b l;go_wp2;go_ret2;exact uh o
 | t :: ts,v,a,g,off,cap,w,ty,p,hF,hv,hl,hr,hs,hcap,hcap2,ht=>by
  have K:t.length<=1048576:=ht t (by simp);obtain rfl:=hs.ad (by simp);have B:w.cell? ⟨g,off,none⟩=some (.string (ze t)):=by
   have:=hs.cell 0 (by simp);rw[Nat.add_zero]at this;rw[this];simp[zz,ze]
  have U:g<w.heap.size:=yJ _ _ B;have z:Hid (∀ a',(0<ts.length->a'=some ⟨g,off+1,none⟩)->SS w a' g (off+1) (ts.map zz)):=fun a' ha=>⟨fun h=>ha (by simpa using h),fun j hj=>by
   have:=hs.cell (j+1) (by simpa using hj);rw[show off+(j+1)=off+1+j by omega]at this;rw[this];simp⟩
  have C:=zb (Po v hv.tw t K ty p w _ hr);have V:¬ ((ts.length:Int)+1=0):=by omega
  simp only[yn]at hcap ⊢
  cases hc:zQ v t with
  | none=>
   have P:Hid (qj f v (t :: ts)=none):=Ap hc;rw[hc]at C;clear hF hv hr hs hent z ht hc;generalize ze t=st at *;go_in;go_wp2_with fail;refine (uh C).mono ?_;rintro e N ⟨rfl,⟨x,rfl,-⟩ |⟨x,u',rfl,A,-⟩⟩
   ·clear C;go_wp2;go_ret2;exact⟨zu _ _,.inl ⟨3,_,by rw[uh P];rfl,rfl,_,rfl,yG _ _⟩⟩
   ·cases A
  | some c=>
   have I:(ct c).length<=500000:=by have:=(FF hc hv.ok hv.tw).2.2.1;omega
   have W:Hid (∀ m E a' cap',zO w c (.iface m E)->(0<ts.length->a'=some ⟨g,off+1,none⟩)->ts.length<=cap'->cap'<=9223372036854775807->Calls prog 217 #[.iface m E,.slice a' ts.length cap',.func (Fn.func fid) #[] caps] w (Zg w (ZM 3 (qj f c ts)))):=fun m E a' cap' hx b l M=>
    FR fid hent caps f ts c a' g (off+1) cap' w m E hF (hv.child hc) I hx (uh z _ b) l M (fun x hx=>ht x (by simp[hx]))
   have Q:Hid (∀ (d:Wo) u n q,Bw w d->zO d u (.iface n q)->Calls prog 245 #[.iface ty p,.string (ze t),.iface n q] d fun e w'=>Bw d w'/\∃ n q,e= .returned (.iface n q)/\zO w' (qr v t u) (.iface n q)):=fun d u n q hb hx=>
    zd9 v u c t d ty n p q hv hc K (by omega) (hr.next hb) hx
   have i:Hid (qj f v (t :: ts)=(qj f c ts).map (qr v t)):=Aq hc;have S:(ts.length:Int)+1<=(cap:Int):=by omega
   have r:Hid (∀ d,Bw w d->d.cell? ⟨g,off,none⟩=some (.string (ze t))):=fun d hb=>(hb.cell (p:=⟨g,off,none⟩) U).trans B;rw[hc]at C;clear hF hv hr hs hent z ht hc hl I;generalize ze t=st at *;go_in;go_wp2_with fail;refine (uh C).mono ?_;rintro e N ⟨rfl,⟨x,rfl,A⟩ |⟨x,u',rfl,A,hx⟩⟩
   ·cases A
   ·injection A with A;subst A;obtain⟨m,E,rfl⟩:=Vb hx;have s:=zb (fun a' cap'=>uh W m E a' cap' hx);clear C W hx;go_wp2_with fail
    all_goals refine (uh s _ _ (fun _=>by first | rfl |(exfalso;omega)) (by omega) (by omega)).mono ?_
    all_goals
     rintro e d ⟨D,⟨k,H,b,rfl,l⟩ |⟨u,n,q,b,rfl,l⟩⟩
     ·have Y:ZM 3 (qj f v (t :: ts))= .inl k:=by
       rw[uh i]
       cases J:qj f c ts with
       | none=>rw[J]at b;exact b
       | some y=>rw[J]at b;cases b
      have o:Hid (Zg w (ZM 3 (qj f v (t :: ts))) (.returned (.tuple #[.nilIface,H])) d):=⟨D,.inl ⟨k,H,Y,rfl,l⟩⟩;obtain⟨fb,rfl,-⟩:=l;clear s Q i r D b Y;go_wp2;go_ret2;exact uh o
     ·have J:=Jq b;have G:=zb (uh Q d u n q D l);have R:=uh r d D;have o:Hid (qj f v (t :: ts)=some (qr v t u)):=by show _=_;rw[uh i,J];rfl
      have F:=zb D;clear s Q i r D b l J B;go_wp2_with fail;refine (uh G).mono ?_;rintro e w3 ⟨X,t3,Z,rfl,M⟩;have O:Hid (Zg w (ZM 3 (qj f v (t :: ts))) (.returned (.tuple #[.iface t3 Z,.nilIface])) w3):=⟨zh (uh F) X,.inr ⟨_,t3,Z,by rw[uh o];rfl,rfl,M⟩⟩;clear G o F X M R;go_wp2;go_ret2;exact uh O
theorem BN{w:Wo}{S:Nat->Prop}{a:Option Addr}{n cap:Nat}{xs:List Value}(h:GV w S (.slice a n cap) xs):xs.length<=cap/\cap<=9223372036854775807:=by
 rcases h.1.2 with ⟨b,k⟩ |⟨g,d,f,b,_,_,i,j,_⟩
 ·injection b with _ _ h3;subst h3;exact⟨by omega,by omega⟩
 ·injection b with _ _ h3;subst h3;exact⟨i,by unfold maxLen at j;omega⟩
theorem KU{w:Wo}{B:Nat}{r:Value}{n:Nat}{xs:List Value}(h:w.ownsRow B 66 1 r n xs):∃ a c,r= .slice a n c:=by
 rcases h.2 with ⟨b,i⟩ |⟨g,d,f,b,_⟩
 ·exact⟨none,0,by rw[b,i]⟩
 ·exact⟨_,_,b⟩
theorem zed{w:Wo}{b n:Nat}{xs:List (List UInt8×Value)}(h:w.ownsMap prog 9 RH b n (Zb xs))(hd:(xs.map (·.1)).Nodup)(key:List UInt8)(hk:key.length<=1048576)(ty:TypeId):
  ∃ w',(Builtin.delete_ #[226,9] ty #[.map (some b),.string (ze key)]).run prog w= .ok (.tuple #[]) w'/\w'.ownsMap prog 9 RH b n (Zb (xs.filter fun q=>!(q.1 ==key)))/\w.grownBy w' (some b):=by
 obtain⟨w',a,d,f⟩:=h.drop (Maps.string_keyed underlying9) underlying226 (Nz key hk) ty;exact⟨w',a,by rw[← zds hd];exact d,f.grown⟩
theorem zee(v:JV)(t:List UInt8)(w:Wo)(ty:TypeId)(p:Value)(hv:zx v)(ht:t.length<=1048576)(hl:(ct v).length<=1000000)(hr:zO w v (.iface ty p)):
  Calls prog 244 #[.iface ty p,.string (ze t)] w (Zg w (ZM 3 (J7 v t))):=by
 have I:=zb (Po v hv.tw t ht ty p w _ hr)
 cases hc:zQ v t with
 | none=>
  have HNO:Hid (J7 v t=none):=by show _=_;unfold J7;rw[hc];rfl
  rw[hc]at I;clear hr hv hc hl;generalize ze t=st at *;go_in;go_wp2_with fail;refine (uh I).mono ?_;rintro e y ⟨rfl,⟨x,rfl,-⟩ |⟨x,u',rfl,D,-⟩⟩
  ·clear I;go_wp2;go_ret2;exact⟨zu _ _,.inl ⟨3,_,by rw[uh HNO];rfl,rfl,_,rfl,yG _ _⟩⟩
  ·cases D
 | some c=>
  have K:Hid (J7 v t=some (qO v t)):=by show _=_;unfold J7;rw[hc];rfl
  rw[hc]at I
  cases v with
  | obj m=>
   have B:=hr;unfold zO at B;rw[zi]at B;obtain⟨ob,mb,nn,f,h,hSob,hSmb,ah,N,hnn,R⟩:=B;injection h with h1 S;subst h1;subst S;have hd:=((QU m).1 hv).1;have aa:(f.map (·.1)).Nodup:=by rw[(Yu m f R).1,FO];exact hd
   have t1:∀ w:Wo,(Instr.typeAssert (.iface 225 (.pointer (some ⟨ob,0,none⟩))) 66 195 true).run prog w= .ok (.tuple #[.pointer none,.bool false]) w:=fun _=>by kernel_rfl
   have t2:∀ w:Wo,(Instr.typeAssert (.iface 225 (.pointer (some ⟨ob,0,none⟩))) 66 225 true).run prog w= .ok (.tuple #[.pointer (some ⟨ob,0,none⟩),.bool true]) w:=fun _=>by kernel_rfl
   have HW:=zb (BH mb nn _ w N);have c0:w.cell? ⟨ob,0,none⟩=some (.map (some mb)):=yF ah 0;have z:Hid (∀ (y:Wo) (b n:Nat),Bw w y->b<y.heap.size->y.ownsMap prog 9 RH b n (Zb (f.filter fun q=>!(q.1 ==t)))->zO (y.alloc (.cells #[.map (some b)] 228)) (qO (.obj m) t) (.iface 225 (.pointer (some ⟨y.heap.size,0,none⟩)))):=fun y b n hb hlt ho=>by
    have W:=zu y (.cells #[.map (some b)] 228);have hz:(y.alloc (.cells #[.map (some b)] 228)).heap.size=y.heap.size+1:=by simp
    have S:=zh hb W;show zi _ _ (.obj (JM.ofL (m.toL.filter fun q=>!(q.1 ==t)))) _
    rw[zi];refine⟨y.heap.size,b,_,_,rfl,by omega,by omega,yG _ _,(PS ho).alloc _,ye _,PK t _ _ ?_⟩;rw[JM.ofL_toL];exact Zu.keep (fun k C=>S.block k C) (fun _ C=>yE C S.size) _ _ R
   have HDX:=zb aa;clear hr hc N R hv hl ah hd aa;go_in;go_wp2_with fail;refine (uh I).mono ?_;rintro e y ⟨rfl,⟨x,rfl,D⟩ |⟨x,u',rfl,D,-⟩⟩
   ·cases D
   clear I D;go_wp2_with fail;refine (uh HW).mono ?_;rintro e y ⟨rfl,o1,b1⟩;have hg1:=o1.lt;obtain⟨w2,hrun,o2,g2⟩:=zed o1 (uh HDX) t ht 0;have O:Bw w w2:=b1.grown g2 b1.size (fun k C=>by injection C with C;omega);have hz2:=g2.size;have HF:=zb (uh z w2 _ _ O (by omega) o2);have HB:=zb O;clear HW o1 b1 o2 g2 O z;generalize ze t=st at *;go_wp2;go_ret2;exact⟨(uh HB).alloc (by omega) _,.inr ⟨_,_,_,by rw[uh K];rfl,rfl,uh HF⟩⟩
  | arr l=>
   have B:=hr;unfold zO at B;rw[zi]at B;obtain⟨ab,sv,f,h,hSab,Y,F,G⟩:=B;injection h with h1 S;subst h1;subst S;obtain⟨a,g,d,rfl,L,E⟩:=VH F;obtain⟨H,_⟩:=JW l f G;rw[Jv]at hc;obtain⟨i,hx,Z⟩:=Option.bind_eq_some_iff.1 hc;have hil:i<f.length:=by rw[H];exact (List.getElem?_eq_some_iff.1 Z).1
   obtain⟨rfl,hSg⟩:=L (by omega);have M:=FP hl;have hc0:w.cell? ⟨ab,0,none⟩=some (.slice (some ⟨g,0,none⟩) f.length d):=by rw[yF Y];rfl
   have t1:∀ w:Wo,(Instr.typeAssert (.iface 195 (.pointer (some ⟨ab,0,none⟩))) 66 195 true).run prog w= .ok (.tuple #[.pointer (some ⟨ab,0,none⟩),.bool true]) w:=fun _=>by kernel_rfl
   have HI:=XO (ze t) w (by rw[Zw];exact ht);rw[Zf]at HI;have e0:Jr t= .tuple #[.int .i64 (i:Int),.bool true]:=by unfold Jr;rw[hx]
   rw[e0]at HI;have U:=zb HI;have hiI:(i:Int)<(f.length:Int):=by omega
   have A:=BN F;have hcap1:=A.1;have hcap2:=A.2;have hcI:(i:Int)<=(d:Int):=by omega
   obtain⟨j,hj⟩:∃ j,j=i+1:=⟨_,rfl⟩;have hwj:IntKind.i64.wrap ((i:Int)+1)=(j:Int):=by rw[IntKind.wrap_i64,hj];omega
   have hjI:(j:Int)<=(f.length:Int):=by omega
   have hjn:j<=f.length:=by omega
   have z:Hid (∀ (y:Wo) (r:Value) (n:Nat),Bw w y->y.ownsRow w.heap.size 66 1 r n (f.take i++f.drop j)->n=(f.take i++f.drop j).length->zO (y.alloc (.cells #[r] 198)) (qO (.arr l) t) (.iface 195 (.pointer (some ⟨y.heap.size,0,none⟩)))):=fun y r n hb ho hn=>by
    have e:qO (.arr l) t= .arr (JL.ofL (l.toL.eraseIdx i)):=by simp only[qO,hx]
    rw[e];refine Rm hb ho hn ?_;rw[hj];exact zdo i (by rw[JL.ofL_toL];exact G)
   have P:f.length<=1000000:=by rw[H];exact M
   have J:Hid (Calls prog 267 #[.slice (some ⟨w.heap.size,0,none⟩) 2 2] (w.alloc (.cells #[.slice (some ⟨g,0,none⟩) i d,.slice (if d=j then some ⟨g,0,none⟩else some ⟨g,j,none⟩) (f.length - j) (d - j)] 153)).drew fun e w'=>∃ r n,e= .returned r/\w'.ownsRow w.heap.size 66 1 r n (f.take i++f.drop j)/\n=(f.take i++f.drop j).length/\Bw w w'):=by
    have W:=(zu w (.cells #[.slice (some ⟨g,0,none⟩) i d,.slice (if d=j then some ⟨g,0,none⟩else some ⟨g,j,none⟩) (f.length - j) (d - j)] 153)).drew;have kA:=yG w (.cells #[.slice (some ⟨g,0,none⟩) i d,.slice (if d=j then some ⟨g,0,none⟩else some ⟨g,j,none⟩) (f.length - j) (d - j)] 153);have af:(f.take i).length=i:=by rw[ym];omega
    have Q:(f.drop j).length=f.length - j:=yu;have V:=Rl G;have hgl:g<w.heap.size:=hSg;have hVR:VR w (some ⟨g,0,none⟩) g 0 f:=⟨fun _=>rfl,fun k C=>by rw[Nat.zero_add];exact E k C⟩;have X:=hVR.below W;refine (Lz [⟨some ⟨g,0,none⟩,g,0,d,f.take i⟩,⟨if d=j then some ⟨g,0,none⟩else some ⟨g,j,none⟩,g,j,d - j,f.drop j⟩] w.heap.size _ ?_ ?_ ?_ (by simp)).mono ?_
    ·intro k C
     match k,C with
     | 0,_=>show _=some (Value.slice _ (f.take i).length _);rw[af];exact yF kA 0
     | 1,_=>show _=some (Value.slice _ (f.drop j).length _);rw[Q];exact yF kA 1
    ·intro s hs;rcases List.mem_cons.1 hs with rfl | hs
     ·exact⟨⟨fun _=>rfl,fun k C=>by
       have hk':k<i:=by simpa [af]using C
       rw[X.cell k (by omega)];simp⟩,fun u hu=>V u (List.mem_of_mem_take hu),fun h=>by cases h⟩
     ·obtain rfl:=List.mem_singleton.1 hs;refine⟨⟨fun D=>?_,fun k C=>?_⟩,fun u hu=>V u (List.mem_of_mem_drop hu),fun h=>?_⟩
      ·have h0':0<f.length - j:=by rw[← Q];exact D
       show (if d=j then some _ else some _)=_
       rw[yf (by omega)]
      ·have hk':k<f.length - j:=by rw[← Q];exact C
       have:=X.cell (j+k) (by omega);rw[Nat.zero_add]at this;show World.cell? _ ⟨g,j+k,none⟩=some (f.drop j)[k]
       rw[this];simp
      ·have h':(if d=j then some (⟨g,0,none⟩:Addr)else some ⟨g,j,none⟩)=none:=h;split at h'<;>cases h'
    ·simp[qv];omega
    ·rintro e w' ⟨r,rfl,o,b⟩;have ef:qv [⟨some ⟨g,0,none⟩,g,0,d,f.take i⟩,⟨if d=j then some ⟨g,0,none⟩else some ⟨g,j,none⟩,g,j,d - j,f.drop j⟩]=f.take i++f.drop j:=by simp[qv]
     rw[ef]at o;exact⟨r,_,rfl,qT o W.size,rfl,zh W b⟩
   have HJ:=zb hj;clear hj;rw[← H]at M;clear hr hx hc Z F E G HI e0 hv hl Y L H A P;generalize ze t=st at *;go_in;go_wp2_with fail;refine (uh I).mono ?_;rintro e y ⟨rfl,⟨x,rfl,D⟩ |⟨x,u',rfl,D,-⟩⟩
   ·cases D
   clear I D;go_wp2_with fail;refine (uh U).mono ?_;rintro e y ⟨rfl,rfl⟩;clear U;go_wp2_with fail;go_region_law (go_simp;refine (uh J).mono ?_;rintro e w4 ⟨r,n,rfl,o4,ag,b4⟩;obtain⟨ra,rc,rfl⟩:=KU o4;have HF:=zb (uh z w4 _ n b4 o4 ag);have T:=zb b4;clear z J o4 ag b4)
   all_goals
    generalize (if d=j then some (⟨g,0,none⟩:Addr)else some ⟨g,j,none⟩)=ad at *;go_wp2;go_ret2;exact⟨(uh T).alloc (uh T).size _,.inr ⟨_,_,_,by rw[uh K];rfl,rfl,uh HF⟩⟩
  | _=>cases hc
theorem zef{w:Wo}{S:Nat->Prop}{a:Option Addr}{n cap:Nat}{xs:List Value}(h:GV w S (.slice a n cap) xs):(a=none/\cap=0/\n=0/\xs=[])∨∃ g,a=some ⟨g,0,none⟩/\S g/\n=xs.length/\VR w (some ⟨g,0,none⟩) g 0 xs:=by
 obtain⟨⟨k,l⟩,m⟩:=h;rcases l with ⟨d,i⟩ |⟨g,f,b,d,o,p,r⟩
 ·injection d with e1 e2 e3;exact .inl ⟨e1,e3,e2,yN i⟩
 ·injection d with e1 e2 e3;subst e1;subst e2;subst e3;refine .inr ⟨g,rfl,m g rfl,rfl,fun _=>rfl,fun j hj=>?_⟩;have:=World.ownsRow.cells (w:=w) (base:=0) (e:=66) (size:=1) ⟨k,.inr ⟨g,cap,b,rfl,o,p,r⟩⟩ rfl j xs[j] (yx hj)
  rwa [Addr.add_lit]at this
theorem VR.take{w:Wo}{a:Option Addr}{g off:Nat}{xs:List Value}(h:VR w a g off xs)(i:Nat):VR w a g off (xs.take i):=
 ⟨fun h0=>h.ad (by rw[ym]at h0;omega),fun j hj=>by
  have b:j<xs.length:=by rw[ym]at hj;omega
  rw[h.cell j b];simp⟩
theorem VR.drop{w:Wo}{a:Option Addr}{g off:Nat}{xs:List Value}(h:VR w a g off xs)(i:Nat){a':Option Addr}(ha:i<xs.length->a'=some ⟨g,off+i,none⟩):VR w a' g (off+i) (xs.drop i):=
 ⟨fun h0=>ha (by rw[yu]at h0;omega),fun j hj=>by
  have b:i+j<xs.length:=by rw[yu]at hj;omega
  rw[Nat.add_assoc,h.cell (i+j) b];simp⟩
theorem BO (w:Wo) (y:Value) (hy:y.oneCell'=true) (us vs:List Value) (a1 a3:Option Addr) (g1 o1 c1 n1 g3 o3 c3 n3:Nat) (hn1:us.length=n1) (hn3:vs.length=n3) (h1:VR w a1 g1 o1 us) (h3:VR w a3 g3 o3 vs) (k1:a1=none->c1=0) (k3:a3=none->c3=0)
  (q1:∀ u∈us,u.oneCell'=true) (q3:∀ u∈vs,u.oneCell'=true) (hl:us.length+vs.length<=900000):
  Calls prog 267 #[.slice (some ⟨w.heap.size+1,0,none⟩) 3 3] ((w.alloc (.cells #[y] 66)).alloc (.cells #[.slice a1 n1 c1,.slice (some ⟨w.heap.size,0,none⟩) 1 1,.slice a3 n3 c3] 153)).drew fun e w'=>∃ r n,e= .returned r/\w'.ownsRow w.heap.size 66 1 r n (us++y :: vs)/\n=(us++y :: vs).length/\Bw w w':=by
 have p:=zu w (.cells #[y] 66);have z:(w.alloc (.cells #[y] 66)).heap.size=w.heap.size+1:=by simp
 have q:=yG w (.cells #[y] 66);have l:=(zu (w.alloc (.cells #[y] 66)) (.cells #[.slice a1 n1 c1,.slice (some ⟨w.heap.size,0,none⟩) 1 1,.slice a3 n3 c3] 153)).drew;have f:=yG (w.alloc (.cells #[y] 66)) (.cells #[.slice a1 n1 c1,.slice (some ⟨w.heap.size,0,none⟩) 1 1,.slice a3 n3 c3] 153);rw[z]at f;have d:=zh p l;have j:=(l.block w.heap.size (by omega)).trans q;have v:=h1.below d;have x:=h3.below d;refine (Lz [⟨a1,g1,o1,c1,us⟩,⟨some ⟨w.heap.size,0,none⟩,w.heap.size,0,1,[y]⟩,⟨a3,g3,o3,c3,vs⟩] (w.heap.size+1) _ ?_ ?_ ?_ (by simp)).mono ?_
 ·intro k g
  match k,g with
  | 0,_=>show _=some (Value.slice _ us.length _);rw[hn1];exact yF f 0
  | 1,_=>exact yF f 1
  | 2,_=>show _=some (Value.slice _ vs.length _);rw[hn3];exact yF f 2
 ·intro s a;rcases List.mem_cons.1 a with rfl | a
  ·exact⟨v,q1,k1⟩
  ·rcases List.mem_cons.1 a with rfl | a
   ·refine⟨⟨fun _=>rfl,fun k g=>?_⟩,fun u hu=>by rw[List.mem_singleton.1 hu];exact hy,fun h=>by cases h⟩;have i:k=0:=by simpa using g
    subst i;exact yF j 0
   ·obtain rfl:=List.mem_singleton.1 a;exact⟨x,q3,k3⟩
 ·simp[qv];omega
 ·rintro e w' ⟨r,rfl,o,b⟩;have m:qv [⟨a1,g1,o1,c1,us⟩,⟨some ⟨w.heap.size,0,none⟩,w.heap.size,0,1,[y]⟩,⟨a3,g3,o3,c3,vs⟩]=us++y :: vs:=by simp[qv]
  rw[m]at o;exact⟨r,_,rfl,qT o d.size,rfl,zh d b⟩
theorem zeg(l:JL)(u:JV)(t:List UInt8)(w:Wo)(ty ty':TypeId)(p p':Value)(ht:t.length<=1048576)(hl:(ct (.arr l)).length<=500000)(hr:zO w (.arr l) (.iface ty p))(hu:zO w u (.iface ty' p')):
  Calls prog 242 #[.iface ty p,.string (ze t),.iface ty' p'] w (Zg w (ZM 3 (Z9 (.arr l) t u))):=by
 have V:=hr;unfold zO at V;rw[zi]at V;obtain⟨ab,sv,C,h,hSab,P,y,L⟩:=V;injection h with h1 h2;subst h1;subst h2;obtain⟨a,g0,I,rfl,_,_⟩:=VH y;obtain⟨M,_⟩:=JW l C L;have Y:=FP hl;rw[← M]at Y;have hc0:w.cell? ⟨ab,0,none⟩=some (.slice a C.length I):=by rw[yF P];rfl
 have t1:∀ w:Wo,(Instr.typeAssert (.iface 195 (.pointer (some ⟨ab,0,none⟩))) 66 195 true).run prog w= .ok (.tuple #[.pointer (some ⟨ab,0,none⟩),.bool true]) w:=fun _=>by kernel_rfl
 have X:=XO (ze t) w (by rw[Zw];exact ht);rw[Zf]at X;obtain⟨z,ok,B⟩:∃ (z:Nat) (ok:Bool),Jr t= .tuple #[.int .i64 (z:Int),.bool ok]:=by
  unfold Jr
  cases qZ t with
  | none=>exact⟨0,false,rfl⟩
  | some i=>exact⟨i,true,rfl⟩
 obtain⟨i,J⟩:∃ i:Nat,i=if t=[45]then C.length else z:=⟨_,rfl⟩
 obtain⟨b,D⟩:∃ b:Bool,b=if t=[45]then true else ok:=⟨_,rfl⟩
 have G:Z9 (.arr l) t u=if b=true/\i<=C.length then some (.arr (JL.ofL (l.toL.take i++u :: l.toL.drop i)))else none:=by
  simp only[Z9];by_cases s:t=[45]
  ·rw[yg s]at J D ⊢;subst J;subst D;rw[← M];simp
  ·rw[yf s]at J D ⊢;subst J;subst D;unfold Jr at B
   cases hx:qZ t with
   | none=>
    rw[hx]at B;injection B with e;have e2:b=false:=by have:=congrArg (fun x:Array Value=>x[1]?) e;simp at this;exact this
    rw[e2];simp
   | some j=>
    rw[hx]at B;injection B with e;have e2:b=true:=by have:=congrArg (fun x:Array Value=>x[1]?) e;simp at this;exact this
    have e3:i=j:=by have:=congrArg (fun x:Array Value=>x[0]?) e;simp at this;omega
    subst e3;rw[e2,M];simp
 rw[B]at X;have f:=zb X;have N:((ze t).toList ==[45])=decide (t=[45]):=by rw[ByteArray.toList_eq,Zf];by_cases h:t=[45]<;>simp[h]
 have F:=BN y;have hcap1:=F.1;have hcap2:=F.2;have q1:=Rl L;have m:Hid (∀ (E:Wo) (r:Value) (n:Nat),Bw w E->E.ownsRow w.heap.size 66 1 r n (C.take i++.iface ty' p' :: C.drop i)->n=(C.take i++.iface ty' p' :: C.drop i).length->zO (E.alloc (.cells #[r] 198)) (.arr (JL.ofL (l.toL.take i++u :: l.toL.drop i))) (.iface 195 (.pointer (some ⟨E.heap.size,0,none⟩)))):=fun E r n D ho hn=>
  Rm D ho hn (zdn i (by rw[JL.ofL_toL];exact L) hu)
 by_cases v:b=true/\i<=C.length
 ·have o:Hid (Z9 (.arr l) t u=some (.arr (JL.ofL (l.toL.take i++u :: l.toL.drop i)))):=by show _=_;rw[G,yg v]
  have hiI:(i:Int)<=(C.length:Int):=by omega
  have hiC:(i:Int)<=(I:Int):=by omega
  have Z:=v.2;have O:=zb v.1;have S:(C.take i).length=i:=by rw[ym];omega
  have T:(C.drop i).length=C.length - i:=yu;rcases zef y with ⟨rfl,rfl,-,aa⟩ |⟨g,rfl,hSg,-,R⟩
  ·subst aa;have hi0:i=0:=by simpa using Z
   subst hi0;have v0:VR w none 0 0 []:=⟨fun h=>by simp at h,fun j h=>by simp at h⟩;have d:=zb (BO w (.iface ty' p') rfl [] [] none none 0 0 0 0 0 0 0 0 rfl rfl v0 v0 (fun _=>rfl) (fun _=>rfl) (fun u hu=>by simp at hu) (fun u hu=>by simp at hu) (by simp));have A:Hid (∀ (E:Wo) (r:Value) (n:Nat),Bw w E->E.ownsRow w.heap.size 66 1 r n ([]++.iface ty' p' :: [])->n=([]++Value.iface ty' p' :: []).length->zO (E.alloc (.cells #[r] 198)) (.arr (JL.ofL (l.toL.take 0++u :: l.toL.drop 0))) (.iface 195 (.pointer (some ⟨E.heap.size,0,none⟩)))):=fun E r n=>uh m E r n;clear hr hu y L X hl P M F q1 G v S T B v0 m;simp only[yD]at hc0;by_cases s:t=[45]
   ·rw[yj s]at N;clear D s J;generalize ze t=st at *;go_in;go_wp2_with fail;refine (uh f).mono ?_;rintro e E ⟨rfl,rfl⟩;clear f;go_wp2_with fail;go_region_law (go_simp;refine (uh d).mono ?_;rintro e W ⟨r,n,rfl,K,q,H⟩;obtain⟨ra,rc,rfl⟩:=KU K;have Q:=zb (uh A W _ n H K q);have k:=zb H;clear A d K q H)
    all_goals
     go_wp2;go_ret2;exact⟨(uh k).alloc (uh k).size _,.inr ⟨_,_,_,by rw[uh o];rfl,rfl,uh Q⟩⟩
   ·rw[yf s]at J D;rw[yk s]at N;subst J;have U:ok=true:=by rw[← D];exact uh O
    subst U;clear D s O;generalize ze t=st at *;go_in;go_wp2_with fail;refine (uh f).mono ?_;rintro e E ⟨rfl,rfl⟩;clear f;go_wp2_with fail;go_region_law (go_simp;refine (uh d).mono ?_;rintro e W ⟨r,n,rfl,K,q,H⟩;obtain⟨ra,rc,rfl⟩:=KU K;have Q:=zb (uh A W _ n H K q);have k:=zb H;clear A d K q H)
    all_goals
     go_wp2;go_ret2;exact⟨(uh k).alloc (uh k).size _,.inr ⟨_,_,_,by rw[uh o];rfl,rfl,uh Q⟩⟩
  ·have d:=zb (BO w (.iface ty' p') rfl (C.take i) (C.drop i) (some ⟨g,0,none⟩) (if I=i then some ⟨g,0,none⟩else some ⟨g,i,none⟩) g 0 I i g (0+i) (I - i) (C.length - i) S T (R.take i) (R.drop i (fun h=>by rw[yf (by omega),Nat.zero_add])) (fun h=>by cases h) (fun h=>by split at h<;>cases h) (fun u hu=>q1 u (List.mem_of_mem_take hu)) (fun u hu=>q1 u (List.mem_of_mem_drop hu)) (by omega));clear hr hu y L X hl P M F q1 G v S T R B;by_cases s:t=[45]
   ·rw[yg s]at J D;rw[yj s]at N;have HII:=zb J;have hiz:(C.length:Int)=(i:Int):=by omega
    clear D s J;generalize ze t=st at *;go_in;go_wp2_with fail;refine (uh f).mono ?_;rintro e E ⟨rfl,rfl⟩;clear f;go_wp2_with fail;go_region_law (go_simp;refine (uh d).mono ?_;rintro e W ⟨r,n,rfl,K,q,H⟩;obtain⟨ra,rc,rfl⟩:=KU K;have Q:=zb (uh m W _ n H K q);have k:=zb H;clear m d K q H)
    all_goals
     generalize (if I=i then some (⟨g,0,none⟩:Addr)else some ⟨g,i,none⟩)=ad at *;go_wp2;go_ret2;exact⟨(uh k).alloc (uh k).size _,.inr ⟨_,_,_,by rw[uh o];rfl,rfl,uh Q⟩⟩
   ·rw[yf s]at J D;rw[yk s]at N;subst J;have U:ok=true:=by rw[← D];exact uh O
    subst U;clear D s O;generalize ze t=st at *;go_in;go_wp2_with fail;refine (uh f).mono ?_;rintro e E ⟨rfl,rfl⟩;clear f;go_wp2_with fail;go_region_law (go_simp;refine (uh d).mono ?_;rintro e W ⟨r,n,rfl,K,q,H⟩;obtain⟨ra,rc,rfl⟩:=KU K;have Q:=zb (uh m W _ n H K q);have k:=zb H;clear m d K q H)
    all_goals
     generalize (if I=i then some (⟨g,0,none⟩:Addr)else some ⟨g,i,none⟩)=ad at *;go_wp2;go_ret2;exact⟨(uh k).alloc (uh k).size _,.inr ⟨_,_,_,by rw[uh o];rfl,rfl,uh Q⟩⟩
 ·have o:Hid (Z9 (.arr l) t u=none):=by show _=_;rw[G,yf v]
  have s:¬ t=[45]:=fun s=>v ⟨by rw[D,yg s],by rw[J,yg s];exact ye _⟩;rw[yf s]at J D;rw[yk s]at N;subst J;subst D;clear hr hu y L X hl P M F q1 G B m s;generalize ze t=st at *
  cases b with
  | false=>
   clear v;go_in;go_wp2_with fail;refine (uh f).mono ?_;rintro e E ⟨rfl,rfl⟩;clear f;go_wp2;go_ret2;exact⟨zu _ _,.inl ⟨3,_,by rw[uh o];rfl,rfl,_,rfl,yG _ _⟩⟩
  | true=>
   have h1:¬ (i:Int)<=(C.length:Int):=fun h=>v ⟨rfl,by omega⟩;have h2:decide ((i:Int)<=(C.length:Int))=false:=yk h1;clear v;go_in;go_wp2_with fail;refine (uh f).mono ?_;rintro e E ⟨rfl,rfl⟩;clear f;go_wp2;go_ret2;exact⟨zu _ _,.inl ⟨3,_,by rw[uh o];rfl,rfl,_,rfl,yG _ _⟩⟩
theorem zeh(v u:JV)(t:List UInt8)(w:Wo)(ty ty':TypeId)(p p':Value)(hw:Qh w)(hv:zx v)(ht:t.length<=1048576)(hl:(ct v).length<=500000)(hr:zO w v (.iface ty p))(hu:zO w u (.iface ty' p')):
  Calls prog 242 #[.iface ty p,.string (ze t),.iface ty' p'] w (Zg w (ZM 3 (Z9 v t u))):=by
 have leaf:(∀ w:Wo,(Instr.typeAssert (.iface ty p) 66 195 true).run prog w= .ok (.tuple #[.pointer none,.bool false]) w)->(∀ w:Wo,(Instr.typeAssert (.iface ty p) 66 225 true).run prog w= .ok (.tuple #[.pointer none,.bool false]) w)->Z9 v t u=none ->
   Calls prog 242 #[.iface ty p,.string (ze t),.iface ty' p'] w (Zg w (ZM 3 (Z9 v t u))):=fun h1 h2 hc=>by
  have f:=zb hc;clear hc hr hu hv hw;generalize ze t=st at *;go_in;go_wp2;go_ret2;exact⟨zu _ _,.inl ⟨3,_,by rw[uh f];rfl,rfl,_,rfl,yG _ _⟩⟩
 have d:=hr;unfold zO at d
 cases v with
 | nul=>rw[zi]at d;injection d with a b;subst a;subst b;exact leaf (fun _=>by kernel_rfl) (fun _=>by kernel_rfl) rfl
 | tt=>rw[zi]at d;injection d with a b;subst a;subst b;exact leaf (fun _=>by kernel_rfl) (fun _=>by kernel_rfl) rfl
 | ff=>rw[zi]at d;injection d with a b;subst a;subst b;exact leaf (fun _=>by kernel_rfl) (fun _=>by kernel_rfl) rfl
 | num l=>rw[zi]at d;obtain⟨z,d,_⟩:=d;injection d with a b;subst a;subst b;exact leaf (fun _=>by kernel_rfl) (fun _=>by kernel_rfl) rfl
 | str l=>rw[zi]at d;injection d with a b;subst a;subst b;exact leaf (fun _=>by kernel_rfl) (fun _=>by kernel_rfl) rfl
 | arr l=>exact zeg l u t w ty ty' p p' ht hl hr hu
 | obj m=>
  clear leaf;rw[zi]at d;obtain⟨x,P,U,E,h,C,B,r,j,S,o⟩:=d;injection h with h1 h2;subst h1;subst h2;have M:=((QU m).1 hv).1;have D:E.length=m.toL.length:=by have:=congrArg List.length (Yu m E o).1;rw[FO]at this;simpa using this
  have O:=BM hl;have W:∀ w:Wo,(Instr.typeAssert (.iface 225 (.pointer (some ⟨x,0,none⟩))) 66 195 true).run prog w= .ok (.tuple #[.pointer none,.bool false]) w:=fun _=>by kernel_rfl
  have X:∀ w:Wo,(Instr.typeAssert (.iface 225 (.pointer (some ⟨x,0,none⟩))) 66 225 true).run prog w= .ok (.tuple #[.pointer (some ⟨x,0,none⟩),.bool true]) w:=fun _=>by kernel_rfl
  have G:=Any.utf8_ValidString Tryz.laysValid (ze t) w (by rw[Zw];omega) hw.tab.tabs;rw[Zf]at G;have g:=zb G;have L:Hid (∀ wx,Bw w wx->Calls prog 269 #[.pointer (some ⟨x,0,none⟩),.string (ze t),.iface ty' p'] wx (BI wx (E++[(t,.iface ty' p')]))):=fun wx hx=>
   BJ x P U E t (.iface ty' p') wx ((hx.block x C).trans r) (VZ j (hx.block P B)) (by omega) ht
  cases hval:Lib.validD t with
  | false=>
   have f:Hid (Z9 (.obj m) t u=none):=by show _=_;simp only[Z9,hval];rfl
   rw[hval]at g;clear hr hu j o hv hl r M D G L hval;generalize ze t=st at *;go_in;go_wp2_with fail;refine (uh g).mono ?_;rintro e k ⟨rfl,s⟩;have F:=zb s;clear g s;go_wp2;go_ret2;exact⟨zh (uh F) (zu _ _),.inl ⟨3,_,by rw[uh f];rfl,rfl,_,rfl,yG _ _⟩⟩
  | true=>
   have f:Hid (Z9 (.obj m) t u=some (if (zQ (.obj m) t).isSome then qr (.obj m) t u else .obj (JM.ofL (m.toL++[(t,u)])))):=by show _=_;simp only[Z9,hval];rfl
   have q:Hid (∀ (k:Wo) (i b n:Nat),Bw w k->i<k.heap.size->b<k.heap.size->k.heap[i]?=some (.cells #[.map (some b)] 228 (0,0))->k.ownsMap prog 9 RH b n (Zb (E++[(t,.iface ty' p')]))->zO k (if (zQ (.obj m) t).isSome then qr (.obj m) t u else .obj (JM.ofL (m.toL++[(t,u)]))) (.iface 225 (.pointer (some ⟨i,0,none⟩)))):=fun k i b n hb H I J K=>
    BL hb o M hu H I J K
   rw[hval]at g;clear hr hu j o hv hl r M D G hval;generalize ze t=st at *;go_in;go_wp2_with fail;refine (uh g).mono ?_;rintro e k ⟨rfl,s⟩;have A:=zb (uh L k s);have F:=zb s;clear g s L;go_wp2_with fail;refine (uh A).mono ?_;rintro e V ⟨i,R,T,rfl,N,H,I,J,K⟩;have y:=zb (zh (uh F) N);have Q:=zb (uh q V i R T (uh y) H I J K);clear A F N H I J K q;go_wp2;go_ret2;exact⟨uh y,.inr ⟨_,_,_,by rw[uh f];rfl,rfl,uh Q⟩⟩
theorem SS.last{w:Wo}{a:Option Addr}{g off:Nat}{ts:List (List UInt8)}(h:SS w a g off (ts.map zz))(h0:ts≠[]):SS w a g off (ts.dropLast.map zz)/\a=some ⟨g,off,none⟩/\w.cell? ⟨g,off+(ts.length - 1),none⟩=some (.string (ze (Qq ts))):=by
 obtain⟨d,t,rfl⟩:∃ d t,ts=d++[t]:=⟨ts.dropLast,ts.getLast h0,(List.dropLast_concat_getLast h0).symm⟩;have f:(d++[t]).dropLast=d:=List.dropLast_concat;have i:Qq (d++[t])=t:=by simp[Qq]
 have k:(d++[t]).length - 1=d.length:=by simp
 rw[f,i,k];have b:((d++[t]).map zz).length=d.length+1:=by simp
 refine⟨⟨fun h0=>h.ad (by rw[b];omega),fun j hj=>?_⟩,h.ad (by rw[b];omega),?_⟩
 ·rw[yl]at hj;have:=h.cell j (by rw[b];omega);rw[this,yw];simp[List.getElem?_append_left,hj]
 ·have:=h.cell d.length (by rw[b];omega);rw[this,yw];simp[zz,ze]
theorem Zg.two{w w':Wo}{o:Nat⊕JV}{e:Ending}(h:Zg w o e w'):∃ x y,e= .returned (.tuple #[x,y])/\Zg w o (.returned (.tuple #[x,y])) w':=by
 obtain⟨b,⟨c,f,a,rfl,d⟩ |⟨u,t,p,a,rfl,d⟩⟩:=h
 ·exact⟨_,_,rfl,b,.inl ⟨c,f,a,rfl,d⟩⟩
 ·exact⟨_,_,rfl,b,.inr ⟨u,t,p,a,rfl,d⟩⟩
theorem Zg.undrew{w w':Wo}{o:Nat⊕JV}{e:Ending}(h:Zg w.drew o e w'):Zg w o e w':=⟨(yH _ w).drew.trans h.1,h.2⟩
theorem Zg.from{w w1 w':Wo}{o:Nat⊕JV}{e:Ending}(hb:Bw w w1)(h:Zg w1 o e w'):Zg w o e w':=⟨zh hb h.1,h.2⟩
theorem zei (h u:JV) (t:List UInt8) (w:Wo) (ty ty':TypeId) (p p':Value) (tb lb vb g off n cap:Nat) (hw:Qh w) (hv:zx h) (ht:t.length<=1048576) (hl:(ct h).length<=500000) (hr:zO w h (.iface ty p)) (hu:zO w u (.iface ty' p'))
  (k1:w.cell? ⟨tb,0,none⟩=some (.slice (some ⟨g,off,none⟩) (n+1) cap)) (k2:w.cell? ⟨lb,0,none⟩=some (.int .i64 (n:Int))) (k3:w.cell? ⟨vb,0,none⟩=some (.iface ty' p')) (k4:w.cell? ⟨g,off+n,none⟩=some (.string (ze t))) (_hn:n<=10000000):
  Calls prog 241 #[.iface ty p,.pointer (some ⟨tb,0,none⟩),.pointer (some ⟨lb,0,none⟩),.pointer (some ⟨vb,0,none⟩)] w (Zg w (ZM 3 (Z9 h t u))):=by
 have a:Hid (Calls prog 242 #[.iface ty p,.string (ze t),.iface ty' p'] w.drew (Zg w.drew (ZM 3 (Z9 h t u)))):=zeh h u t w.drew ty ty' p p' (hw.up (yH _ _).drew) hv ht hl (hr.next (yH _ _).drew) (hu.next (yH _ _).drew);have i:(n:Int)<(n:Int)+1:=by omega
 clear hw hv hr hu;generalize ze t=st at *;go_in;go_wp2_with fail;go_region_law (go_simp;refine (uh a).mono ?_;rintro e j b;obtain⟨x,y,rfl,d⟩:=Zg.two b;have f:=zb d;clear b d a)
 all_goals
  go_wp2;go_ret2;exact Zg.undrew (uh f)
theorem zej (h:JV) (t:List UInt8) (w:Wo) (ty:TypeId) (p:Value) (tb lb g off n cap:Nat) (hv:zx h) (ht:t.length<=1048576) (hl:(ct h).length<=500000) (hr:zO w h (.iface ty p))
  (k1:w.cell? ⟨tb,0,none⟩=some (.slice (some ⟨g,off,none⟩) (n+1) cap)) (k2:w.cell? ⟨lb,0,none⟩=some (.int .i64 (n:Int))) (k4:w.cell? ⟨g,off+n,none⟩=some (.string (ze t))) (_hn:n<=10000000):
  Calls prog 243 #[.iface ty p,.pointer (some ⟨tb,0,none⟩),.pointer (some ⟨lb,0,none⟩)] w (Zg w (ZM 3 (J7 h t))):=by
 have a:=zb (zee h t w ty p hv ht (by omega) hr);have i:(n:Int)<(n:Int)+1:=by omega
 clear hv hr;generalize ze t=st at *;go_in;go_wp2_with fail;refine (uh a).mono ?_;rintro e j b;obtain⟨x,y,rfl,d⟩:=Zg.two b;have f:=zb d;clear b d a;go_wp2;go_ret2;exact uh f
theorem Rn(v u:JV)(ts:List (List UInt8))(a:Option Addr)(g off cap:Nat)(w:Wo)(ty ty':TypeId)(p p':Value)(hw:Qh w)(hv:zx v)(hl:(ct v).length<=500000)(hr:zO w v (.iface ty p))(hu:zO w u (.iface ty' p'))(hs:SS w a g off (ts.map zz))(hcap:ts.length<=cap)(hcap2:cap<=9223372036854775807)(hn9:ts.length<=10000000)(ht:∀ t∈ts,t.length<=1048576):
  Calls prog 215 #[.iface ty p,.slice a ts.length cap,.iface ty' p'] w (Zg w (ZM 3 (qc v ts u))):=by
 by_cases l:ts=[]
 ·subst l;have S:Hid (qc v [] u=some u):=by show _=_;unfold qc;rw[yg rfl]
  have U:Hid (∀ wx,Bw w wx->zO wx u (.iface ty' p')):=fun wx hx=>hu.next hx;clear hw hv hr hu hs;simp only[yD];go_in;go_wp2;go_ret2;have Q:=zh (zu w (.cells #[.slice a 0 cap] 55)) (zu _ (.cells #[.iface ty' p'] 66));exact⟨Q,.inr ⟨u,_,_,by rw[uh S];rfl,rfl,uh U _ Q⟩⟩
 ·obtain⟨r,rfl,b⟩:=hs.last l;have q:0<ts.length:=List.length_pos_iff.2 l;obtain⟨n,A⟩:∃ n,ts.length=n+1:=⟨ts.length - 1,by omega⟩;have i:Qq ts∈ts:=by
   rw[← List.dropLast_concat_getLast l];simp[Qq]
  have s:=ht _ i;have E:Hid (qc v ts u=qj (fun h=>Z9 h (Qq ts) u) v ts.dropLast):=by show _=_;unfold qc;rw[yf l]
  rw[A,Nat.add_sub_cancel]at b;have o:ts.dropLast.length=n:=by rw[List.length_dropLast,A];rfl
  have F:=zu w (.cells #[.slice (some ⟨g,off,none⟩) (n+1) cap] 55);have K:=yG w (.cells #[.slice (some ⟨g,off,none⟩) (n+1) cap] 55);have D:(w.alloc (.cells #[.slice (some ⟨g,off,none⟩) (n+1) cap] 55)).heap.size=w.heap.size+1:=by simp
  generalize hw1:w.alloc (.cells #[.slice (some ⟨g,off,none⟩) (n+1) cap] 55)=m at F K D;have G:=zu m (.cells #[.iface ty' p'] 66);have L:=yG m (.cells #[.iface ty' p'] 66);have M:(m.alloc (.cells #[.iface ty' p'] 66)).heap.size=m.heap.size+1:=by simp
  generalize hw2:m.alloc (.cells #[.iface ty' p'] 66)=C at G L M;have z:=zu C (.cells #[.int .i64 (n:Int)] 3);have B:=yG C (.cells #[.int .i64 (n:Int)] 3);generalize hw3:C.alloc (.cells #[.int .i64 (n:Int)] 3)=R at z B;have k:=zh G z;have d:=zh F k;have N:FQ R 241 #[.pointer (some ⟨w.heap.size,0,none⟩),.pointer (some ⟨w.heap.size+2,0,none⟩),.pointer (some ⟨w.heap.size+1,0,none⟩)] (fun h=>Z9 h (Qq ts) u):=fun wx h tyh ph hx hgh hlh hrh=>by
   have H:=zh d hx;have I:=zh k hx;have J:=zh z hx;refine zei h u (Qq ts) wx tyh ty' ph p' w.heap.size (w.heap.size+2) (w.heap.size+1) g off n cap (hw.up H) hgh s hlh hrh (hu.next H) ?_ ?_ ?_ ?_ (by omega)
   ·exact yF ((I.block _ (by omega)).trans K) 0
   ·have:=(hx.block C.heap.size (yB.1 B).1).trans B;rw[M,D]at this;exact yF this 0
   ·have:=(J.block m.heap.size (by omega)).trans L;rw[D]at this;exact yF this 0
   ·exact (H.cell (p:=⟨g,off+n,none⟩) (yJ _ _ b)).trans b
  have j:=zb (FR 241 zea _ _ ts.dropLast v (some ⟨g,off,none⟩) g off cap R ty p N hv hl (hr.next d) (r.below d) (by omega) hcap2 (fun t h=>ht t ((List.dropLast_sublist ts).subset h)));rw[o]at j;have f:=zb d;subst hw3;subst hw2;subst hw1;have W:(n:Int)<=(cap:Int):=by omega
  have V:¬ ((n:Int)+1=0):=by omega
  rw[A];clear hw hv hr hu hs r ht N F K D G L M z B k d o A q s i b l;go_in;go_wp2_with fail;refine (uh j).mono ?_;rintro e X O;obtain⟨x,y,rfl,P⟩:=Zg.two O;have T:=zb (Zg.from (uh f) P);clear O P j f;go_wp2;go_ret2;rw[uh E];exact uh T
theorem BP(v:JV)(ts:List (List UInt8))(a:Option Addr)(g off cap:Nat)(w:Wo)(ty:TypeId)(p:Value)(hv:zx v)(hl:(ct v).length<=500000)(hr:zO w v (.iface ty p))(hs:SS w a g off (ts.map zz))(hcap:ts.length<=cap)(hcap2:cap<=9223372036854775807)(hn9:ts.length<=10000000)(ht:∀ t∈ts,t.length<=1048576):
  Calls prog 216 #[.iface ty p,.slice a ts.length cap] w (Zg w (ZM 3 (qz v ts))):=by
 by_cases k:ts=[]
 ·subst k;have J:Hid (qz v []=none):=by show _=_;unfold qz;rw[yg rfl]
  clear hv hr hs;simp only[yD];go_in;go_wp2;go_ret2;exact⟨zh (zu w (.cells #[.slice a 0 cap] 55)) (zu _ _),.inl ⟨3,_,by rw[uh J];rfl,rfl,_,rfl,by first | exact yG _ _ |(have:=yG (w.alloc (.cells #[.slice a 0 cap] 55)) (.cells #[.int .i64 3] 167);simpa using this)⟩⟩
 ·obtain⟨o,rfl,b⟩:=hs.last k;have m:0<ts.length:=List.length_pos_iff.2 k;obtain⟨n,s⟩:∃ n,ts.length=n+1:=⟨ts.length - 1,by omega⟩;have i:Qq ts∈ts:=by
   rw[← List.dropLast_concat_getLast k];simp[Qq]
  have q:=ht _ i;have A:Hid (qz v ts=qj (fun h=>J7 h (Qq ts)) v ts.dropLast):=by show _=_;unfold qz;rw[yf k]
  rw[s,Nat.add_sub_cancel]at b;have l:ts.dropLast.length=n:=by rw[List.length_dropLast,s];rfl
  have B:=zu w (.cells #[.slice (some ⟨g,off,none⟩) (n+1) cap] 55);have D:=yG w (.cells #[.slice (some ⟨g,off,none⟩) (n+1) cap] 55);have E:(w.alloc (.cells #[.slice (some ⟨g,off,none⟩) (n+1) cap] 55)).heap.size=w.heap.size+1:=by simp
  generalize hw1:w.alloc (.cells #[.slice (some ⟨g,off,none⟩) (n+1) cap] 55)=z at B D E;have r:=zu z (.cells #[.int .i64 (n:Int)] 3);have u:=yG z (.cells #[.int .i64 (n:Int)] 3);generalize hw3:z.alloc (.cells #[.int .i64 (n:Int)] 3)=I at r u;have d:=zh B r;have F:FQ I 243 #[.pointer (some ⟨w.heap.size,0,none⟩),.pointer (some ⟨w.heap.size+1,0,none⟩)] (fun h=>J7 h (Qq ts)):=fun wx h tyh ph hx hgh hlh hrh=>by
   have L:=zh d hx;have C:=zh r hx;refine zej h (Qq ts) wx tyh ph w.heap.size (w.heap.size+1) g off n cap hgh q hlh hrh ?_ ?_ ?_ (by omega)
   ·exact yF ((C.block _ (by omega)).trans D) 0
   ·have:=(hx.block z.heap.size (yB.1 u).1).trans u;rw[E]at this;exact yF this 0
   ·exact (L.cell (p:=⟨g,off+n,none⟩) (yJ _ _ b)).trans b
  have j:=zb (FR 243 zeb _ _ ts.dropLast v (some ⟨g,off,none⟩) g off cap I ty p F hv hl (hr.next d) (o.below d) (by omega) hcap2 (fun t h=>ht t ((List.dropLast_sublist ts).subset h)));rw[l]at j;have f:=zb d;subst hw3;subst hw1;have N:(n:Int)<=(cap:Int):=by omega
  have M:¬ ((n:Int)+1=0):=by omega
  rw[s];clear hv hr hs o ht F B D E r u d l s m q i b k;go_in;go_wp2_with fail;refine (uh j).mono ?_;rintro e O G;obtain⟨x,y,rfl,H⟩:=Zg.two G;have K:=zb (Zg.from (uh f) H);clear G H j f;go_wp2;go_ret2;rw[uh A];exact uh K
structure UF(w:Wo)(x:Value)(ts:List (List UInt8))(a:Option Addr)(g cap:Nat):Prop where
 form:x= .slice a ts.length cap
 row:SS w a g 0 (ts.map zz)
 cap1:ts.length<=cap
 cap2:cap<=9223372036854775807
 len:ts.length<=10000000
 tok:∀ t∈ts,t.length<=1048576
theorem UF.next{w w':Wo}{x:Value}{ts:List (List UInt8)}{a:Option Addr}{g cap:Nat}(h:UF w x ts a g cap)(hb:Bw w w'):UF w' x ts a g cap:=⟨h.form,h.row.below hb,h.cap1,h.cap2,h.len,h.tok⟩
structure YC(w:Wo)(og:Nat)(o:qd)(hasVal:Bool)(pa fa:Option Addr)(pg pc fg fc:Nat)(vt:TypeId)(vp:Value):Prop where
 path:UF w (.slice pa o.path.length pc) o.path pa pg pc
 src:UF w (.slice fa o.src.length fc) o.src fa fg fc
 c7:w.cell? ⟨og,7,none⟩=some (.slice pa o.path.length pc)
 c8:w.cell? ⟨og,8,none⟩=some (.slice fa o.src.length fc)
 c9:hasVal=true->w.cell? ⟨og,9,none⟩=some (.iface vt vp)
 val:hasVal=true->zO w o.val (.iface vt vp)
theorem YC.next{w w':Wo}{og:Nat}{o:qd}{hasVal:Bool}{pa fa:Option Addr}{pg pc fg fc:Nat}{vt:TypeId}{vp:Value}(h:YC w og o hasVal pa fa pg pc fg fc vt vp)(hb:Bw w w'):YC w' og o hasVal pa fa pg pc fg fc vt vp:=
 ⟨h.path.next hb,h.src.next hb,(hb.cell (p:=⟨og,7,none⟩) (yJ _ _ h.c7)).trans h.c7,(hb.cell (p:=⟨og,8,none⟩) (yJ _ _ h.c8)).trans h.c8,fun e=>(hb.cell (p:=⟨og,9,none⟩) (yJ _ _ (h.c9 e))).trans (h.c9 e),fun e=>(h.val e).next hb⟩
theorem zek(v:JV)(o:qd)(w:Wo)(ty:TypeId)(p:Value){og:Nat}{pa fa:Option Addr}{pg pc fg fc:Nat}{vt:TypeId}{vp:Value}(hw:Qh w)(hv:zx v)(hl:(ct v).length<=500000)(hr:zO w v (.iface ty p))(ho:YC w og o true pa fa pg pc fg fc vt vp):
  Calls prog 181 #[.iface ty p,.pointer (some ⟨og,0,none⟩)] w (Zg w (ZM 3 (qc v o.path o.val))):=by
 have b:Bw w w.drew:=(yH _ _).drew;have a:=ho.path;have d:Hid (Calls prog 215 #[.iface ty p,.slice pa o.path.length pc,.iface vt vp] w.drew (Zg w.drew (ZM 3 (qc v o.path o.val)))):=Rn v o.val o.path pa pg 0 pc w.drew ty vt p vp (hw.up b) hv hl (hr.next b) ((ho.val rfl).next b) (a.row.below b) a.cap1 a.cap2 a.len a.tok;have i:=ho.c7;have j:=ho.c9 rfl;clear hw hv hr ho a b;generalize o.path.length=n at *;go_in;go_wp2_with fail;go_region_law (go_simp;refine (uh d).mono ?_;rintro e k f;obtain⟨x,y,rfl,g⟩:=Zg.two f;have h:=zb g;clear f g d)
 all_goals
  go_wp2;go_ret2;exact Zg.undrew (uh h)
theorem zel(v:JV)(o:qd)(w:Wo)(ty:TypeId)(p:Value){og:Nat}{b:Bool}{pa fa:Option Addr}{pg pc fg fc:Nat}{vt:TypeId}{vp:Value}(hv:zx v)(hl:(ct v).length<=500000)(hr:zO w v (.iface ty p))(ho:YC w og o b pa fa pg pc fg fc vt vp):
  Calls prog 182 #[.iface ty p,.pointer (some ⟨og,0,none⟩)] w (Zg w (ZM 3 (qz v o.path))):=by
 have a:=ho.path;have d:=zb (BP v o.path pa pg 0 pc w ty p hv hl hr a.row a.cap1 a.cap2 a.len a.tok);have i:=ho.c7;clear hv hr ho a;generalize o.path.length=n at *;go_in;go_wp2_with fail;refine (uh d).mono ?_;rintro e j f;obtain⟨x,y,rfl,g⟩:=Zg.two f;have h:=zb g;clear f g d;go_wp2;go_ret2;exact uh h
theorem zem(u:JV)(x:Value)(w:Wo)(bb og:Nat)(vt:TypeId)(vp:Value)(k1:w.cell? ⟨bb,0,none⟩=some (.pointer (some ⟨og,0,none⟩)))(k2:w.cell? ⟨og,9,none⟩=some (.iface vt vp))(hu:zO w u (.iface vt vp)):
  Calls prog 218 #[x,.pointer (some ⟨bb,0,none⟩)] w (Zg w (.inr u)):=by
 have a:=zb hu;clear hu;go_in;go_wp2;go_ret2;exact⟨yH _ _,.inr ⟨u,_,_,rfl,rfl,uh a⟩⟩
theorem zen(v:JV)(o:qd)(w:Wo)(ty:TypeId)(p:Value){og:Nat}{pa fa:Option Addr}{pg pc fg fc:Nat}{vt:TypeId}{vp:Value}(hv:zx v)(hl:(ct v).length<=500000)(hr:zO w v (.iface ty p))(ho:YC w og o true pa fa pg pc fg fc vt vp):
  Calls prog 183 #[.iface ty p,.pointer (some ⟨og,0,none⟩)] w (Zg w (ZM 3 (qj (fun _=>some o.val) v o.path))):=by
 have d:=zu w (.cells #[.pointer (some ⟨og,0,none⟩)] 170);have l:=yG w (.cells #[.pointer (some ⟨og,0,none⟩)] 170);have a:=ho.next d;have b:=a.path;have i:FQ (w.alloc (.cells #[.pointer (some ⟨og,0,none⟩)] 170)) 218 #[.pointer (some ⟨w.heap.size,0,none⟩)] (fun _=>some o.val):=fun wx h tyh ph hx hgh hlh hrh=>
  zem o.val _ wx w.heap.size og vt vp (yF ((hx.block _ (by simp)).trans l) 0) ((a.next hx).c9 rfl) ((a.next hx).val rfl)
 have f:=zb (FR 218 zec _ _ o.path v pa pg 0 pc _ ty p i hv hl (hr.next d) b.row b.cap1 b.cap2 b.tok);have q:=a.c7;have g:=zb d;clear hv hr ho a b i d l;generalize o.path.length=n at *;go_in;go_wp2_with fail;refine (uh f).mono ?_;rintro e r j;obtain⟨x,y,rfl,k⟩:=Zg.two j;have m:=zb (Zg.from (uh g) k);clear j k f g;go_wp2;go_ret2;exact uh m
def GN(v:JV)(o:qd):Nat⊕JV:=match zM v o.src with
 | none=>.inl 3
 | some m=>ZM 3 (qc v o.path m)
theorem zeo{v:JV}{o:qd}(h:zM v o.src=none):GN v o= .inl 3:=by unfold GN;rw[h]
theorem zep{v m:JV}{o:qd}(h:zM v o.src=some m):GN v o=ZM 3 (qc v o.path m):=by unfold GN;rw[h]
def GO(v:JV)(o:qd):Nat⊕JV:=match zM v o.path with
 | none=>.inl 3
 | some h=>if ct h=ct o.val then .inr v else .inl 5
theorem zeq{v:JV}{o:qd}(h:zM v o.path=none):GO v o= .inl 3:=by unfold GO;rw[h]
theorem zer{v m:JV}{o:qd}(h:zM v o.path=some m):GO v o=if ct m=ct o.val then .inr v else .inl 5:=by unfold GO;rw[h]
theorem zes(v:JV)(o:qd)(w:Wo)(ty:TypeId)(p:Value){og:Nat}{b:Bool}{pa fa:Option Addr}{pg pc fg fc:Nat}{vt:TypeId}{vp:Value}(hw:Qh w)(hv:zx v)(hl:(ct v).length<=500000)(hr:zO w v (.iface ty p))(ho:YC w og o b pa fa pg pc fg fc vt vp)(hsl:o.src.length<=1048577):
  Calls prog 185 #[.iface ty p,.pointer (some ⟨og,0,none⟩)] w (Zg w (GN v o)):=by
 have i:=ho.path;have z:=ho.src;have u:=zb (PG v hv o.src fa fg 0 fc w ty p hr z.row hsl z.tok);have r:Hid (∀ (a:Wo) (m:JV) t q,Bw w a->zO a m (.iface t q)->Calls prog 215 #[.iface ty p,.slice pa o.path.length pc,.iface t q] a (Zg a (ZM 3 (qc v o.path m)))):=fun a m t q hx hm=>
  Rn v m o.path pa pg 0 pc a ty t p q (hw.up hx) hv hl (hr.next hx) hm (i.row.below hx) i.cap1 i.cap2 i.len i.tok
 have J:=ho.c8;have f:Hid (∀ a,Bw w a->a.cell? ⟨og,7,none⟩=some (.slice pa o.path.length pc)):=fun a hx=>(ho.next hx).c7;clear hw hv hr ho i z;generalize hnp:o.path.length=n at *;generalize hns:o.src.length=k at *;clear hnp hns;go_in;go_wp2_with fail;refine (uh u).mono ?_;rintro e a ⟨g,⟨c,B,d,rfl,l⟩ |⟨m,H,q,d,rfl,l⟩⟩
 ·have h:zM v o.src=none:=by
   cases hq:zM v o.src with
   | none=>rfl
   | some y=>rw[hq]at d;cases d
  rw[h]at d;have G:c=3:=by injection d with d;exact d.symm
  subst G;have E:Hid (Zg w (GN v o) (.returned (.tuple #[.nilIface,B])) a):=⟨g,.inl ⟨3,B,zeo h,rfl,l⟩⟩;obtain⟨fb,rfl,-⟩:=l;clear u r f g d h;go_wp2;go_ret2;exact uh E
 ·have h:=Jq d;have s:=zb (zep h);have j:=zb (uh r a m H q g l);have I:=uh f a g;have A:=zb g;clear u r f g d l h;go_wp2_with fail;refine (uh j).mono ?_;rintro e K C;obtain⟨x,y,rfl,D⟩:=Zg.two C;have F:=zb (Zg.from (uh A) D);clear C D j A;go_wp2;go_ret2;rw[uh s];exact uh F
def KV:Prop:=∀ (a b:JV) (w:Wo) (ta tb:TypeId) (pa pb:Value),zx a->zx b->(ct a).length<=1000000->(ct b).length<=1000000->zO w a (.iface ta pa)->zO w b (.iface tb pb) ->
 Calls prog 221 #[.iface ta pa,.iface tb pb] w (Rb (.bool (decide (ct a=ct b))) w)
theorem zet(hEq:KV)(v:JV)(o:qd)(w:Wo)(ty:TypeId)(p:Value){og:Nat}{pa fa:Option Addr}{pg pc fg fc:Nat}{vt:TypeId}{vp:Value}(hv:zx v)(_hl:(ct v).length<=500000)(hu:zx o.val)(hlu:(ct o.val).length<=1000000)(hr:zO w v (.iface ty p))(ho:YC w og o true pa fa pg pc fg fc vt vp)(hsl:o.path.length<=1048577)(hgl:∀ m,zM v o.path=some m->(ct m).length<=1000000):
  Calls prog 186 #[.iface ty p,.pointer (some ⟨og,0,none⟩)] w (Zg w (GO v o)):=by
 have B:=ho.path;have A:=zb (PG v hv o.path pa pg 0 pc w ty p hr B.row hsl B.tok);have u:Hid (∀ (a:Wo) (m:JV) t q,Bw w a->zM v o.path=some m->zO a m (.iface t q)->Calls prog 221 #[.iface t q,.iface vt vp] a (Rb (.bool (decide (ct m=ct o.val))) a)):=fun a m t q hx g hm=>
  hEq m o.val a t vt q vp (hv.get g) hu (hgl m g) hlu hm ((ho.next hx).val rfl)
 have H:=ho.c7;have i:Hid (∀ a,Bw w a->a.cell? ⟨og,9,none⟩=some (.iface vt vp)):=fun a hx=>(ho.next hx).c9 rfl;have x:Hid (∀ a,Bw w a->zO a v (.iface ty p)):=fun a hx=>hr.next hx;clear hv hr ho B hu hEq hgl;generalize hnp:o.path.length=n at *;clear hnp;go_in;go_wp2_with fail;refine (uh A).mono ?_;rintro e a ⟨j,⟨c,C,f,rfl,r⟩ |⟨m,F,q,f,rfl,r⟩⟩
 ·have g:zM v o.path=none:=by
   cases hq:zM v o.path with
   | none=>rfl
   | some y=>rw[hq]at f;cases f
  rw[g]at f;have E:c=3:=by injection f with f;exact f.symm
  subst E;have D:Hid (Zg w (GO v o) (.returned (.tuple #[.nilIface,C])) a):=⟨j,.inl ⟨3,C,zeq g,rfl,r⟩⟩;obtain⟨fb,rfl,-⟩:=r;clear A u i x j f g;go_wp2;go_ret2;exact uh D
 ·have g:=Jq f;have b:=zb (uh u a m F q j g r);have d:=zer g;have I:=uh i a j;have s:=zb j;clear A u i j f r g;by_cases k:ct m=ct o.val
  ·rw[yj k]at b;rw[yg k]at d;have z:=zb d;clear k d;go_wp2_with fail;refine (uh b).mono ?_;rintro e G ⟨rfl,l⟩;have h:=zb (zh (uh s) l);clear b l s;go_wp2;go_ret2;exact⟨uh h,.inr ⟨v,_,_,uh z,rfl,uh x _ (uh h)⟩⟩
  ·rw[yk k]at b;rw[yf k]at d;have z:=zb d;clear k d;go_wp2_with fail;refine (uh b).mono ?_;rintro e G ⟨rfl,l⟩;have h:=zb (zh (uh s) l);clear b l s x;go_wp2;go_ret2;exact⟨zh (uh h) (zu _ _),.inl ⟨5,_,uh z,rfl,_,rfl,yG _ _⟩⟩
theorem FS(s:Bs)(hs:s.size<=1048576):(Zy s).length<=1048577/\∀ x∈Zy s,x.length<=1048576:=by
 have a:=Zn s;have b:=Xx s.data.toList;refine⟨by show ((zG s.data.toList).getD []).length<=_;omega,fun x hx=>?_⟩;unfold Zy at hx
 cases hp:zG s.data.toList with
 | none=>rw[hp]at hx;simp at hx
 | some ts=>
  rw[hp]at hx;have:=ST hp x (by simpa using hx);omega
theorem BQ{w:Wo}{x:Value}{s:Bs}(h:OT w 0 x (Zy s))(hs:s.size<=1048576):∃ a g cap,x= .slice a (Zy s).length cap/\UF w (.slice a (Zy s).length cap) (Zy s) a g cap:=by
 obtain⟨n,j⟩:=FS s hs;obtain⟨a,g,cap,rfl,b,_⟩:=h.shape;refine⟨a,g,cap,rfl,rfl,b,?_,?_,by omega,j⟩
 all_goals
  rcases h.2 with ⟨d,m⟩ |⟨l,f,i,d,_,_,o,k,_⟩
  ·injection d with _ e2 e3;omega
  ·injection d with _ _ e3;unfold maxLen at k;omega
theorem GF.toM{w:Wo}{S:Nat->Prop}{m:zw}{q:VT}(h:GF w S m q)(hS:∀ k,S k->k<w.heap.size)(hz1:m.path.size<=1048576)(hz2:m.src.size<=1048576)(u:JV)(hu:qS m.kind=true->u=q.v):
  ∃ pa fa pg pc fg fc vt vp,YC w q.g ⟨m.kind,Zy m.path,Zy m.src,u⟩ (qS m.kind) pa fa pg pc fg fc vt vp:=by
 obtain⟨pa,pg,pc,n,j⟩:=BQ h.path hz1;obtain⟨fa,fg,fc,o,i⟩:=BQ h.src hz2;have a:=h.blk;unfold GB at a;have b:w.cell? ⟨q.g,7,none⟩=some q.pv:=yF a 7;have d:w.cell? ⟨q.g,8,none⟩=some q.fv:=yF a 8;have f:w.cell? ⟨q.g,9,none⟩=some q.vv:=yF a 9;rw[n]at b;rw[o]at d
 cases hv:qS m.kind with
 | false=>exact⟨pa,fa,pg,pc,fg,fc,0,.nilIface,j,i,b,d,fun e=>(by cases e),fun e=>(by cases e)⟩
 | true=>
  obtain⟨_,_,t,p,r,l⟩:=h.val hv;rw[r]at f l;refine⟨pa,fa,pg,pc,fg,fc,t,p,j,i,b,d,fun _=>f,fun _=>?_⟩;rw[show u=q.v from hu hv];exact zi.keep (fun _ _=>rfl) hS _ _ l
theorem zeu:YY 181:=fun args w=>by simp[callFunc,go_sem,func181,Result.andThen];rfl
theorem zev:YY 182:=fun args w=>by simp[callFunc,go_sem,func182,Result.andThen];rfl
theorem zew:YY 183:=fun args w=>by simp[callFunc,go_sem,func183,Result.andThen];rfl
theorem zex:YY 184:=fun args w=>by simp[callFunc,go_sem,func184,Result.andThen];rfl
theorem zey:YY 185:=fun args w=>by simp[callFunc,go_sem,func185,Result.andThen];rfl
theorem zez:YY 186:=fun args w=>by simp[callFunc,go_sem,func186,Result.andThen];rfl
def FT:Prop:=∀ (v:JV) (o:qd) (w:Wo) (ty:TypeId) (p:Value) (og:Nat) (b:Bool) (pa fa:Option Addr) (pg pc fg fc:Nat) (vt:TypeId) (vp:Value),o.kind=4->Qh w->zx v->(ct v).length<=200000->zO w v (.iface ty p)->YC w og o b pa fa pg pc fg fc vt vp->o.src.length<=1048577->o.path.length<=1048577 ->
 Calls prog 184 #[.iface ty p,.pointer (some ⟨og,0,none⟩)] w (Zg w (ZK v o))
theorem zeA(hEq:KV)(hMv:FT)(v:JV)(o:qd)(w:Wo)(ty:TypeId)(p:Value){og:Nat}{pa fa:Option Addr}{pg pc fg fc:Nat}{vt:TypeId}{vp:Value}(k1:1<=o.kind)(k6:o.kind<=6)(hw:Qh w)(hv:zx v)(hl:(ct v).length<=200000)(hu:zx o.val)(hlu:(ct o.val).length<=1000000)(hr:zO w v (.iface ty p))(ho:YC w og o (qS o.kind) pa fa pg pc fg fc vt vp)(hsl:o.src.length<=1048577)(hpl:o.path.length<=1048577)(hgl:∀ m,zM v o.path=some m->(ct m).length<=1000000):
  ∃ fid,Y7 o.kind= .func (Fn.func fid) #[] #[]/\YY fid/\Calls prog fid #[.iface ty p,.pointer (some ⟨og,0,none⟩)] w (Zg w (ZK v o)):=by
 have a:o.kind=1∨o.kind=2∨o.kind=3∨o.kind=4∨o.kind=5∨o.kind=6:=by omega
 rcases a with e | e | e | e | e | e
 ·rw[show qS o.kind=true by rw[e];rfl]at ho;refine⟨_,by rw[e];rfl,zeu,?_⟩;rw[show ZK v o=ZM 3 (qc v o.path o.val) by unfold ZK;rw[yg e]];exact zek v o w ty p hw hv (by omega) hr ho
 ·refine⟨_,by rw[e];rfl,zev,?_⟩;rw[show ZK v o=ZM 3 (qz v o.path) by unfold ZK;rw[yf (by omega),yg e]];exact zel v o w ty p hv (by omega) hr ho
 ·rw[show qS o.kind=true by rw[e];rfl]at ho;refine⟨_,by rw[e];rfl,zew,?_⟩;rw[show ZK v o=ZM 3 (qj (fun _=>some o.val) v o.path) by unfold ZK;rw[yf (by omega),yf (by omega),yg e]];exact zen v o w ty p hv (by omega) hr ho
 ·refine⟨_,by rw[e];rfl,zex,?_⟩;exact hMv v o w ty p og _ pa fa pg pc fg fc vt vp e hw hv hl hr ho hsl hpl
 ·refine⟨_,by rw[e];rfl,zey,?_⟩;rw[show ZK v o=GN v o by unfold ZK GN;rw[yf (by omega),yf (by omega),yf (by omega),yf (by omega),yg e];cases zM v o.src<;>rfl];exact zes v o w ty p hw hv (by omega) hr ho hsl
 ·rw[show qS o.kind=true by rw[e];rfl]at ho;refine⟨_,by rw[e];rfl,zez,?_⟩;rw[show ZK v o=GO v o by unfold ZK GO;rw[yf (by omega),yf (by omega),yf (by omega),yf (by omega),yf (by omega)];cases zM v o.path<;>rfl];exact zet hEq v o w ty p hv (by omega) hu hlu hr ho hpl hgl
theorem BR{w:Wo}{S S':Nat->Prop}(a b:JV)(v:Value)(ha:zx a)(hb:zx b)(h:zi w S a v)(h':zi w S' b v):ct a=ct b:=by
 induction hn:zL a using Nat.strongRecOn generalizing a b v with
 | _ n ih=>
  have p:qa a=qa b:=by
   obtain⟨q,e⟩:=Gr h;obtain⟨N,d⟩:=Gr h';rw[e]at d;injection d
  cases a with
  | nul=>cases b with
   | nul=>rfl
   | _=>exact absurd p (by simp only[qa];decide)
  | tt=>cases b with
   | tt=>rfl
   | ff=>rw[zi]at h;rw[zi]at h';rw[h]at h';injection h' with _ h';injection h' with h';cases h'
   | _=>exact absurd p (by simp only[qa];decide)
  | ff=>cases b with
   | ff=>rfl
   | tt=>rw[zi]at h;rw[zi]at h';rw[h]at h';injection h' with _ h';injection h' with h';cases h'
   | _=>exact absurd p (by simp only[qa];decide)
  | num l=>cases b with
   | num m=>
    rw[zi]at h h';obtain⟨z,e,hz,_⟩:=h;obtain⟨z',d,ah,_⟩:=h';rw[e]at d;injection d with _ d;injection d with _ d;subst d;rw[ct,ct,← hz,← ah]
   | _=>exact absurd p (by simp only[qa];decide)
  | str l=>cases b with
   | str m=>
    rw[zi]at h h';rw[h]at h';injection h' with _ h';injection h' with h';have e:=congrArg (fun b:Bs=>b.data.toList) h';simp only[Zf]at e;rw[e]
   | _=>exact absurd p (by simp only[qa];decide)
  | arr l=>cases b with
   | arr m=>
    rw[zi]at h h';obtain⟨ab,sv,s,e,_,Z,T,hL⟩:=h;obtain⟨ab',aj,i,d,_,f,M,W⟩:=h';rw[e]at d;injection d with _ d;injection d with d;injection d with d;injection d with d;subst d;rw[Z]at f;have ag:sv=aj:=by
     injection f with f;injection f with f;simpa using f
    subst ag;obtain⟨a1,g,cap,e1,hg,I⟩:=VH T;obtain⟨a2,g',ak,e2,aa,C⟩:=VH M;rw[e1]at e2;injection e2 with ea el _;obtain⟨hl,Y⟩:=JW l s hL;obtain⟨hl',P⟩:=JW m i W;rw[Du ha hb];apply List.ext_getElem
    ·rw[yl,yl];omega
    ·intro j H D;rw[yl]at H D;rw[List.getElem_map,List.getElem_map];have j1:j<s.length:=by omega
     have j2:j<i.length:=by omega
     have g1:=(hg (by omega)).1;have g2:=(aa (by omega)).1;have eg:g=g':=by
      have:=g1.symm.trans (ea.trans g2);injection this with this;injection this
     have U:i[j]=s[j]:=by
      have:=I j j1;rw[eg,C j j2]at this;injection this
     have B:=P j j2 D;rw[U]at B;have hd:zL l.toL[j]<=dl l.toL:=Ku (yr _);exact ih (zL l.toL[j]) (by rw[← hn,zL,WC];omega) _ _ s[j] ((Yn l).1 ha _ (yr _)) ((Yn m).1 hb _ (yr _)) (Y j j1 H) B rfl
   | _=>exact absurd p (by simp only[qa];decide)
  | obj k=>cases b with
   | obj m=>
    rw[zi]at h h';obtain⟨ob,mb,nn,s,e,_,_,Z,F,_,hM⟩:=h;obtain⟨ob',ai,nn',i,d,_,_,f,A,_,X⟩:=h';rw[e]at d;injection d with _ d;injection d with d;injection d with d;injection d with d;subst d;rw[Z]at f;have af:mb=ai:=by
     injection f with f;injection f with f;simpa using f
    subst af;have V:Zb s=Zb i:=by
     obtain⟨es,cl,q1,_,_,d1⟩:=F;obtain⟨es',cl',O,_,_,d2⟩:=A;rw[q1]at O;injection O with O;injection O with O _;subst O;exact d1.trans d2.symm
    obtain⟨u,R⟩:=Yu k s hM;obtain⟨o,L⟩:=Yu m i X;have gk:=(QU k).1 ha;have gm:=(QU m).1 hb;have Q:(s.map (·.1)).Nodup:=by rw[u,QE];exact gk.1
    have E:(i.map (·.1)).Nodup:=by rw[o,QE];exact gm.1
    have s1:Maps.size (Zb s)=s.length:=by rw[Ug (Uf F Q),yl]
    have s2:Maps.size (Zb i)=i.length:=by rw[Ug (Uf A E),yl]
    have l1:s.length=k.toL.length:=by have:=congrArg List.length u;rw[QE]at this;simpa using this
    have l2:i.length=m.toL.length:=by have:=congrArg List.length o;rw[QE]at this;simpa using this
    rw[Dv ha hb];refine⟨by rw[V]at s1;omega,fun q hq=>?_⟩;obtain⟨x,hx,hr⟩:=R q.1 q.2 hq;have J:=Wh s Q hx;have ad:q.1∈m.toL.map (·.1):=by
     have H:Maps.has (Zb s) (.string q.1)=true:=by
      rw[Wi,List.contains_eq_mem,decide_eq_true_eq];exact yO.2 ⟨_,hx,rfl⟩
     rw[V,Wi,List.contains_eq_mem,decide_eq_true_eq,o,QE]at H;exact H
    obtain⟨N,K,G⟩:=yO.1 ad;obtain⟨y,hy,B⟩:=L N.1 N.2 K;have r:=Wh i E hy;have U:y=x:=by
     have H:=UL q.1 .nil s;have D:=UL N.1 .nil i;rw[G,← V,H]at D;rw[G]at r;rw[J,r]at D;injection D with D;exact D.symm
    rw[U]at B;refine⟨N.2,by rw[← G];exact K,?_⟩;have hd:zL q.2<=dl (k.toL.map (·.2)):=Ku (yO.2 ⟨q,hq,rfl⟩);exact ih (zL q.2) (by rw[← hn,zL,VW];omega) _ _ x (gk.2 q hq).2 (gm.2 N K).2 hr B rfl
   | _=>exact absurd p (by simp only[qa];decide)
theorem BS{tp te:TypeId}(hinfo:(prog.info? tp).map (·.comparable)=some true)(hu:prog.underlying tp=some (.pointer te))(hz:∀ w:Wo,∃ n,n≠0/\(sizeOf te).run prog w= .ok n w)(a:Nat)(w:Wo):
  (binOp .eql 66 (.iface tp (.pointer (some ⟨a,0,none⟩))) (.iface tp (.pointer (some ⟨a,0,none⟩)))).run prog w= .ok (.bool true) w:=by
 obtain⟨i,j,g⟩:=yz.1 hinfo;obtain⟨n,k,l⟩:=hz w;have b:(sameAddr ⟨a,0,none⟩ ⟨a,0,none⟩).run prog w= .ok true w:=run_sameAddr_same w _;have h:∀ d:Nat,(Op.equalIn (d+1) tp (.pointer (some ⟨a,0,none⟩)) (.pointer (some ⟨a,0,none⟩))).run prog w= .ok true w:=fun d=>by
  rw[Op.equalIn];simp[run_underlying hu,l,k,b]
 have f:∀ d:Nat,(Op.equalIn (d+1+1) 66 (.iface tp (.pointer (some ⟨a,0,none⟩))) (.iface tp (.pointer (some ⟨a,0,none⟩)))).run prog w= .ok true w:=fun d=>by
  rw[Op.equalIn];simp[run_underlying underlying66,typeInfo,j,g,h d]
 simp only[binOp];simp[Op.equal,Op.maxDepth,f 9998]
theorem Ro{w:Wo}{a b:JV}{v1 v2:Value}(h1:zO w a v1)(h2:zO w b v2)(ga:zx a)(gb:zx b):
  ∃ r,(binOp .eql 66 v1 v2).run prog w= .ok (.bool r) w/\(r=true->ct a=ct b)/\(r=false->Vq a b=false):=by
 have x:∀ w:Wo,∃ n,n≠0/\(sizeOf 198).run prog w= .ok n w:=fun w=>⟨1,by decide,by kernel_rfl⟩;have p:∀ w:Wo,∃ n,n≠0/\(sizeOf 228).run prog w= .ok n w:=fun w=>⟨1,by decide,by kernel_rfl⟩;have leaf:zi w (fun _=>False) a v1->∃ r,(binOp .eql 66 v1 v2).run prog w= .ok (.bool r) w/\(r=true->ct a=ct b)/\(r=false->Vq a b=false):=fun h=>
  ⟨Vq a b,zaR (fun k hk=>hk.elim) h h2,zdQ,id⟩
 have f:=h1;have g:=h2;unfold zO at h1 h2;by_cases q:qa a=qa b
 ·cases a with
  | nul=>exact leaf (by rw[zi]at h1 ⊢;exact h1)
  | tt=>exact leaf (by rw[zi]at h1 ⊢;exact h1)
  | ff=>exact leaf (by rw[zi]at h1 ⊢;exact h1)
  | num l=>exact leaf (by rw[zi]at h1 ⊢;exact h1)
  | str l=>exact leaf (by rw[zi]at h1 ⊢;exact h1)
  | arr l=>cases b with
   | arr m=>
    rw[zi]at h1 h2;obtain⟨i,F,A,j,_,s,_⟩:=h1;obtain⟨d,z,v,o,_,u,_⟩:=h2;by_cases e:i=d
    ·subst e;refine⟨true,by rw[j,o];exact BS (by kernel_rfl) underlying195 x i w,fun _=>?_,fun h=>by cases h⟩;exact BR _ _ v1 ga gb f (by rw[j,← o];exact g)
    ·subst j;subst o;exact⟨false,XN (by kernel_rfl) underlying195 x i d e w s u,fun h=>(by cases h),fun _=>rfl⟩
   | _=>exact absurd q (by simp only[qa];decide)
  | obj l=>cases b with
   | obj m=>
    rw[zi]at h1 h2;obtain⟨i,b,C,A,j,_,_,s,_⟩:=h1;obtain⟨d,B,y,v,o,_,_,u,_⟩:=h2;by_cases e:i=d
    ·subst e;refine⟨true,by rw[j,o];exact BS (by kernel_rfl) underlying225 p i w,fun _=>?_,fun h=>by cases h⟩;exact BR _ _ v1 ga gb f (by rw[j,← o];exact g)
    ·subst j;subst o;exact⟨false,XN (by kernel_rfl) underlying225 p i d e w s u,fun h=>(by cases h),fun _=>rfl⟩
   | _=>exact absurd q (by simp only[qa];decide)
 ·obtain⟨D,rfl⟩:=Gr h1;obtain⟨E,rfl⟩:=Gr h2;exact⟨false,run_eql_iface_types _ _ _ _ underlying66 q w,fun h=>(by cases h),fun _=>Lk q⟩
def GQ(a b:JV):Prop:=∀ (w:Wo) (ta tb:TypeId) (pa pb:Value),zO w a (.iface ta pa)->zO w b (.iface tb pb) ->
 Calls prog 221 #[.iface ta pa,.iface tb pb] w (Rb (.bool (decide (ct a=ct b))) w)
theorem BT{w:Wo}{l:JL}{sv:Value}{xs:List Value}(hrow:GV w (fun k=>k<w.heap.size) sv xs)(hL:Zl w (fun k=>k<w.heap.size) l xs):
  ∃ a g cap,sv= .slice a l.toL.length cap/\(0<l.toL.length->a=some ⟨g,0,none⟩/\g<w.heap.size)/\∀ j (hj:j<l.toL.length),∃ t p,w.cell? ⟨g,j,none⟩=some (.iface t p)/\zO w l.toL[j] (.iface t p):=by
 obtain⟨a,g,cap,e,m,i⟩:=VH hrow;obtain⟨h,b⟩:=JW l xs hL;refine⟨a,g,cap,by rw[← h];exact e,by rw[← h];exact m,fun j hj=>?_⟩;have d:=b j (by omega) hj;obtain⟨t,p,f⟩:=Vb d;refine⟨t,p,by rw[i j (by omega),f],?_⟩;rw[f]at d;exact d
theorem zeB (l m:JL) (hE:∀ u∈l.toL,∀ u'∈m.toL,GQ u u') (w:Wo) (a1 a2:Option Addr) (g1 g2 c1 c2:Nat) (hl:l.toL.length<=1000000)
  (h1:0<l.toL.length->a1=some ⟨g1,0,none⟩/\g1<w.heap.size) (h2:0<m.toL.length->a2=some ⟨g2,0,none⟩/\g2<w.heap.size)
  (k1:∀ j (hj:j<l.toL.length),∃ t p,w.cell? ⟨g1,j,none⟩=some (.iface t p)/\zO w l.toL[j] (.iface t p)) (k2:∀ j (hj:j<m.toL.length),∃ t p,w.cell? ⟨g2,j,none⟩=some (.iface t p)/\zO w m.toL[j] (.iface t p)):
  Calls prog 246 #[.slice a1 l.toL.length c1,.slice a2 m.toL.length c2,.func (Fn.func 221) #[] #[]] w fun e w'=>e= .returned (.bool (decide (l.toL.map ct=m.toL.map ct)))/\Bw w w':=by
 by_cases s:l.toL.length=m.toL.length
 ·have H:Hid (∀ (wr:Wo) (j:Nat) (hj:j < l.toL.length),Bw w wr->∃ t p i g,wr.cell? ⟨g1,j,none⟩=some (.iface t p)/\wr.cell? ⟨g2,j,none⟩=some (.iface i g) /\
    Calls prog 221 #[.iface t p,.iface i g] wr (Rb (.bool (decide (ct (l.toL.getD j .nul)=ct (m.toL.getD j .nul)))) wr)):=by
   intro wr j hj d;have a:j<m.toL.length:=by omega
   obtain⟨t,p,e,K⟩:=k1 j hj;obtain⟨i,g,I,D⟩:=k2 j a;have B:l.toL.getD j .nul=l.toL[j]:=by simp[List.getD,hj]
   have C:m.toL.getD j .nul=m.toL[j]:=by simp[List.getD,a]
   rw[B,C];exact⟨t,p,i,g,(d.cell (p:=⟨g1,j,none⟩) (h1 (by omega)).2).trans e,(d.cell (p:=⟨g2,j,none⟩) (h2 (by omega)).2).trans I,hE _ (yr hj) _ (yr a) wr t i p g (K.next d) (D.next d)⟩
  have y:Hid (0<l.toL.length->a1=some ⟨g1,0,none⟩/\a2=some ⟨g2,0,none⟩):=fun h=>⟨(h1 h).1,(h2 (by omega)).1⟩;have o:Hid ((∀ j (hj:j<l.toL.length),ct (l.toL.getD j .nul)=ct (m.toL.getD j .nul))->decide (l.toL.map ct=m.toL.map ct)=true):=fun h=>yj (List.ext_getElem (by simpa using s) fun j hj _=>by
   rename_i a;rw[yl]at hj a;have:=h j hj;rw[List.getElem_map,List.getElem_map];simpa [List.getD,hj,a]using this)
  have z:Hid (∀ j (hj:j<l.toL.length),¬ ct (l.toL.getD j .nul)=ct (m.toL.getD j .nul)->decide (l.toL.map ct=m.toL.map ct)=false):=fun j hj h=>yk fun e=>h (by
   have:=congrArg (fun L=>L[j]?) e;have a:j<m.toL.length:=by omega
   simp only[List.getElem?_map]at this;rw[yx hj,yx a]at this;simpa [List.getD,hj,a]using this)
  clear hE h1 h2 k1 k2;generalize x:(decide (l.toL.map ct=m.toL.map ct))=Q at *;clear x;rw[← s];clear s;generalize hN:l.toL.length=N at *;clear hN;go_in;go_wp2_with fail;go_loopw [17] (fun iv wr=>∃ k:Nat,k<=N/\iv= .int .i64 (k:Int)/\Bw w wr/\Hid (∀ j (hj:j<N),j<k->ct (l.toL.getD j .nul)=ct (m.toL.getD j .nul))) (fun iv _=>N - (intOf iv).toNat)
  case atStart=>exact⟨0,yt _,rfl,yH _ _,fun j _ hj=>by omega⟩
  case round=>
   obtain⟨k,P,rfl,d,q⟩:=hrel;by_cases r:k<N
   ·obtain⟨rfl,rfl⟩:=uh y (by omega);obtain⟨t,p,i,g,M,O,b⟩:=uh H wr k r d;have E:=zb b;have v:=zb d;clear b d;go_wp2_with fail;refine (uh E).mono ?_;rintro e T ⟨rfl,F⟩;have n:=zb (zh (uh v) F);clear E F M O v;by_cases f:ct (l.toL.getD k .nul)=ct (m.toL.getD k .nul)
    ·rw[yj f];have G:Hid (∀ j (hj:j<N),j<k+1->ct (l.toL.getD j .nul)=ct (m.toL.getD j .nul)):=fun j hj h=>by
      by_cases B:j=k
      ·subst B;exact f
      ·exact uh q j hj (by omega)
     clear f q;go_wp2;go_roundw
     case rel=>exact⟨k+1,by omega,by go_num,uh n,G⟩
     case measure=>simp[intOf];omega
    ·rw[yk f];have A:=zb (uh z k r f);clear f q;go_wp2;go_ret;exact⟨by rw[uh A];rfl,uh n⟩
   ·have A:=zb (uh o fun j hj=>uh q j hj (by omega));have v:=zb d;clear q d;go_wp2;go_ret;exact⟨by rw[uh A];rfl,uh v⟩
 ·have x:decide (l.toL.map ct=m.toL.map ct)=false:=yk fun e=>s (by simpa using congrArg List.length e);rw[x];have J:¬ ((l.toL.length:Int)=(m.toL.length:Int)):=by omega
  clear x hE k1 k2 h1 h2 s;generalize l.toL.length=R at *;generalize m.toL.length=S at *;go_in;go_wp2;go_ret;exact⟨rfl,yH _ _⟩
end Go.Proofs.YtekpghcckdjnhaaGreatDoor
namespace Go.Proofs.YtekpghcckdjnhaaGreatDoor
open Go.RowKit Go.Sort Go.Proofs.Tryz
theorem Rp{m:JM}{q:List UInt8×JV}(h:q∈m.toL):(quoted q.1).length+1+(ct q.2).length<=(ct (.obj m)).length:=by
 have a:=Yh m;have b:=GH Z0 h;simp only[Z0]at b;unfold hold at a;omega
theorem zeC (k m:JM) (gk:zx (.obj k)) (gm:zx (.obj m)) (lk:(ct (.obj k)).length<=1000000) (hE:∀ q∈k.toL,∀ q'∈m.toL,GQ q.2 q'.2) (w:Wo) (b1 b2 n1 n2:Nat) (xs ys:List (List UInt8×Value))
  (h1:w.ownsMap prog 9 RH b1 n1 (Zb xs)) (h2:w.ownsMap prog 9 RH b2 n2 (Zb ys)) (r1:Zu w (fun k=>k<w.heap.size) k xs) (r2:Zu w (fun k=>k<w.heap.size) m ys):
  Calls prog 247 #[.map (some b1),.map (some b2),.func (Fn.func 221) #[] #[]] w fun e w'=>e= .returned (.bool (decide (ct (.obj k)=ct (.obj m))))/\Bw w w':=by
 obtain⟨f,I⟩:=Yu k xs r1;obtain⟨d,o⟩:=Yu m ys r2;have g1:=(QU k).1 gk;have g2:=(QU m).1 gm;have M:(xs.map (·.1)).Nodup:=by rw[f,QE];exact g1.1
 have z:(ys.map (·.1)).Nodup:=by rw[d,QE];exact g2.1
 have l1:xs.length=k.toL.length:=by have:=congrArg List.length f;rw[QE]at this;simpa using this
 have l2:ys.length=m.toL.length:=by have:=congrArg List.length d;rw[QE]at this;simpa using this
 have s1:Maps.size (Zb xs)=k.toL.length:=by rw[Ug (Uf h1 M),yl,l1]
 have s2:Maps.size (Zb ys)=m.toL.length:=by rw[Ug (Uf h2 z),yl,l2]
 have B:=Dv gk gm;have hln1:∀ ty,(Builtin.len_ #[226] ty #[.map (some b1)]).run prog w= .ok (.int .i64 (k.toL.length:Int)) w:=fun ty=>by
  have:=h1.len underlying226 ty;rw[s1]at this;exact this
 have R:∀ ty,(Builtin.len_ #[226] ty #[.map (some b2)]).run prog w= .ok (.int .i64 (m.toL.length:Int)) w:=fun ty=>by
  have:=h2.len underlying226 ty;rw[s2]at this;exact this
 have hb1:=h1.lt;have hb2:=h2.lt;by_cases hn:k.toL.length=m.toL.length
 ·have D:Hid (∀ (wr:Wo) (a:Lit->Bool) (x:List UInt8) (c:Value) (l:Lit) (y1:DataW Value) (y2:List MemPlace),Bw w wr->keyOf prog 9 (.string (ze x))=some l->a l=true->(a l=true->Maps.has (Zb xs) l=true)->RH c=some (y1,y2)->(∀ zd,(Zb xs).atKey l zd=y1) ->
    ∃ t p u,l= .string x/\c= .iface t p/\(x,u)∈k.toL/\((∃ v0,(Instr.lookup 226 (.map (some b2)) (.string (ze x)) true).run prog wr= .ok (.tuple #[v0,.bool false]) wr/\decide (ct (.obj k)=ct (.obj m))=false) ∨
     ∃ t' p' J,(Instr.lookup 226 (.map (some b2)) (.string (ze x)) true).run prog wr= .ok (.tuple #[.iface t' p',.bool true]) wr/\(x,J)∈m.toL/\(¬ ct u=ct J->decide (ct (.obj k)=ct (.obj m))=false) /\
      Calls prog 221 #[.iface t p,.iface t' p'] wr (Rb (.bool (decide (ct u=ct J))) wr))):=by
   intro wr a x c l y1 y2 hwr s hl hh P K;obtain⟨x',hx',hkl,_⟩:=Maps.keyOf_str underlying9 s;have ex:x'=x:=by
    have:Value.string (ze x)=encStr x':=hx';simp only[encStr,Value.string.injEq]at this;have h2:=congrArg (fun b:Bs=>b.data.toList) this;simpa [ze]using h2.symm
   subst ex;subst hkl;have L:=hh hl;rw[Wi,f]at L;simp only[List.contains_eq_mem,decide_eq_true_eq]at L;rw[QE]at L;obtain⟨q,i,hqx⟩:=yO.1 L;obtain⟨N,v⟩:=q;simp only at hqx;subst hqx;obtain⟨x0,hx0,hr⟩:=I N v i;have ab:=Wh xs M hx0;have e1:=(K (.held .nilIface)).symm.trans (UL N (.held .nilIface) xs);rw[ab]at e1;injection P with P;injection P with P _;subst P;injection e1 with e1;subst e1;obtain⟨t,p,rfl⟩:=Vb hr;have hkn:N.length<=10000000:=by have:=Rp i;have:=KJ N;simp only at *;omega
   obtain⟨v0,g,hv0⟩:=RK (VZ h2 (hwr.block b2 hb2)) N hkn;have j:=RJ N ys;refine⟨t,p,v,rfl,rfl,i,?_⟩
   cases n:(JB ys N).isSome with
   | false=>
    rw[n]at g;refine .inl ⟨v0,g,yk fun e=>?_⟩;obtain⟨u,hu,_⟩:=(B.1 e).2 _ i;rw[n,d,QE]at j;have:N∈m.toL.map (·.1):=yO.2 ⟨_,hu,rfl⟩;rw[List.contains_eq_mem,yj this]at j
    cases j
   | true=>
    rw[n]at g j;have hin2:N∈m.toL.map (·.1):=by
     rw[d,QE]at j;simpa using j.symm
    obtain⟨q',C,eq'⟩:=yO.1 hin2;obtain⟨k2,J⟩:=q';simp only at eq';subst eq';obtain⟨y0,hy0,hr'⟩:=o k2 J C;have hl':=Wh ys z hy0;have ey:v0=y0:=by have:=(hv0 n).symm.trans hl';injection this
    subst ey;obtain⟨t',p',rfl⟩:=Vb hr';refine .inr ⟨t',p',J,g,C,fun hne=>yk fun e=>?_,hE _ i _ C wr t t' p p' (zO.next hr hwr) (zO.next hr' hwr)⟩;obtain⟨u2,hu2,e2⟩:=(B.1 e).2 _ i;have:(k2,J)=(k2,u2):=O9 g2.1 C hu2 rfl;injection this with _ this;exact hne (by rw[this];exact e2)
  have HZ:Hid (∀ q∈k.toL,Maps.has (Zb xs) (.string q.1)=false->∃ u,(q.1,u)∈m.toL/\ct q.2=ct u):=fun q i h=>by
   rw[Wi,f,QE,List.contains_eq_mem,decide_eq_false_iff_not]at h;exact absurd (yO.2 ⟨q,i,rfl⟩) h
  have G:Hid ((∀ q∈k.toL,∃ u,(q.1,u)∈m.toL/\ct q.2=ct u)->decide (ct (.obj k)=ct (.obj m))=true):=fun h=>yj (B.2 ⟨hn,h⟩);have HUQ:Hid (∀ q∈k.toL,∀ q'∈k.toL,q.1=q'.1->q=q'):=fun q i q' C e=>O9 g1.1 i C e;have HOW:=zb h1;rw[← hn]at R;generalize decide (ct (.obj k)=ct (.obj m))=Q at *;clear hE h1 h2 r1 r2 f I d o g1 g2 M z l1 l2 s1 s2 B hn gk gm lk;generalize k.toL.length=NN at *;go_in;go_wp2_with (first |(at_range;refine wpList_range_own _ rfl _ 226 rfl 9 66 (Maps.string_keyed underlying9) underlying226 RH b1 n1 (Zb xs) rfl (uh HOW) ?_;intro w0 S A hs0) | go_in);have B0:Hid (Bw w w0):=⟨A.os,A.tape,A.output,A.size,fun k hk=>A.block k hk (by simp)⟩;have E:=zb S;clear S A hs0 HOW hln1 R;obtain⟨r,hr⟩:∃ r,w.heap.size=r:=⟨_,rfl⟩;have HRR:=zb hr;rw[hr]at E;simp only[hr];clear hr;go_frame;go_loopw [18] (fun _ wr=>∃ a cnt,wr.ranges prog 9 RH b1 r n1 (Zb xs) a cnt/\(∀ l,a l=true->Maps.has (Zb xs) l=true)/\Bw w wr/\Hid (∀ q∈k.toL,a (.string q.1)=false->∃ u,(q.1,u)∈m.toL/\ct q.2=ct u)) (fun _ wr=>wr.rangeLeft b1 r)
  case atStart=>exact⟨_,_,uh E,fun _ h=>h,uh B0,HZ⟩
  case round=>
   obtain⟨a,cnt,hrg,U,bw,hd⟩:=hrel;have HRG:=zb hrg;have F:=zb U;have W:=zb bw;clear hrg U bw E B0 HZ;go_wp2_with (first |(at_next;(refine wpList_next_ranges (α:=List UInt8) (β:=Value) _ rfl _ rfl 9 (Maps.string_keyed underlying9) RH (fun x=>.string (ze x)) (fun v=>v) (fun key l hk=>by obtain⟨x,hx,_⟩:=Maps.keyOf_str underlying9 hk;exact⟨x,hx⟩) (fun v y _=>⟨v,rfl⟩) b1 r n1 (Zb xs) a cnt rfl (uh HRG) ?_ ?_)) | go_in)
   ·intro _ hl0;have HQ:=zb (uh G fun q i=>uh hd q i (hl0 _));clear D G hl0 hd F HUQ;go_wp2;go_ret;exact⟨by rw[uh HQ];rfl,uh W⟩
   ·intro x c l y1 y2 w2 cnt2 s n P K T hlt hg2 hs2 hen;have aa:Bw w w2:=(uh W).trans (Uu hg2 (by have:=uh HRR;omega) (uh W).size);obtain⟨t,p,u,rfl,rfl,hu,hcs⟩:=uh D w2 a x c l y1 y2 aa s n (uh F l) P K;have HRG2:=zb T;have V:=zb aa;have HLT:=zb hlt;clear s n P K T hg2 hs2 aa D hlt;rcases hcs with ⟨v0,g,i⟩ |⟨t',p',J,g,hu',hno,H⟩
    ·have HQ:=zb i;clear i G hd hu;go_wp2;go_ret;exact⟨by rw[uh HQ];rfl,uh V⟩
    ·have HC:=zb H;have X:=zb hno;have HU:=zb hu;have Y:=zb hu';clear H hno hu hu';go_wp2_with fail;refine (uh HC).mono ?_;rintro e w3 ⟨rfl,Z⟩;have O:=zb ((uh HRG2).kept (⟨Z.os,Z.tape,Z.output,Z.size,fun k hk _=>Z.block k hk⟩:w2.grownBy w3 none) (by simp) (by simp));have HB3:=zb (zh (uh V) Z);clear HC Z g hen V;by_cases he:ct u=ct J
     ·rw[yj he];have HD:Hid (∀ q∈k.toL,Q0 a x (.string q.1)=false->∃ u,(q.1,u)∈m.toL/\ct q.2=ct u):=fun q i h=>by
       by_cases ex:q.1=x
       ·have:=uh HUQ q i (x,u) (uh HU) ex;subst this;exact⟨J,uh Y,he⟩
       ·rw[Kt ex]at h;exact uh hd q i h
      clear he hd X HU Y;go_wp2;go_roundw
      case rel=>exact⟨Q0 a x,cnt2,uh O,fun l h=>uh F l (by unfold Q0 at h;rw[Bool.and_eq_true]at h;exact h.1),uh HB3,HD⟩
      case measure=>rw[(uh O).left_eq,(uh HRG).left_eq];exact uh HLT
     ·rw[yk he];have HQ:=zb (uh X he);clear he hd X HU Y;go_wp2;go_ret;exact⟨by rw[uh HQ];rfl,uh HB3⟩
 ·have i:decide (ct (.obj k)=ct (.obj m))=false:=yk fun e=>hn (B.1 e).1;rw[i];have hne:¬ ((k.toL.length:Int)=(m.toL.length:Int)):=by omega
  clear i hE h1 h2 r1 r2 f I d o g1 g2 M z l1 l2 s1 s2 B hn gk gm lk;generalize k.toL.length=N1 at *;generalize m.toL.length=N2 at *;go_in;go_wp2;go_ret;exact⟨rfl,yH _ _⟩
end Go.Proofs.YtekpghcckdjnhaaGreatDoor
namespace Go.Proofs.YtekpghcckdjnhaaGreatDoor
open Go.RowKit Go.Proofs.Tryz
theorem Rq(a:Addr)(w:Wo):(Instr.typeAssert (.iface 195 (.pointer (some a))) 66 195 true).run prog w= .ok (.tuple #[.pointer (some a),.bool true]) w:=by kernel_rfl
theorem Rr(a:Addr)(w:Wo):(Instr.typeAssert (.iface 225 (.pointer (some a))) 66 225 true).run prog w= .ok (.tuple #[.pointer (some a),.bool true]) w:=by kernel_rfl
theorem Rs{a:JV}(h:∀ l,a≠.arr l)(p:Value)(w:Wo):(Instr.typeAssert (.iface (qa a) p) 66 195 true).run prog w= .ok (.tuple #[.pointer none,.bool false]) w:=by
 cases a with
 | arr l=>exact absurd rfl (h l)
 | nul=>kernel_rfl
 | tt=>kernel_rfl
 | ff=>kernel_rfl
 | num _=>kernel_rfl
 | str _=>kernel_rfl
 | obj _=>kernel_rfl
theorem BU{a:JV}(h:∀ l,a≠.obj l)(p:Value)(w:Wo):(Instr.typeAssert (.iface (qa a) p) 66 225 true).run prog w= .ok (.tuple #[.pointer none,.bool false]) w:=by
 cases a with
 | obj l=>exact absurd rfl (h l)
 | nul=>kernel_rfl
 | tt=>kernel_rfl
 | ff=>kernel_rfl
 | num _=>kernel_rfl
 | str _=>kernel_rfl
 | arr _=>kernel_rfl
theorem zeD(l m:JL)(gl:zx (.arr l))(gm:zx (.arr m))(ll:(ct (.arr l)).length<=1000000)(hE:∀ u∈l.toL,∀ u'∈m.toL,GQ u u'):GQ (.arr l) (.arr m):=by
 intro w ta tb pa U v x;obtain⟨N,H,f,-⟩:=Ro v x gl gm;unfold zO at v x;rw[zi]at v x;obtain⟨E,X,xs,C,O,k,g,G⟩:=v;obtain⟨h,P,R,D,I,n,d,i⟩:=x;injection C with C e1';injection D with D e2';subst C;subst e1';subst D;subst e2';obtain⟨A,K,c1,rfl,o,r⟩:=BT g G;obtain⟨B,L,c2,rfl,q,s⟩:=BT d i;have M:l.toL.length<=1000000:=FP ll;have V:w.cell? ⟨E,0,none⟩=some (.slice A l.toL.length c1):=yF k 0;have W:w.cell? ⟨h,0,none⟩=some (.slice B m.toL.length c2):=yF n 0;have z:Hid (Calls prog 246 #[.slice A l.toL.length c1,.slice B m.toL.length c2,.func (Fn.func 221) #[] #[]] w.drew fun e w'=>e= .returned (.bool (decide (ct (.arr l)=ct (.arr m))))/\Below w.drew.heap.size w.drew w'):=by
  have:=zeB l m hE w.drew A B K L c1 c2 M o q (fun j hj=>by obtain⟨t,p,a,b⟩:=r j hj;exact⟨t,p,a,b.next (yH _ _).drew⟩) (fun j hj=>by obtain⟨t,p,a,b⟩:=s j hj;exact⟨t,p,a,b.next (yH _ _).drew⟩);rw[show decide (ct (.arr l)=ct (.arr m))=decide (l.toL.map ct=m.toL.map ct) by rw[Bool.eq_iff_iff,decide_eq_true_eq,decide_eq_true_eq];exact Du gl gm];exact this
 have Y:=Rq ⟨E,0,none⟩;have Z:=Rq ⟨h,0,none⟩;clear hE gl gm ll k n g d G i r s o q;generalize l.toL.length=S at *;generalize m.toL.length=T at *
 cases N with
 | true=>
  have J:Hid (decide (ct (.arr l)=ct (.arr m))=true):=yj (f rfl);clear f z;go_in;go_wp2;go_ret;exact⟨by rw[uh J];rfl,yH _ _⟩
 | false=>
  clear f;generalize decide (ct (.arr l)=ct (.arr m))=Q at *;go_in;go_wp2_with fail;go_region_law (go_simp;refine (uh z).mono ?_;rintro e w1 ⟨rfl,F⟩;have y:=zb ((yH _ w).drew.trans F);clear F z)
  all_goals
   go_wp2;go_ret;exact⟨rfl,uh y⟩
theorem zeE(k m:JM)(gk:zx (.obj k))(gm:zx (.obj m))(lk:(ct (.obj k)).length<=1000000)(hE:∀ q∈k.toL,∀ q'∈m.toL,GQ q.2 q'.2):GQ (.obj k) (.obj m):=by
 intro w P R pa J o p;obtain⟨E,C,d,-⟩:=Ro o p gk gm;unfold zO at o p;rw[zi]at o p;obtain⟨u,g,z,H,x,_,F,l,f,_,B⟩:=o;obtain⟨i,v,A,I,y,_,G,n,b,_,j⟩:=p;injection x with x e1';injection y with y e2';subst x;subst e1';subst y;subst e2';have K:w.cell? ⟨u,0,none⟩=some (.map (some g)):=yF l 0;have L:w.cell? ⟨i,0,none⟩=some (.map (some v)):=yF n 0;have s:Hid (Calls prog 247 #[.map (some g),.map (some v),.func (Fn.func 221) #[] #[]] w.drew fun e w'=>e= .returned (.bool (decide (ct (.obj k)=ct (.obj m))))/\Below w.drew.heap.size w.drew w'):=
  zeC k m gk gm lk hE w.drew g v z A H I f.drew b.drew (Zu.keep (w:=w) (w':=w.drew) (fun _ _=>rfl) (fun _ h=>h) _ _ B) (Zu.keep (w:=w) (w':=w.drew) (fun _ _=>rfl) (fun _ h=>h) _ _ j)
 have M:=Rr ⟨u,0,none⟩;have N:=Rr ⟨i,0,none⟩;have O:∀ w:Wo,(Instr.typeAssert (.iface 225 (.pointer (some ⟨u,0,none⟩))) 66 195 true).run prog w= .ok (.tuple #[.pointer none,.bool false]) w:=fun w=>Rs (a:=.obj k) (fun _ e=>by cases e) _ w;clear hE gk gm lk l n f b B j
 cases E with
 | true=>
  have D:Hid (decide (ct (.obj k)=ct (.obj m))=true):=yj (d rfl);clear d s;go_in;go_wp2;go_ret;exact⟨by rw[uh D];rfl,yH _ _⟩
 | false=>
  clear d;generalize decide (ct (.obj k)=ct (.obj m))=Q at *;go_in;go_wp2_with fail;go_region_law (go_simp;refine (uh s).mono ?_;rintro e S ⟨rfl,g⟩;have r:=zb ((yH _ w).drew.trans g);clear g s)
  all_goals
   go_wp2;go_ret;exact⟨rfl,uh r⟩
theorem zeF(a b:JV)(ga:zx a)(gb:zx b)(h1:∀ l m,a= .arr l->b≠.arr m)(h2:∀ l m,a= .obj l->b≠.obj m):GQ a b:=by
 intro w C D pa p i n;obtain⟨A,z,d,g⟩:=Ro i n ga gb;have j:C=qa a:=by obtain⟨q,e⟩:=Gr i;injection e
 have k:D=qa b:=by obtain⟨q,e⟩:=Gr n;injection e
 cases A with
 | true=>
  have o:Hid (decide (ct a=ct b)=true):=yj (d rfl);clear d g i n j k h1 h2 ga gb;go_in;go_wp2;go_ret;exact⟨by rw[uh o];rfl,yH _ _⟩
 | false=>
  have o:Hid (decide (ct a=ct b)=false):=yk fun e=>by
   rcases zdR ga.ok gb.ok e with h |⟨l,m,f,v⟩ |⟨l,m,f,v⟩
   ·rw[g rfl]at h;cases h
   ·exact h1 l m f v
   ·exact h2 l m f v
  by_cases s:∃ l,a= .arr l
  ·obtain⟨l,rfl⟩:=s;have r:∀ w:Wo,(Instr.typeAssert (.iface (qa b) p) 66 195 true).run prog w= .ok (.tuple #[.pointer none,.bool false]) w:=fun w=>Rs (a:=b) (fun m e=>h1 l m rfl e) p w;unfold zO at i;rw[zi]at i;obtain⟨u,H,E,f,-⟩:=i;injection f with _ f;subst f;have x:=Rq ⟨u,0,none⟩;rw[← k]at r;simp only[qa]at j;subst j;clear d g n h1 h2 ga gb k;go_in;go_wp2_with fail;go_quiet (fail);go_wp2;go_ret;exact⟨by rw[uh o];rfl,J8 w _⟩
  ·have x:∀ w:Wo,(Instr.typeAssert (.iface (qa a) pa) 66 195 true).run prog w= .ok (.tuple #[.pointer none,.bool false]) w:=fun w=>Rs (a:=a) (fun l e=>s ⟨l,e⟩) pa w;by_cases y:∃ l,a= .obj l
   ·obtain⟨l,rfl⟩:=y;have B:∀ w:Wo,(Instr.typeAssert (.iface (qa b) p) 66 225 true).run prog w= .ok (.tuple #[.pointer none,.bool false]) w:=fun w=>BU (a:=b) (fun m e=>h2 l m rfl e) p w;unfold zO at i;rw[zi]at i;obtain⟨u,F,G,E,f,-⟩:=i;injection f with _ f;subst f;have r:=Rr ⟨u,0,none⟩;rw[← k]at B;rw[← j]at x;simp only[qa]at j;subst j;clear d g n h1 h2 ga gb s k;go_in;go_wp2_with fail;go_quiet (fail);go_wp2;go_ret;exact⟨by rw[uh o];rfl,J8 w _⟩
   ·have r:∀ w:Wo,(Instr.typeAssert (.iface (qa a) pa) 66 225 true).run prog w= .ok (.tuple #[.pointer none,.bool false]) w:=fun w=>BU (a:=a) (fun l e=>y ⟨l,e⟩) pa w;rw[← j]at x r;clear d g i n h1 h2 ga gb s y j k;go_in;go_wp2;go_ret;exact⟨by rw[uh o];rfl,yH _ _⟩
theorem zeG(a b:JV)(ga:zx a)(gb:zx b)(la:(ct a).length<=1000000)(lb:(ct b).length<=1000000):GQ a b:=by
 induction hn:zL a using Nat.strongRecOn generalizing a b with
 | _ n ih=>
  by_cases d:∃ l m,a= .arr l/\b= .arr m
  ·obtain⟨l,m,rfl,rfl⟩:=d;refine zeD l m ga gb la fun u hu u' hu'=>ih (zL u) ?_ u u' ((Yn l).1 ga u hu) ((Yn m).1 gb u' hu') ?_ ?_ rfl
   ·have:=Ku hu;rw[← hn,zL,WC];omega
   ·have:=Dw hu;omega
   ·have:=Dw hu';omega
  ·by_cases f:∃ l m,a= .obj l/\b= .obj m
   ·obtain⟨l,m,rfl,rfl⟩:=f;refine zeE l m ga gb la fun q hq q' hq'=>ih (zL q.2) ?_ q.2 q'.2 (((QU l).1 ga).2 q hq).2 (((QU m).1 gb).2 q' hq').2 ?_ ?_ rfl
    ·have:=Ku (yO.2 ⟨q,hq,rfl⟩:q.2∈l.toL.map (·.2));rw[← hn,zL,VW];omega
    ·have:=Rp hq;omega
    ·have:=Rp hq';omega
   ·exact zeF a b ga gb (fun l m e1 e2=>d ⟨l,m,e1,e2⟩) (fun l m e1 e2=>f ⟨l,m,e1,e2⟩)
theorem BV{a b:List (List UInt8)}:a.map zz=b.map zz↔a=b:=by
 constructor
 ·intro h;have:=congrArg (List.map fun s:Bs=>s.data.toList) h;rw[List.map_map,List.map_map]at this;have e:((fun s:Bs=>s.data.toList)∘zz)=id:=by funext t;simp[zz]
  rwa [e,List.map_id,List.map_id]at this
 ·intro h;rw[h]
def Jy(v:JV)(o:qd):Nat⊕JV:=match zM v o.src with
 | none=>.inl 3
 | some m=>if o.src=o.path then .inr v else if o.src.isPrefixOf o.path then .inl 6 else match qz v o.src with
  | none=>.inl 3
  | some r=>ZM 3 (qc r o.path m)
theorem zeH{v:JV}{o:qd}(h:zM v o.src=none):Jy v o= .inl 3:=by unfold Jy;rw[h]
theorem zeI{v m:JV}{o:qd}(h:zM v o.src=some m)(e:o.src=o.path):Jy v o= .inr v:=by unfold Jy;rw[h];simp only;rw[yg e]
theorem zeJ{v m:JV}{o:qd}(h:zM v o.src=some m)(e:¬ o.src=o.path)(hp:o.src.isPrefixOf o.path=true):Jy v o= .inl 6:=by unfold Jy;rw[h];simp only;rw[yf e,yg hp]
theorem BW{v m:JV}{o:qd}(h:zM v o.src=some m)(e:¬ o.src=o.path)(hp:¬ o.src.isPrefixOf o.path=true)(hd:qz v o.src=none):Jy v o= .inl 3:=by unfold Jy;rw[h];simp only;rw[yf e,yf hp,hd]
theorem BZ{v m r:JV}{o:qd}(h:zM v o.src=some m)(e:¬ o.src=o.path)(hp:¬ o.src.isPrefixOf o.path=true)(hd:qz v o.src=some r):Jy v o=ZM 3 (qc r o.path m):=by unfold Jy;rw[h];simp only;rw[yf e,yf hp,hd]
theorem Ca{a b:List (List UInt8)}:a.isPrefixOf b=true↔a=b.take a.length:=by
 rw[List.isPrefixOf_iff_prefix,List.prefix_iff_eq_take]
theorem SS.takeT{w:Wo}{a:Option Addr}{g off:Nat}{ts:List (List UInt8)}(h:SS w a g off (ts.map zz))(k:Nat)(hk:k<=ts.length):SS w a g off ((ts.take k).map zz):=by
 refine⟨fun h0=>h.ad ?_,fun j hj=>?_⟩
 ·rw[yl,ym]at h0;rw[yl];omega
 ·rw[yl,ym]at hj;rw[h.cell j (by rw[yl];omega),Xz (by omega),Xz (by rw[ym];omega)];congr 3;simp only[List.getD,List.getElem?_take];rw[yg (by omega)]
theorem zeK(v:JV)(o:qd)(w:Wo)(ty:TypeId)(p:Value){og:Nat}{b:Bool}{pa fa:Option Addr}{pg pc fg fc:Nat}{vt:TypeId}{vp:Value}(hw:Qh w)(hv:zx v)(hl:(ct v).length<=200000)(hr:zO w v (.iface ty p))(ho:YC w og o b pa fa pg pc fg fc vt vp)(hsl:o.src.length<=1048577):
  Calls prog 184 #[.iface ty p,.pointer (some ⟨og,0,none⟩)] w (Zg w (Jy v o)):=by
 have R:=ho.path;have Q:=ho.src;have HV:=zb (PG v hv o.src fa fg 0 fc w ty p hr Q.row hsl Q.tok);have V:Hid (∀ F,Bw w F->zO F v (.iface ty p)):=fun F hx=>hr.next hx;have M:Hid (∀ (X:Wo) (e:Bool),decide (o.src=o.path)=e->Bw w X->Calls prog 220 #[.slice fa o.src.length fc,.slice pa o.path.length pc] X (Rb (.bool e) X)):=by
  intro X e P hx;have:=SB (o.src.map zz) (o.path.map zz) fa pa fg 0 fc pg 0 pc X (Q.row.below hx) (R.row.below hx) (by rw[yl];omega);rw[yl,yl]at this;refine this.mono ?_;rintro e' w' ⟨rfl,n,rfl⟩;exact⟨by rw[← P];congr 2;simp only[BV],J8 X n⟩
 have E:Hid (∀ (X:Wo) (e:Bool),o.src.length<o.path.length->o.src.isPrefixOf o.path=e->Bw w X->Calls prog 220 #[.slice fa o.src.length fc,.slice pa o.src.length pc] X (Rb (.bool e) X)):=by
  intro X e hlt P hx;have:=SB (o.src.map zz) ((o.path.take o.src.length).map zz) fa pa fg 0 fc pg 0 pc X (Q.row.below hx) ((R.row.below hx).takeT _ (by omega)) (by rw[yl];omega);rw[yl,yl,ym,Nat.min_eq_left (by omega)]at this;refine this.mono ?_;rintro e' w' ⟨rfl,n,rfl⟩;refine⟨?_,J8 X n⟩;congr 2;rw[← P,Bool.eq_iff_iff,decide_eq_true_eq,BV,Ca]
 have D:Hid (∀ X,Bw w X->Calls prog 216 #[.iface ty p,.slice fa o.src.length fc] X (Zg X (ZM 3 (qz v o.src)))):=fun X hx=>
  BP v o.src fa fg 0 fc X ty p hv (by omega) (hr.next hx) (Q.row.below hx) Q.cap1 Q.cap2 Q.len Q.tok
 have j:Hid (∀ (X:Wo) (r m:JV) t1 p1 t2 p2,Bw w X->qz v o.src=some r->zO X r (.iface t1 p1)->zO X m (.iface t2 p2)->Calls prog 215 #[.iface t1 p1,.slice pa o.path.length pc,.iface t2 p2] X (Zg X (ZM 3 (qc r o.path m)))):=fun X r m t1 p1 t2 p2 hx s a i=>
  Rn r m o.path pa pg 0 pc X t1 t2 p1 p2 (hw.up hx) (UZ hv s) (by have:=Ni hv s;omega) a i (R.row.below hx) R.cap1 R.cap2 R.len R.tok
 have B:Hid (∀ F,Bw w F->F.cell? ⟨og,7,none⟩=some (.slice pa o.path.length pc)/\F.cell? ⟨og,8,none⟩=some (.slice fa o.src.length fc)):=fun F hx=>⟨(ho.next hx).c7,(ho.next hx).c8⟩;have c8:=ho.c8;have hcap:=R.cap1;have hcap2:=R.cap2;clear hw hv hr ho R Q;generalize hnp:o.path.length=n at *;generalize hns:o.src.length=k at *;have I:=zb hnp;have J:=zb hns;clear hnp hns;go_in;go_wp2_with fail;refine (uh HV).mono ?_;rintro e F ⟨Z,⟨c,T,a,rfl,i⟩ |⟨m,t',q,a,rfl,i⟩⟩
 ·have hg:zM v o.src=none:=by
   cases hq:zM v o.src with
   | none=>rfl
   | some y=>rw[hq]at a;cases a
  rw[hg]at a;have hc:c=3:=by injection a with a;exact a.symm
  subst hc;have HE:Hid (Zg w (Jy v o) (.returned (.tuple #[.nilIface,T])) F):=⟨Z,.inl ⟨3,T,zeH hg,rfl,i⟩⟩;obtain⟨fb,rfl,-⟩:=i;clear HV M E D j B V Z a hg;go_wp2;go_ret2;exact uh HE
 ·have hg:=Jq a;have U:=zb hg;have HM:=zb i;have HB:=zb Z;have bd:Bw w F.drew:=Z.drew;obtain⟨c7,A⟩:=uh B F Z;clear HV Z a i hg c8;by_cases P:o.src=o.path
  ·have HS:=zb (uh M F.drew true (yj P) bd);have W:=zb (zeI (uh U) P);clear M E D j B bd P HM U;go_wp2_with fail;go_region_law (go_simp;refine (uh HS).mono ?_;rintro e S ⟨rfl,b2⟩;have f:=zb (zh (uh HB).drew b2);clear b2 HS)
   all_goals
    go_wp2;go_ret2;exact⟨uh f,.inr ⟨v,_,_,uh W,rfl,uh V _ (uh f)⟩⟩
  ·have HS:=zb (uh M F.drew false (yk P) bd);have H:=zb P;clear M bd P;go_wp2_with fail;go_region_law (go_simp;refine (uh HS).mono ?_;rintro e S ⟨rfl,b2⟩;have f:=zb (zh (uh HB).drew b2);have L:=zb ((zO.next (w':=F.drew) (uh HM) (yH _ _).drew).next b2);clear b2 HS HM c7 A)
   all_goals
    obtain⟨c7,A⟩:=uh B _ (uh f);by_cases hlt:k<n
    ·have hltI:(k:Int)<(n:Int):=by omega
     have hkc:k<=pc:=by omega
     have hkI:(k:Int)<=(pc:Int):=by omega
     cases hpx:o.src.isPrefixOf o.path with
     | true=>
      have N:=zb (uh E S.drew true (by have:=uh I;have:=uh J;omega) hpx (uh f).drew);have W:=zb (zeJ (uh U) (uh H) hpx);have SD:=zb (uh B S.drew (uh f).drew);clear E D j V L I J hpx;go_wp2_with fail;go_region_held3 (fun w'=>w'.cell? ⟨og,7,none⟩=some (.slice pa n pc)/\w'.cell? ⟨og,8,none⟩=some (.slice fa k fc)) (first | exact uh S3 | exact uh SD) (first |(go_simp;refine (uh N).mono ?_;rintro e w3 ⟨rfl,G⟩;have d:=zb (zh (uh f).drew G);have S3:=zb (uh B w3 (uh d));clear G N))
      all_goals
       go_wp2;go_ret2;exact⟨zh (uh d) (zu _ _),.inl ⟨6,_,uh W,rfl,_,rfl,yG _ _⟩⟩
     | false=>
      have N:=zb (uh E S.drew false (by have:=uh I;have:=uh J;omega) hpx (uh f).drew);have z:Hid (¬ o.src.isPrefixOf o.path=true):=by rw[hpx];exact fun h=>by cases h
      have SD:=zb (uh B S.drew (uh f).drew);clear E I J hpx;go_wp2_with fail;go_region_held3 (fun w'=>w'.cell? ⟨og,7,none⟩=some (.slice pa n pc)/\w'.cell? ⟨og,8,none⟩=some (.slice fa k fc)) (first | exact uh S3 | exact uh SD) (first |(go_simp;refine (uh N).mono ?_;rintro e w3 ⟨rfl,G⟩;have d:=zb (zh (uh f).drew G);have C:=zb ((zO.next (w':=S.drew) (uh L) (yH _ _).drew).next G);have S3:=zb (uh B w3 (uh d));clear G N L c7 A))
      all_goals
       have G:=uh d;have g:=zb (uh D _ G);obtain⟨-,A⟩:=uh B _ G;clear D G;go_wp2_with fail;refine (uh g).mono ?_;rintro e Y ⟨O,⟨c,T,a,rfl,i⟩ |⟨r,t4,q4,a,rfl,i⟩⟩
       ·have s:qz v o.src=none:=by
         cases hq:qz v o.src with
         | none=>rfl
         | some y=>rw[hq]at a;cases a
        rw[s]at a;have hc:c=3:=by injection a with a;exact a.symm
        subst hc;have HE:Hid (Zg w (Jy v o) (.returned (.tuple #[.nilIface,T])) Y):=⟨zh (uh d) O,.inl ⟨3,T,BW (uh U) (uh H) (uh z) s,rfl,i⟩⟩;obtain⟨fb,rfl,-⟩:=i;clear j B V g O a s d C;go_wp2;go_ret2;exact uh HE
       ·have s:=Jq a;have l:=zh (uh d) O;have u:=zb (uh j Y r m t4 q4 t' q l s i ((uh C).next O));have W:=zb (BZ (uh U) (uh H) (uh z) s);obtain⟨c7,-⟩:=uh B Y l;have K:=zb l;clear j B V g O a i s l d C A;go_wp2_with fail;refine (uh u).mono ?_;rintro e w5 hP;obtain⟨x,y,rfl,hQ⟩:=Zg.two hP;have HQ:=zb (Zg.from (uh K) hQ);clear hP hQ u K;go_wp2;go_ret2;rw[uh W];exact uh HQ
    ·have hnltI:¬ (k:Int)<(n:Int):=by omega
     have z:Hid (¬ o.src.isPrefixOf o.path=true):=fun h=>uh H (by
      have e:=Ca.1 h;have a:=uh I;have i:=uh J
      rwa [yq (by omega)]at e)
     clear E I J;go_wp2_with fail;go_quiet (fail);have d:Hid (Bw w (S.drewN nq)):=GG (uh f) nq;have C:Hid (zO (S.drewN nq) m (.iface t' q)):=zO.next (uh L) (J8 S nq);clear L f c7 A;have G:=uh d;have g:=zb (uh D _ G);obtain⟨-,A⟩:=uh B _ G;clear D G;go_wp2_with fail;refine (uh g).mono ?_;rintro e Y ⟨O,⟨c,T,a,rfl,i⟩ |⟨r,t4,q4,a,rfl,i⟩⟩
     ·have s:qz v o.src=none:=by
       cases hq:qz v o.src with
       | none=>rfl
       | some y=>rw[hq]at a;cases a
      rw[s]at a;have hc:c=3:=by injection a with a;exact a.symm
      subst hc;have HE:Hid (Zg w (Jy v o) (.returned (.tuple #[.nilIface,T])) Y):=⟨zh (uh d) O,.inl ⟨3,T,BW (uh U) (uh H) (uh z) s,rfl,i⟩⟩;obtain⟨fb,rfl,-⟩:=i;clear j B V g O a s d C;go_wp2;go_ret2;exact uh HE
     ·have s:=Jq a;have l:=zh (uh d) O;have u:=zb (uh j Y r m t4 q4 t' q l s i ((uh C).next O));have W:=zb (BZ (uh U) (uh H) (uh z) s);obtain⟨c7,-⟩:=uh B Y l;have K:=zb l;clear j B V g O a i s l d C A;go_wp2_with fail;refine (uh u).mono ?_;rintro e w5 hP;obtain⟨x,y,rfl,hQ⟩:=Zg.two hP;have HQ:=zb (Zg.from (uh K) hQ);clear hP hQ u K;go_wp2;go_ret2;rw[uh W];exact uh HQ
theorem zeL:FT:=fun v o w ty p og b pa fa pg pc fg fc vt vp hk hw hv hl hr ho hsl _=>by
 have e:ZK v o=Jy v o:=by
  unfold ZK Jy;rw[yf (by omega),yf (by omega),yf (by omega),yg hk];rfl
 rw[e];exact zeK v o w ty p hw hv hl hr ho hsl
end Go.Proofs.YtekpghcckdjnhaaGreatDoor
