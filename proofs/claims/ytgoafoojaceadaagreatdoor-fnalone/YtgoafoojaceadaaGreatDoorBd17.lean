import Derived.Test.YtgoafoojaceadaaGreatDoorBd15
import Derived.Test.YtgoafoojaceadaaGreatDoorBd16
import Derived.Test.YtgoafoojaceadaaGreatDoorBd11
set_option maxRecDepth 100000
set_option maxHeartbeats 8000000
open Go renaming Calls->δ,Value->ω
open Go.ByteArray renaming toList_eq->Ζ
open Go.Ending renaming returned->ε
open Go.IntKind renaming i64->κ,wrap_i64->Ω
open Go.Obj renaming cells->χ
open Go.RowKit.Below renaming heap_setCell->Β
open Go.Value renaming agg->γ,bool->θ,iface->φ,int->ι,pointer->π,slice->Ρ,slice->ς,string->σ,tuple->τ
open _root_.Array renaming getD_eq_getD_getElem?->Ε
open _root_.Bool renaming and_eq_true->Α,false->ζ,not_eq_true->Φ,true->ξ
open _root_.List renaming concat_eq_append->Ι,eq_nil_or_concat->Θ,flatMap_cons->Ο,getD_eq_getElem?_getD->Μ,getElem_cons_zero->Η,getElem_of_mem->Δ,mem_append->Κ,mem_cons->Υ,mem_flatMap->Χ,mem_singleton->Γ,pairwise_iff_getElem->Ξ
open _root_.Option renaming isSome_iff_exists->Τ,isSome_some->Ν,none->ν,some->η
namespace Go.Proofs.YtgoafoojaceadaaGreatDoor
open Go.RowKit Go.Proofs.Tryz
variable{t:TypeId}{w w' wr w2 w0:Wo}{vs r:List zj}{B g b rb sb n i B':Nat}{v sv o:ω}{bl:List Nat}{m u x:zj}{s:Bs}{ms ops:List zk}{q:List UInt8}{cs tmps ds:Array ω}{ss tch:List Bs}{ts:List (List UInt8)}{z base:Int}{a0:Act}{fn:Func}{f:Nat×Nat}{Q:Exit->Act->Wo->Prop}{D:List Tmp}{X:Nat->Option ω}
def zeo(rb sc:Nat)(s:Bs)(tb kt:Bool)(L:Nat)(o:Option JV)(e:Ending)(w':Wo):Prop:=
 o.elim (e=JZ) fun v=>∃ (t:TypeId) (p:ω),e=ε (τ #[])/\Qa sc 65 (φ t p) w'/\zr rb s s.size (tb || zY v) (kt || zF v) w' /\
  (zY v=ζ->zF v=ζ->zi w' (fun k=>L<=k/\k<w'.heap.size) v (φ t p))
theorem zep(rb pc sc:Nat)(s:Bs)(x:ω)(tb kt:Bool)(w:Wo)(h:zr rb s 0 tb kt w)(hp:Qa pc 136 rb w)(hx:Qa sc 65 x w)(h1:pc≠rb)(h2:sc≠rb)(h3:pc≠sc)(hs:s.size<=100000)(B:Nat)(hT:Qg B w)(hE:Ji B w)(hB:B<=rb):
  δ prog 78 #[pc,sc] w fun e w'=>JK rb sc w w'/\zeo rb sc s tb kt w (Qv s) e w':=by
 have i:=zb (zd3 rb s hs B hB (s.size - 0) 0 tb kt w (ye _) h om hT hE);have M:=hx.lt;have I:=h.lt;have R:=hp.cell;have z:=zb hp;have A:=zb hx;have o:Hid (Qv s=(val s (sk s 0)).bind fun q=>if sk s q.2=s.size then η q.1 else ν):=rfl;go_in
 cases hv:val s (sk s 0)with
 | none=>
  rw[hv]at i;have d:Hid (Qv s=ν):=by show _=_;rw[uh o,hv];rfl
  go_wp2_with fail;go_call i as e w1 ⟨k1,rfl⟩;exact⟨rfl,k1.two sc,by rw[uh d];rfl⟩
 | some q=>
  obtain⟨v,j⟩:=q;rw[hv]at i;have d:Hid (Qv s=if sk s j=s.size then η v else ν):=by show _=_;rw[uh o,hv];rfl
  go_wp2_with fail;go_call i as e w1 ⟨k1,t,p,rfl,r1,rep1⟩;have n:=A.kb k1 h2;have T:=n.cell;have U:=n.frozen;have P:=n.set (φ t p);have N:=(z.kb k1 h1).other (p:=sc) h3 (φ t p);have H:=N.cell;have O:=r1.other (p:=sc) (fun e=>h2 e.symm) (φ t p);have J:=k1.size;have L:(w1.setCell sc (φ t p)).heap.size=w1.heap.size:=by simp[World.setCell]
  have F:=zb P;have u:=zb O;have m:=zb rep1;have Q:=zb k1;have r:=zb ((k1.two sc).set 0 (φ t p));by_cases g:sk s j=s.size
  .have l:=zb (zgC rb s (sk s j) _ _ _ u g);rw[yg g]at d;have y:=zb g;go_wp2_with fail;go_call l as e w2 ⟨rfl,r3,f⟩;have G:=zb (F.kb f h2);have E:=zb r3;have C:=zb (r.trans (f.two sc));have D:Hid (zY v=ζ->zF v=ζ->zi w2 (fun k=>w.heap.size<=k/\k<w2.heap.size) v (φ t p)):=fun a b=>by
    have K:=f.size;refine zi.keep (w:=w1) (S:=fun k=>w.heap.size<=k/\k<w1.heap.size) (fun k hk=>?_) (fun k hk=>⟨hk.1,by have:=hk.2;omega⟩) v _ (uh m a b);exact (f.block k om om).trans (Β w1 sc (φ t p) k (by show k≠sc;omega))
   go_wp2;go_end0;refine⟨C,?_⟩;rw[uh d];exact⟨t,p,rfl,G,by have:=uh E;rwa [uh y]at this,D⟩
  .have l:=zb (zgD rb s (sk s j) _ _ _ u g);rw[yf g]at d;go_wp2_with fail;go_call l as e w2 hp2;obtain⟨rfl,f⟩:=hp2;exact⟨rfl,r.trans (f.two sc),by rw[uh d];rfl⟩
def BK(s:Bs)(w:Wo)(o:Option JV)(e:Ending)(w':Wo):Prop:=
 Bw w w'/\w.heap.size+3<=w'.heap.size/\o.elim (e=ε (θ ζ)) fun v=>∃ (t:TypeId) (p:ω),e=ε (θ ξ)/\Qa (w.heap.size+1+1) 65 (φ t p) w'/\Qa (w.heap.size+1) 136 (π (η ⟨w.heap.size,0,ν⟩)) w' /\
  zr w.heap.size s s.size (zY v) (zF v) w'/\(zY v=ζ->zF v=ζ->zi w' (fun k=>w.heap.size+4<=k/\k<w'.heap.size) v (φ t p))
theorem zeq(s:Bs)(w:Wo)(hs:s.size<=100000)(hT:Qg w w)(hE:Ji w w):
  δ prog 77 #[.func (.func 78) #[] #[π (η ⟨w.heap.size+1,0,ν⟩),π (η ⟨w.heap.size+1+1,0,ν⟩)]] (Ql s w) (BK s w (Qv s)):=by
 have o:=zd6 s w;have h:=zea s w (χ #[θ ζ] 4);have j:=zd8 s w (χ #[θ ζ] 4);have c:=zep w (w.heap.size+1) (w.heap.size+1+1) s .nilIface ζ ζ ((Ql s w).alloc (χ #[θ ζ] 4)) (zd7 s w _) j (zd9 s w _) om om om hs w (hT.next h (ye _)) (hE.next h (ye _)) (ye _);have g:((Ql s w).alloc (χ #[θ ζ] 4)).heap.size=w.heap.size+4:=sm;unfold BK
 cases hd:Qv s with
 | none=>
  rw[hd]at c;refine (zdT 78 _ (Ql s w) (fun d=>Below w w d/\w.heap.size+4<=d.heap.size) Bu (c.mono ?_)).mono ?_
  .rintro e d ⟨k,rfl⟩;have:=k.size;exact⟨rfl,(k.block (Ql s w).heap.size om om om).trans (Bb (Ql s w)),h.trans (k.below om om om),om⟩
  .rintro e u ⟨rfl,d,⟨b,l⟩,rfl⟩;have m:Below w w (d.alloc (χ #[] 204)):=b.alloc om _;refine⟨m.setCell (p:=(Ql s w).heap.size) (by show _<=(Ql s w).heap.size;omega) _,?_,rfl⟩;simp[World.setCell];omega
 | some v=>
  rw[hd]at c;refine (zdS 78 _ (Ql s w) (fun d=>Below w w d/\w.heap.size+4<=d.heap.size/\∃ (t:TypeId) (p:ω),Qa (w.heap.size+1+1) 65 (φ t p) d/\Qa (w.heap.size+1) 136 (π (η ⟨w,0,ν⟩)) d/\zr w s s.size (zY v) (zF v) d/\(zY v=ζ->zF v=ζ->zi d (fun k=>w.heap.size+4<=k/\k<d.heap.size) v (φ t p))) Bu (c.mono ?_)).mono ?_
  .rintro e d ⟨k,t,p,rfl,x,r,f⟩;have i:=k.size;rw[g]at f;exact⟨rfl,(k.block (Ql s w).heap.size om om om).trans (Bb (Ql s w)),h.trans (k.below om om om),om,t,p,x,(k.block (w.heap.size+1) om om om).trans j,r,f⟩
  .rintro e u ⟨rfl,d,⟨b,l,t,p,x,q,r,f⟩,rfl⟩;have n:(d.setCell ((Ql s w).heap.size) (θ ξ)).heap.size=d.heap.size:=by simp[World.setCell]
   refine⟨b.setCell (p:=(Ql s w).heap.size) (by show _<=(Ql s w).heap.size;omega) _,om,t,p,rfl,x.other (p:=(Ql s w).heap.size) (by show _≠(Ql s w).heap.size;omega) _,q.other (p:=(Ql s w).heap.size) (by show _≠(Ql s w).heap.size;omega) _,r.other (p:=(Ql s w).heap.size) (by show _≠(Ql s w).heap.size;omega) _,fun a c=>?_⟩;refine zi.keep (w:=d) (S:=fun k=>w.heap.size+4<=k/\k<d.heap.size) (fun k i=>?_) (fun k i=>⟨i.1,by have:=i.2;omega⟩) v _ (f a c);exact Β d ((Ql s w).heap.size) (θ ξ) k (by show k≠(Ql s w).heap.size;omega)
open Go.Sort
def J9(t:List UInt8):ω:=match Qo t with
 | some i=>.tuple #[ι κ (i:Int),θ ξ]
 | none=>.tuple #[ι κ 0,θ ζ]
theorem Ng(s:Bs)(w:Wo)(hs:s.size<=1048576):
  δ prog 135 #[s] w fun e w'=>e=ε (J9 s.data.toList)/\w=w':=by
 have g:¬ XE s.data.toList=ξ->J9 s.data.toList= .tuple #[ι κ 0,θ ζ]:=fun h=>by unfold J9 Qo;rw[yf h]
 have o:=Zo s;have l:=zb (zb7 s 6 w hs dc);obtain⟨z,b,m⟩:=zb8 6 s.data.toList;have d:¬ (s.data.toList.getD 0 0=(48:UInt8)/\1<s.size)->J9 s.data.toList=Vv 6 s.data.toList:=fun k=>by
  by_cases f:Ky 6 s.data.toList
  .have p:=VY.2 ⟨f.1,f.2.1,fun ⟨a,b⟩=>k ⟨UInt8.toNat_inj.1 a,om⟩,f.2.2⟩;unfold J9 Qo Vv;rw[yg p,yg f]
  .rw[g (fun h=>f ⟨(VY.1 h).1,(VY.1 h).2.1,(VY.1 h).2.2.2⟩)];unfold Vv;rw[yf f]
 rw[m]at l d;by_cases n:1<s.size
 .have u:0<s.size:=om;have j:(s.data.toList.getD 0 0)=s[0]:=by rw[List.getD,yy om];rfl
  have v:(0:Int)<(s.size:Int):=om;have r:(1:Int)<(s.size:Int):=om;by_cases k:s[0].toNat=48
  .have i:=zb (g (fun h=>(VY.1 h).2.2.1 ⟨by rw[j];exact k,om⟩));have q:((s[0].toNat:Int) ==48)=ξ:=by rw[yD];omega
   go_in;go_wp2;go_ret2;exact⟨by rw[uh i];rfl,rfl⟩
  .have i:=zb (d (fun h=>k (by rw[← j,h.1];rfl)));have q:((s[0].toNat:Int) ==48)=ζ:=by rw[yd];omega
   go_in;go_wp2_with fail;go_call l as e w2 ⟨rfl,rfl⟩;go_wp2;go_ret2;exact⟨by rw[uh i];rfl,rfl⟩
 .have i:=zb (d (fun h=>n h.2));have r:¬ (1:Int)<(s.size:Int):=om;go_in;go_wp2_with fail;go_call l as e w2 ⟨rfl,rfl⟩;go_wp2;go_ret2;exact⟨by rw[uh i];rfl,rfl⟩
def zer(w:Wo)(o:Sum Nat JV)(e:Ending)(w':Wo):Prop:=
 Bw w w'/\match o with
 | .inl c=>e=ε (τ #[.nilIface,ι κ c])
 | .inr v=>∃ (t:TypeId) (p:ω),e=ε (τ #[φ t p,ι κ 0])/\zi w' (fun k=>w.heap.size<=k/\k<w'.heap.size) v (φ t p)
theorem SO(s:Bs)(w:Wo)(hT:Qg w w)(hE:Ji w w)(hP:JJ w w)(hz:s.size<=9223372036854775807):
  δ prog 35 #[s] w (zer w (Zn s)):=by
 have C:∀ (fn:Fn) (first cap:Array ω) (w:Wo),(Instr.makeFunc fn first cap).run prog w= .ok (.func fn first cap) w:=fun _ _ _ _=>rfl;by_cases o:20000<s.size
 .have tl:((20000:Int)<(s.size:Int))=True:=eq_true om;have d:Hid (Zn s= .inl 1):=zb (by rw[Zn,yg o]);go_in;go_wp2;go_ret2;exact⟨yI _ _,by rw[uh d];rfl⟩
 .have tl:((20000:Int)<(s.size:Int))=False:=yR om;have f:=zb (zeq s w om hT hE);have a:Hid (Zn s=match Qv s with
   | none=>.inl 2
   | some v=>if zY v then .inl 3 else if zF v then .inl 4 else if 100<zJ v∨3000<zn v then .inl 5 else .inr v):=by show _=_;exact (show Zn s=_ from by unfold Zn;exact yf o).trans (by cases Qv s<;>rfl)
  cases hd:Qv s with
  | none=>
   rw[hd]at f a;go_in;go_wp2_with fail;go_call f as e w1 ⟨b1,hs1,rfl⟩;go_wp2;go_ret2;exact⟨b1,by rw[uh a];rfl⟩
  | some v=>
   obtain⟨j,z,B⟩:=FP hd;have A:=(YP v).1;have r:=zb hP;have F:s.size<=20000:=om;rw[hd]at f a;go_in;go_wp2_with fail;go_call f as e w1 ⟨b1,hs1,t,p,rfl,v1,p1,r1,rep1⟩;have J:=v1.cell;have I:=p1.cell;have l:=r1.big;have ct:=r1.twice;have x:=zb v1;have i:=zb rep1
   cases hb:zY v with
   | true=>
    rw[hb]at l;rw[hb]at a;go_wp2;go_ret2;exact⟨b1,by rw[uh a];rfl⟩
   | false=>
    rw[hb]at l a
    cases ht:zF v with
    | true=>
     rw[ht]at ct a;go_wp2;go_ret2;exact⟨b1,by rw[uh a];rfl⟩
    | false=>
     rw[ht]at ct a;have b:=zb (uh i hb ht);have q:=zb (Nf v j ht w1 _ t p b (fun k hk=>hk.2) ((r.next b1 (ye _)).more b1.size) om om om);go_wp2_with fail;go_call q as e w2 ⟨rfl,b2⟩;have g:Below w2 w2 (w2.alloc (qK (zJ v) (zn v) (Go.Proofs.YtgoafoojaceadaaGreatDoor.ct v).length)):=(yI _ _).alloc (ye _) _;have y:=((x.below b2).below g).cell;have h:=zb (zh (zh b1 b2) g);have u:Hid (zi (w2.alloc (qK (zJ v) (zn v) (Go.Proofs.YtgoafoojaceadaaGreatDoor.ct v).length)) (fun k=>w.heap.size<=k/\k<(w2.alloc (qK (zJ v) (zn v) (Go.Proofs.YtgoafoojaceadaaGreatDoor.ct v).length)).heap.size) v (φ t p)):=by
      have D:=b2.size;have E:=g.size;exact zi.keep (w:=w1) (S:=fun k=>w.heap.size+4<=k/\k<w1.heap.size) (fun k hk=>(g.block k (by have:=hk.2;omega)).trans (b2.block k hk.2)) (fun k hk=>⟨by have:=hk.1;omega,by have:=hk.2;omega⟩) v _ b
     simp only[YH];by_cases m:100<zJ v
     .have G:((100:Int)<(zJ v:Int))=True:=eq_true om;have d:Hid (Zn s= .inl 5):=by show _=_;rw[uh a];simp[m]
      go_wp2;go_ret2;exact⟨h,by rw[uh d];rfl⟩
     .have G:((100:Int)<(zJ v:Int))=False:=yR om;by_cases n:3000<zn v
      .have H:((3000:Int)<(zn v:Int))=True:=eq_true om;have d:Hid (Zn s= .inl 5):=by show _=_;rw[uh a];simp[n]
       go_wp2;go_ret2;exact⟨h,by rw[uh d];rfl⟩
      .have H:((3000:Int)<(zn v:Int))=False:=yR om;have d:Hid (Zn s= .inr v):=by show _=_;rw[uh a];simp[m,n]
       go_wp2;go_ret2;exact⟨h,by rw[uh d];exact⟨t,p,rfl,u⟩⟩
theorem zes{m:JM}{t:List UInt8}(h:(m.toL.find? fun q=>q.1 ==t)=ν):∀ q∈m.toL,q.1≠t:=fun q hq e=>by
 have:=List.find?_eq_none.1 h q hq;simp[e]at this
theorem Fp(v:JV)(htw:zF v=ζ)(t:List UInt8)(ht:t.length<=1048576)(ty:TypeId)(p:ω)(w:Wo)(S:Nat->Prop)(h:zi w S v (φ ty p)):
  δ prog 86 #[φ ty p,(ze t)] w fun e w'=>w=w'/\((∃ x,e=ε (τ #[x,θ ζ])/\zK v t=ν)∨∃ (x:ω) (u:JV),e=ε (τ #[x,θ ξ])/\zK v t=η u/\zi w S u x):=by
 have leaf:(∀ w:Wo,(Instr.typeAssert (φ ty p) 65 146 ξ).run prog w= .ok (.tuple #[π ν,θ ζ]) w)->(∀ w:Wo,(Instr.typeAssert (φ ty p) 65 209 ξ).run prog w= .ok (.tuple #[π ν,θ ζ]) w)->zK v t=ν ->
   δ prog 86 #[φ ty p,(ze t)] w fun e w'=>w=w'/\((∃ x,e=ε (τ #[x,θ ζ])/\zK v t=ν)∨∃ (x:ω) (u:JV),e=ε (τ #[x,θ ξ])/\zK v t=η u/\zi w S u x):=fun h1 h2 hc=>by
  have f:=zb hc;generalize ze t=H at *;go_in;go_wp2;go_ret2;exact⟨rfl,.inl ⟨_,rfl,f⟩⟩
 cases v with
 | nul=>rw[zi]at h;injection h with a b;subst a;subst b;exact leaf (fun _=>kr) (fun _=>kr) rfl
 | tt=>rw[zi]at h;injection h with a b;subst a;subst b;exact leaf (fun _=>kr) (fun _=>kr) rfl
 | ff=>rw[zi]at h;injection h with a b;subst a;subst b;exact leaf (fun _=>kr) (fun _=>kr) rfl
 | num l=>rw[zi]at h;obtain⟨z,h,_⟩:=h;injection h with a b;subst a;subst b;exact leaf (fun _=>kr) (fun _=>kr) rfl
 | str l=>rw[zi]at h;injection h with a b;subst a;subst b;exact leaf (fun _=>kr) (fun _=>kr) rfl
 | arr l=>
  rw[zi]at h;obtain⟨J,sv,d,h,aa,M,G,V⟩:=h;injection h with h1 h2;subst h1;subst h2;obtain⟨a,g,K,rfl,D,y⟩:=Gt G;obtain⟨hxl,n⟩:=Yo l d V;have N:w.cell? J=η (ς a d.length K):=by rw[yG M];rfl
  have t1:∀ w:Wo,(Instr.typeAssert (φ 146 J) 65 146 ξ).run prog w= .ok (.tuple #[J,θ ξ]) w:=fun _=>by kernel_rfl
  have C:=Ng (ze t) w (by rw[zL];exact ht);rw[Zb]at C
  cases hx:Qo t with
  | none=>
   have L:J9 t= .tuple #[ι κ 0,θ ζ]:=by unfold J9;rw[hx]
   rw[L]at C;have o:=zb C;have f:Hid (zK (.arr l) t=ν):=by show _=_;rw[JO,hx];rfl
   generalize ze t=H at *;go_in;go_wp2_with fail;go_call o as e w1 ⟨rfl,rfl⟩;go_wp2;go_ret2;exact⟨rfl,.inl ⟨_,rfl,f⟩⟩
  | some i=>
   have L:J9 t= .tuple #[ι κ (i:Int),θ ξ]:=by unfold J9;rw[hx]
   rw[L]at C;have o:=zb C;by_cases hl:i<d.length
   .have tl:¬ (d.length:Int)<=(i:Int):=om;have Z:=yk om;have hltI:(i:Int)<(d.length:Int):=om;have hci:=y i hl;obtain rfl:=(D om).1;have f:Hid (zK (.arr l) t=η (l.toL[i]'om)/\zi w S (l.toL[i]'om) d[i]):=⟨by rw[JO,hx];simp[show i<l.toL.length by omega],n i hl om⟩;generalize d[i]=xi at *;generalize ze t=H at *;go_in;go_wp2_with fail;go_call o as e w1 ⟨rfl,rfl⟩;go_wp2;go_ret2;exact⟨rfl,.inr ⟨_,_,rfl,(uh f).1,(uh f).2⟩⟩
   .have tl:(d.length:Int)<=(i:Int):=om;have Z:=yj om;have f:Hid (zK (.arr l) t=ν):=by show _=_;rw[JO,hx];simp;omega
    generalize ze t=H at *;go_in;go_wp2_with fail;go_call o as e w1 ⟨rfl,rfl⟩;go_wp2;go_ret2;exact⟨rfl,.inl ⟨_,rfl,f⟩⟩
 | obj m=>
  rw[zi]at h;obtain⟨I,mb,nn,d,h,af,ad,Q,F,_,W⟩:=h;injection h with h1 h2;subst h1;subst h2;obtain⟨j,n⟩:=Vi m d W;rw[zF]at htw;have O:=(FI m [] htw).1;have E:(d.map (·.1)).Nodup:=by rw[j];exact O
  have N:w.cell? I=η (.map (η mb)):=by rw[yG Q];rfl
  have t1:∀ w:Wo,(Instr.typeAssert (φ 209 I) 65 146 ξ).run prog w= .ok (.tuple #[π ν,θ ζ]) w:=fun _=>by kernel_rfl
  have t2:∀ w:Wo,(Instr.typeAssert (φ 209 I) 65 209 ξ).run prog w= .ok (.tuple #[I,θ ξ]) w:=fun _=>by kernel_rfl
  obtain⟨xv,k,B⟩:=Sr F t om;have r:=Sq t d;rw[j]at r
  cases hf:m.toL.find? fun q=>q.1 ==t with
  | none=>
   have f:Hid (zK (.obj m) t=ν):=by show _=_;rw[VZ,hf];rfl
   have P:(J8 d t).isSome=ζ:=by
    rw[r,List.contains_eq_mem,decide_eq_false_iff_not,Jl];intro hm;obtain⟨q,R,e⟩:=yP.1 hm;exact zes hf q R e
   rw[P]at k;generalize ze t=H at *;go_in;go_wp2;go_ret2;exact⟨rfl,.inl ⟨_,rfl,f⟩⟩
  | some q=>
   have R:=List.mem_of_find?_eq_some hf;have T:q.1=t:=by have:=List.find?_some hf;simpa using this
   obtain⟨x0,X,U⟩:=n q.1 q.2 R;have A:=UE d E X;rw[T]at A;have s:(J8 d t).isSome=ξ:=by rw[A];rfl
   have Y:x0=xv:=by have:=B s;rw[A]at this;injection this
   subst Y;rw[s]at k;have f:Hid (zK (.obj m) t=η q.2/\zi w S q.2 x0):=⟨by rw[VZ,hf];rfl,U⟩;generalize ze t=H at *;go_in;go_wp2;go_ret2;exact⟨rfl,.inr ⟨_,_,rfl,(uh f).1,(uh f).2⟩⟩
theorem Qg.more(h:Qg B w)(hB:B<=B'):Qg B' w:=by
 obtain⟨d,a,b⟩:=h;exact⟨d,yQ a hB,b⟩
theorem Ji.more(h:Ji B w)(hB:B<=B'):Ji B' w:=⟨yF h.1 hB,h.2⟩
theorem zet(h:Qg w w)(hb:Below w w w'):Qg w' w':=Qg.more (Qg.next h hb (ye _)) hb.size
theorem zeu(h:Ji w w)(hb:Below w w w'):Ji w' w':=Ji.more (Ji.next h hb (ye _)) hb.size
theorem zev(h:JJ w w)(hb:Below w w w'):JJ w' w':=(h.next hb (ye _)).more hb.size
structure qC(w:Wo):Prop where
 tab:Qg w.heap.size w
 err:Ji w.heap.size w
 pow:JJ w.heap.size w
 ml:ML w
theorem qC.up(h:qC w)(hb:Below w w w'):qC w':=⟨zet h.tab hb,zeu h.err hb,zev h.pow hb,h.ml.below hb⟩
theorem YJ:qM vs=ξ↔∃ h:0<vs.length,vs.length<=8/\0<=vs[0].no/\vs[0].no<=1000000/\∀ j (hj:j<vs.length),qc vs[0].no j vs[j]=ξ:=by
 cases vs with
 | nil=>simp[qM]
 | cons m r=>
  simp only[qM,Α,decide_eq_true_eq,zbr];constructor
  .rintro⟨⟨⟨a,b⟩,d⟩,f⟩;exact⟨sm,a,b,d,fun j hj=>by have:=f j hj;rwa [Nat.zero_add]at this⟩
  .rintro⟨_,a,b,d,f⟩;exact⟨⟨⟨a,b⟩,d⟩,fun j hj=>by rw[Nat.zero_add];exact f j hj⟩
theorem Xa(h:¬ ∃ h:0<vs.length,vs.length<=8/\0<=vs[0].no/\vs[0].no<=1000000/\∀ j (hj:j<vs.length),qc vs[0].no j vs[j]=ξ):qM vs=ζ:=by
 rw[← Φ,YJ];exact h
theorem zew{l:List (List UInt8)}(h:∀ j (hj:j+1<l.length),l[j]<l[j+1]):Yi l:=by
 unfold Yi;rw[Ξ];intro i j b hj a;induction j with
 | zero=>omega
 | succ j ih=>
  by_cases e:i=j
  .subst e;exact h i hj
  .exact List.lt_trans (ih om om) (h j hj)
theorem SP:J5 ss=ξ↔ss.length<=1000/\(∀ j (hj:j+1<ss.length),ss[j].data.toList<ss[j+1].data.toList)/\∀ j (hj:j<ss.length),(zH ss[j].data.toList).isSome=ξ:=by
 unfold J5;simp only[Α,decide_eq_true_eq,List.all_eq_true,zbq,and_assoc];refine and_congr_right fun _=>and_congr ⟨fun h j hj=>?_,fun h=>zew fun j hj=>?_⟩ ⟨fun h j hj=>h _ (yt hj),fun h x hx=>?_⟩
 .have:=Ξ.1 h j (j+1) (by rw[Ui];omega) (by rw[Ui];omega) om
  rwa [Rd,Rd]at this<;>omega
 .rw[Ui]at hj;rw[Rd om,Rd hj];exact h j hj
 .obtain⟨j,hj,rfl⟩:=yY.1 hx;exact h j hj
theorem SQ(h:¬ (ss.length<=1000/\(∀ j (hj:j+1<ss.length),ss[j].data.toList<ss[j+1].data.toList)/\∀ j (hj:j<ss.length),(zH ss[j].data.toList).isSome=ξ)):J5 ss=ζ:=by
 rw[← Φ,SP];exact h
theorem Nh{n0:Int}:qc n0 i m=ξ↔m.no=n0+i/\ZR m.doc=ξ/\J5 m.touched=ξ:=by
 unfold qc;simp only[Α,yD,and_assoc]
def JN(vs:List zj):Prop:=∀ k (hk:k<vs.length),vs[k].doc.size<=1048576/\(∀ s∈vs[k].touched,s.size<=1048576)/\vs[k].touched.length<=1048576
theorem BL(p:ω)(vs:List zj)(bl:List Nat)(w:Wo)(h:zw Zf w p vs bl)(hs:JN vs):
  δ prog 26 #[γ #[p]] w fun e w'=>e=ε (θ (qM vs))/\Below w w w':=by
 obtain⟨F,d,rfl,S,R⟩:=h.form;have P:=h.len;unfold maxLen at P;have L:=zt w (χ #[ς F vs.length d] 25);have X:=yH w (χ #[ς F vs.length d] 25);have Z:(w.alloc (χ #[ς F vs.length d] 25)).heap.size=w.heap.size+1:=sm;have I:=zb Z;have W:=zb (h.below L);have u:Hid (∀ wx,Below (w.heap.size+1) (w.alloc (χ #[ς F vs.length d] 25)) wx->wx.cell? w.heap.size=η (ς F vs.length d)):=fun wx hx=>yG ((hx.block w om).trans X) 0;have r:=zb L;have V:=zb hs;clear S h hs X Z L;by_cases hn1:vs.length<1
 .have t1:decide ((vs.length:Int)<1)=ξ:=yj om;have o:Hid (qM vs=ζ):=Xa (by rintro⟨h,_⟩;omega);go_in;go_wp2;go_ret;exact⟨by rw[uh o];rfl,r⟩
 .have t1:decide ((vs.length:Int)<1)=ζ:=yk om;by_cases hn8:8<vs.length
  .have t8:decide ((8:Int)<(vs.length:Int))=ξ:=yj om;have o:Hid (qM vs=ζ):=Xa (by rintro⟨_,h,_⟩;omega);go_in;go_wp2;go_ret;exact⟨by rw[uh o];rfl,r⟩
  .have t8:decide ((8:Int)<(vs.length:Int))=ζ:=yk om;have b:0<vs.length:=om;obtain⟨g,rfl⟩:=R b;obtain⟨ws0,ib0,M,O,_⟩:=W.at (yy b);obtain⟨q0,rfl,_⟩:=M;have c0:(w.alloc (χ #[ς (η g) vs.length d] 25)).cell? g=η (ι κ vs[0].no):=by simpa [Zf]using (O 0 _ rfl).1
   have d0:=uh u _ (yI _ _);have Q:(0:Int)<(vs.length:Int):=om;obtain⟨a,E⟩:∃ a,vs[0].no=a:=⟨_,rfl⟩;rw[E]at c0;have f:=zb E;by_cases A:a<0
   .have U:=yj A;have o:=zb (Xa (by rintro⟨_,_,h,_⟩;rw[uh f]at h;omega));go_in;go_wp2;go_ret;exact⟨by rw[uh o];rfl,r⟩
   .have U:=yk A;by_cases x:1000000<a
    .have T:=yj x;have o:=zb (Xa (by rintro⟨_,_,_,h,_⟩;rw[uh f]at h;omega));go_in;go_wp2;go_ret;exact⟨by rw[uh o];rfl,r⟩
    .have T:=yk x;have C:0<=a:=om;have D:a<=1000000:=om;have y:vs.length<=8:=om;have HV:Hid (∀ (i:Nat) (hi:i<vs.length) (wx:Wo),Below (w.alloc (χ #[ς (η g) vs.length d] 25)).heap.size (w.alloc (χ #[ς (η g) vs.length d] 25)) wx->δ prog 62 #[γ #[ς (η g) vs.length d],ι κ (i:Int)] wx fun e w'=>e=ε (θ (qc a i vs[i]))/\Below wx wx w'):=fun i hi wx hx=>zkL _ vs bl i wx (W.below hx) hi y a f C D (uh V i hi).1 (uh V i hi).2.1;have v:Hid (∀ z:Bool,(z=ξ↔∀ j (q:j<vs.length),qc a j vs[j]=ξ)->qM vs=z):=fun z hz=>by
      have e:=uh f;rw[Bool.eq_iff_iff,YJ,hz];constructor
      .rintro⟨_,_,_,_,h⟩ j q;rw[e]at h;exact h j q
      .intro h;exact⟨b,y,by rw[e];exact C,by rw[e];exact D,fun j q=>by rw[e];exact h j q⟩
     go_in;go_wp2;generalize (w.alloc (χ #[ς (η g) vs.length d] 25))=Y at *;go_loopw [4] (fun kk wr=>∃ k:Nat,k<=vs.length/\kk=ι κ k/\Below Y Y wr/\∀ j (h:j<vs.length),j<k->qc a j vs[j]=ξ) (fun kk _=>vs.length - (intOf kk).toNat)
     case atStart=>exact⟨0,yu _,rfl,yI _ _,fun j _ h=>om⟩
     case round=>
      obtain⟨k,hk,rfl,N,l⟩:=hrel;have r0:=uh u wr (by rw[← uh I];exact N);have s:=zb l;have n:=zb N;by_cases B:k<vs.length
      .have G:=zb (uh HV k B wr N)
       cases hpk:qc a k vs[k]with
       | true=>
        rw[hpk]at G;have H:Hid (∀ j (h:j<vs.length),j<k+1->qc a j vs[j]=ξ):=fun j h q=>by
         by_cases e:j=k
         .subst e;exact hpk
         .exact uh s j h om
        go_wp2_with fail;go_call G as e w5 ⟨rfl,b5⟩;have m:=zb (zh n b5);go_wp2;go_roundw
        case rel=>exact⟨k+1,om,by go_num,m,H⟩
        case measure=>simp[intOf];omega
       | false=>
        rw[hpk]at G;have J:=zb (uh v ζ ⟨fun h=>(by cases h),fun h=>by rw[h k B]at hpk;cases hpk⟩);go_wp2_with fail;go_call G as e w5 ⟨rfl,b5⟩;have m:=zb (zh r (zh n b5));go_wp2;go_ret;exact⟨by rw[uh J];rfl,m⟩
      .have K:=zb (uh v ξ ⟨fun _ j q=>l j q om,fun _=>rfl⟩);go_wp2;go_ret;exact⟨by rw[uh K];rfl,zh r n⟩
theorem SR{v:JV}(hok:zz v)(htw:zF v=ζ)(key:List UInt8):((Zk v key).getD []).length<=(ct v).length:=by
 unfold Zk
 cases h:zK v key with
 | none=>exact yu _
 | some u=>
  obtain⟨_,_,a,_⟩:=GJ h hok htw;show ((Gh u).getD []).length<=_
  cases u with
  | str l=>
   have d:=UX l;have b:ct (.str l)=quoted l:=rfl;rw[b]at a;show l.length<=_
   omega
  | _=>exact yu _
theorem zex{S:Nat->Prop}{a:JV}(h:zi w S a v):∀ X:Wo,(Instr.typeAssert v 65 213 ξ).run prog X= .ok (.tuple #[σ (ze ((Gh a).getD [])),θ (Gh a).isSome]) X:=by
 intro X
 cases a with
 | nul=>rw[zi]at h;subst h;kernel_rfl
 | tt=>rw[zi]at h;subst h;kernel_rfl
 | ff=>rw[zi]at h;subst h;kernel_rfl
 | num l=>rw[zi]at h;obtain⟨z,rfl,_⟩:=h;kernel_rfl
 | str l=>rw[zi]at h;subst h;kernel_rfl
 | arr l=>rw[zi]at h;obtain⟨f,j,d,rfl,_⟩:=h;kernel_rfl
 | obj m=>rw[zi]at h;obtain⟨i,b,g,d,rfl,_⟩:=h;kernel_rfl
theorem BM(v:JV)(htw:zF v=ζ)(t:List UInt8)(ht:t.length<=1048576)(ty:TypeId)(p:ω)(w:Wo)(S:Nat->Prop)(h:zi w S v (φ ty p)):
  δ prog 82 #[φ ty p,(ze t)] w fun e w'=>e=ε (τ #[σ (ze ((Zk v t).getD [])),θ (Zk v t).isSome])/\w=w':=by
 have b:=zb (Fp v htw t ht ty p w S h);have a:Hid (Zk v t=(zK v t).bind Gh):=rfl;generalize Zk v t=sm at *;go_in;go_wp2_with fail;go_call b as e w2 ⟨rfl,⟨x,rfl,hn⟩ |⟨x,u,rfl,hu,hr⟩⟩
 .obtain rfl:sm=ν:=by rw[uh a,hn];rfl
  go_wp2;go_ret2;exact⟨rfl,rfl⟩
 .obtain rfl:sm=Gh u:=by rw[uh a,hu];rfl
  have d:=zex hr;obtain⟨g,f,rfl⟩:=Y1 hr;go_wp2;go_ret2;exact⟨rfl,rfl⟩
theorem zey(v:JV)(hok:zz v)(htw:zF v=ζ)(hl:(ct v).length<=1000000)(t:List UInt8)(ht:t.length<=1048576)(ty:TypeId)(p:ω)(w:Wo)(S:Nat->Prop)(h:zi w S v (φ ty p))(hML:ML w):
  δ prog 85 #[φ ty p,(ze t)] w fun e w'=>e=ε (τ #[σ (ze ((Zk v t).getD [])),θ ((Zk v t).isSome && (zH ((Zk v t).getD [])).isSome)])/\Bw w w':=by
 have b:=zb (BM v htw t ht ty p w S h);have a:(ze ((Zk v t).getD [])).size<=1048576:=by rw[zL];have:=SR hok htw t;omega
 have d:=zb (LS (ze ((Zk v t).getD [])) w hML a);rw[Zb]at d
 cases hsm:Zk v t with
 | none=>
  rw[hsm]at b;go_in;go_wp2_with fail;go_call b as e w2 ⟨rfl,rfl⟩;go_wp2;go_ret2;exact⟨rfl,yI _ _⟩
 | some l=>
  rw[hsm]at b d;go_in;go_wp2_with fail;go_call b as e w2 ⟨rfl,rfl⟩;go_wp2_with fail;go_call d as e w3 ⟨rfl,b3⟩;have f:=zb b3;go_wp2;go_ret2;exact⟨sm,f⟩
theorem zez(a:JV)(ty:TypeId)(p:ω)(w:Wo)(S:Nat->Prop)(h:zi w S a (φ ty p))(hn:kd a≠5):
  δ prog 36 #[φ ty p] w fun e w'=>e=ε (τ #[ς ν 0 0,θ ζ])/\w=w':=by
 have b:=zem h hn;go_in;go_wp2;go_ret2;exact⟨rfl,rfl⟩
theorem zeA(ab:Nat)(sv:ω)(w:Wo)(hg:w.heap[ab]?=η (χ #[sv] 149 (0,0))):
  δ prog 36 #[φ 146 ab] w fun e w'=>e=ε (τ #[sv,θ ξ])/\w=w':=by
 have a:=zen ab;have b:=Zw hg;go_in;go_wp2;go_ret2;exact⟨rfl,rfl⟩
def zeB(s:Bs)(w:Wo)(e:Ending)(w':Wo):Prop:=
 Bw w w'/\(ZR s=ζ->e=ε (τ #[.nilIface,θ ζ])) /\
 (ZR s=ξ->∃ (v:JV) (t:TypeId) (p:ω),Zn s= .inr v/\ze (ct v)=s/\e=ε (τ #[φ t p,θ ξ])/\zi w' (fun k=>w.heap.size<=k/\k<w'.heap.size) v (φ t p))
theorem zeC{v:JV}(h:Zn s= .inr v)(hb:ZR s=ζ):((ze (ct v)).toList ==s.toList)=ζ:=by
 unfold ZR at hb;rw[h]at hb;exact hb
theorem ST(s:Bs)(w:Wo)(hT:Qg w w)(hE:Ji w w)(hP:JJ w w)(hz:s.size<=9223372036854775807):
  δ prog 67 #[s] w (zeB s w):=by
 have i:=zb (SO s w hT hE hP hz);have r:=zb hP
 cases hr:Zn s with
 | inl c=>
  obtain⟨c1,c2⟩:=XD hr;have b:ZR s=ζ:=by unfold ZR;rw[hr]
  rw[hr]at i;have C:((c:Int) ==0)=ζ:=so;have D:((c:Int) !=0)=ξ:=so;have E:¬ (c:Int)=0:=om;have F:¬ c=0:=om;have f:=zb b;go_in;go_wp2_with fail;go_call i as e w1 ⟨b1,rfl⟩;go_wp2;go_ret2;exact⟨b1,fun _=>rfl,fun h=>by rw[uh f]at h;cases h⟩
 | inr v=>
  obtain⟨B,x,n,_,_,_⟩:=Hn hr;obtain⟨m,u,y⟩:=FP x;have HR:=zb hr;rw[hr]at i;go_in;go_wp2_with fail;go_call i as e w1 ⟨b1,t,p,rfl,rep⟩;have g:=zb rep;have l:=zb (Fg v m n t p w1 _ rep (fun k hk=>hk.2) ((r.next b1 (ye _)).more b1.size) om);have d:=zb b1
  cases b:ZR s with
  | true=>
   have f:=zb b;obtain⟨G,j,o⟩:=Ob.1 b;rw[uh HR]at j;injection j with j;subst j;rw[o]at l;have q:=zb o;go_wp2_with fail;go_call l as e w2 ⟨rfl,b2⟩;have a:=zb b2;go_wp2;go_ret2;refine⟨zh d a,fun h=>(by rw[uh f]at h;cases h),fun _=>⟨v,t,p,HR,q,rfl,?_⟩⟩;exact zi.keep (fun k hk=>a.block k hk.2) (fun k hk=>⟨hk.1,yF hk.2 a.size⟩) _ _ g
  | false=>
   have f:=zb b;have z:=zeC HR b;generalize ze (ct v)=A at *;go_wp2_with fail;go_call l as e w2 ⟨rfl,b2⟩;have a:=zb b2;go_wp2;go_ret2;exact⟨zh d a,fun _=>rfl,fun h=>by rw[uh f]at h;cases h⟩
structure Bg where
 ops:List zk
 base:Int
 doc:Bs
 kind:Int
 code:Int
 pos:Int
def SU:Bg:=⟨[],0,⟨#[]⟩,0,0,0⟩
def qW(no:Int)(a:Bs×Int×Int)(ops:List zk):Bg:=if a.2.1=0 then ⟨ops,no,a.1,1,0,0⟩else ⟨[],0,⟨#[]⟩,5,a.2.1,a.2.2⟩
def Yp(m:zj)(d:List zk×Int×Int):Bg:=if d.2.1=0 then qW m.no (ZK m.doc d.1) d.1 else ⟨[],0,⟨#[]⟩,6,d.2.1,d.2.2⟩
def Z4(vs:List zj)(s:Bs):Bg:=if qM vs then (match vs.reverse with | []=>SU | m :: _=>Yp m (ZL s))else SU
theorem BN(h:qM vs=ζ):Z4 vs s=SU:=by unfold Z4;rw[h];rfl
theorem BO(h:qM vs=ξ)(hr:vs.reverse=m :: r):Z4 vs s=Yp m (ZL s):=by unfold Z4;rw[yg h,hr]
def Ni(b:Bg)(w:Wo)(e:Ending)(w':Wo):Prop:=∃ v,e=ε (τ #[γ #[v,ι κ b.base,σ b.doc,ι κ 0],γ #[ι κ b.kind,ι κ b.code,ι κ b.pos,ι κ 0]])/\zX w' w.heap.size v b.ops/\Bw w w'
theorem Gu(h:qM vs=ξ):∃ (k:Nat) (hk:k<vs.length) (r:List zj),vs.length=k+1/\vs.length<=8/\vs.reverse=vs[k] :: r:=by
 obtain⟨b,a,-,-,-⟩:=YJ.1 h;refine⟨vs.length - 1,om,(vs.take (vs.length - 1)).reverse,om,a,?_⟩;have:vs=vs.take (vs.length - 1)++[vs[vs.length - 1]]:=by
  rw[← yz om,show vs.length - 1+1=vs.length by omega,List.take_length]
 conv=>lhs;rw[this]
 rw[List.reverse_append];rfl
theorem Xb(s:Bs):YT (ZL s).1:=by
 have nil:YT []:=⟨fun m h=>by simp at h,yu _⟩;unfold ZL;split
 .exact nil
 .rename_i l hr;split
  .exact nil
  .split
   .exact nil
   .refine⟨fun m hm=>?_,by simp only[yl];omega⟩;obtain⟨v,b,rfl⟩:=yP.1 hm;have g:=(Z7.of hr).item b;have i:=g.len;have d:=SR g.ok g.tw Q9;have f:=SR g.ok g.tw Ja;have a:(⟨#[]⟩:Bs).size=0:=rfl;unfold qD;refine⟨?_,?_,?_⟩
    .simp only[zL];omega
    .simp only;split
     .rw[zL];omega
     .rw[a];omega
    .simp only;split
     .rw[zL]
      cases hc:zK v JR with
      | none=>simp
      | some u=>have:=(g.child hc).len;simp;omega
     .rw[a];omega
 .exact nil
theorem zeD(vs:List zj)(s:Bs):(Z4 vs s).ops.length<=100:=by
 have h:=zco s;unfold Z4;split
 .split
  .exact yu _
  .unfold Yp;split
   .unfold qW;split
    .exact h
    .exact yu _
   .exact yu _
 .exact yu _
theorem VG {P:Program}  {p q:Tmp} {t1 t2:TypeId} (h:fn.results=#[.cell p t1,.cell q t2])   (w':Wo) {g1 g2:Nat} {cs1 cs2:Array ω} (xs ys:List ω) {d1 d2:TypeDesc}
  (hp:tmps.getD p undef=π (η g1)) (hq:tmps.getD q undef=π (η g2)) (k1:w.heap[g1]?=η (χ cs1 t1 (0,0))) (k2:w.heap[g2]?=η (χ cs2 t2 (0,0))) (hne:g1≠g2) (hw:w'=putN (putN w g1 0 xs) g2 0 ys) (l1:xs.length=cs1.size) (l2:ys.length=cs2.size)
  (hu1:P.underlying t1=η d1) (hd1:(match d1 with | .struct _ | .array _ _=>ξ | _=>ζ)=ξ) (hi1:(P.info? t1).map (·.size)=η xs.toArray.size) (hu2:P.underlying t2=η d2) (hd2:(match d2 with | .struct _ | .array _ _=>ξ | _=>ζ)=ξ) (hi2:(P.info? t2).map (·.size)=η ys.toArray.size):
  (results fn tmps).run P w'= .ok (.tuple #[.agg xs.toArray,.agg ys.toArray]) w':=by
 have a:tmps[p]?.getD undef=π (η g1):=by simpa using hp
 have b:tmps[q]?.getD undef=π (η g2):=by simpa using hq
 have d:w'.heap[g1]?=η (χ xs.toArray t1 (0,0)):=by rw[hw,qi hne,Z3 k1 xs l1]
 have f:w'.heap[g2]?=η (χ ys.toArray t2 (0,0)):=by rw[hw];exact Z3 ((qi (Ne.symm hne) _ _).trans k2) ys l2
 simp[results,h,a,b,asAddr,run_loadVar_row w' g1 t1 t1 _ (0,0) d1 d hu1 hd1 hi1,run_loadVar_row w' g2 t2 t2 _ (0,0) d2 f hu2 hd2 hi2]
structure RB(b:Nat)(w:Wo):Prop where
 k1:w.heap[b]?=η (χ #[ς ν 0 0,ι κ 0,σ ⟨#[]⟩,ι κ 0] 30 (0,0))
 k2:w.heap[b+1]?=η (χ #[ι κ 0,ι κ 0,ι κ 0,ι κ 0] 32 (0,0))
theorem RB.next(h:RB b w)(hb:Below w w w'):RB b w':=
 ⟨(hb.block b (yC.1 h.k1).1).trans h.k1,(hb.block (b+1) (yC.1 h.k2).1).trans h.k2⟩
def Z8(g:Nat)(a b c d:ω)(w:Wo):Prop:=w.cell? ⟨g,0,ν⟩=η a/\w.cell? ⟨g,1,ν⟩=η b/\w.cell? ⟨g,2,ν⟩=η c/\w.cell? ⟨g,3,ν⟩=η d
theorem Z8.of{a b c d:ω}(h:w.heap[g]?=η (χ #[a,b,c,d] t (0,0))):Z8 g a b c d w:=⟨yG h 0,yG h 1,yG h 2,yG h 3⟩
theorem JY(w:Wo)(B:Nat):zX w B (ς ν 0 0) []:=World.ownsRow_nil w B 82 4
theorem Jx(h:zX w B v ms):∃ a cap,v=ς a ms.length cap:=by
 obtain⟨a,cap,b,_⟩:=h.orow.1.form;exact⟨a,cap,b⟩
theorem VH(h:zX w B v ms)(hg:g<B)(xs:List ω)(o:Nat):zX (putN w g o xs) B v ms:=
 Gg h (fun b hb=>qi (fun e=>by have:=(h.lt b (by simpa using hb)).1;omega) xs o)
theorem Fq(h:zX w B v ms)(hl:∀ b,v.ownBlock=η b->b<g)(xs:List ω)(o:Nat):zX (putN w g o xs) B v ms:=
 Gg h (fun b hb=>qi (fun e=>by have:=hl b (by simpa using hb);omega) xs o)
def Nj(s:Bs):List zj:=match Zn s with
 | .inl _=>[]
 | .inr v=>[⟨0,ze (ct v),[]⟩]
def BP(s:Bs):Int:=match Zn s with
 | .inl c=>(c:Int)
 | .inr _=>0
def BQ(s:Bs)(w:Wo)(e:Ending)(w':Wo):Prop:=∃ v bl,e=ε (τ #[v,ι κ (BP s)])/\P8 w' v (Nj s) bl/\ZQ w.heap.size bl/\Bw w w'
def Xc(w:Wo)(d:Bs):Wo:=(w.alloc (χ #[] 9)).alloc (χ #[ι κ 0,.string d,ς (η ⟨w.heap.size,0,ν⟩) 0 0] 37)
theorem zeE(w:Wo)(d:Bs):zw Zf (Xc w d) (ς (η ⟨w.heap.size+1,0,ν⟩) 1 1) [⟨0,d,[]⟩] [w.heap.size+1,w.heap.size]:=by
 have a:(w.alloc (χ #[] 9)).heap.size=w.heap.size+1:=sm;have b:(Xc w d).heap[w.heap.size]?=η (χ #[] 9 (0,0)):=((zt (w.alloc (χ #[] 9)) _).block w.heap.size om).trans (yH w _);have f:(Xc w d).heap[w.heap.size+1]?=η (χ #[ι κ 0,d,ς (η w) 0 0] 37 (0,0)):=by
  have:=yH (w.alloc (χ #[] 9)) (χ #[ι κ 0,d,ς (η w) 0 0] 37);rw[a]at this;exact this
 have g:QK (Xc w d) (ς (η w) 0 0) [] [w]:=⟨[],rfl,fun _ _ _ h=>by simp at h,⟨rfl,.inr ⟨_,0,#[],rfl,yu _,b,ye _,yu _,rfl,rfl⟩⟩,rfl⟩;refine⟨[([ι κ 0,.string d,ς (η ⟨w,0,ν⟩) 0 0],[w])],rfl,fun j p y hp hy=>?_,⟨rfl,.inr ⟨_,1,_,rfl,yu _,f,ye _,dc,rfl,rfl⟩⟩,rfl⟩
 cases j with
 | zero=>
  simp at hp hy;subst hp;subst hy;exact⟨_,rfl,g⟩
 | succ j=>simp at hp
theorem zeF(w:Wo):Below w w (w.alloc (χ #[ς ν 0 0] 25)):=zt _ _
theorem zeG(s:Bs)(w:Wo)(hz:s.size<=1048576):
  δ prog 52 #[.string s] w (BQ s w):=by
 have q:=zeF w;have u:=yH w (χ #[ς ν 0 0] 25);have C:(w.alloc (χ #[ς ν 0 0] 25)).heap.size=w.heap.size+1:=sm;have f:=zb (XN s (w.alloc (χ #[ς ν 0 0] 25)) om);have m:=zb q;have g:=zb u;unfold BQ BP Nj;unfold qk at f
 cases hr:Zn s with
 | inl c=>
  obtain⟨c1,c2⟩:=XD hr;rw[hr]at f;have y:((c:Int) ==0)=ζ:=so;have z:((c:Int) !=0)=ξ:=so;have A:¬ (c:Int)=0:=om;have B:¬ c=0:=om;go_in;go_wp2_with fail;generalize (w.alloc (χ #[ς ν 0 0] 25))=x at *;go_call f as e w2 ⟨rfl,b1⟩;have k:=(b1.block w om).trans g;have c0:=Zw k;have p:=yJ k;have a:=zb b1;have d:=zb k;go_wp2;refine bodyPost_ret (Qh rfl _ _ w 25 #[_] (0,0) _ _ rfl rfl (Z3 d [_] rfl) underlying25 rfl kr) rfl ?_;exact⟨_,[],rfl,⟨_,rfl,zw.nil _ _⟩,ZQ.nil _,Zd (zh m a) (ye _) [_] 0⟩
 | inr v=>
  rw[hr]at f;have h:Hid (δ prog 63 #[.string s] (w.alloc (χ #[ς ν 0 0] 25)) fun e w'=>e=ε (τ #[σ (ze (ct v)),ι κ 0])/\Below (w.alloc (χ #[ς ν 0 0] 25)).heap.size (w.alloc (χ #[ς ν 0 0] 25)) w'):=uh f;go_in;go_wp2_with fail;generalize (w.alloc (χ #[ς ν 0 0] 25))=x at *;go_call h as e w2 ⟨rfl,b1⟩;have n:Below w2 w2 (Xc w2 (ze (ct v))):=zh (zt w2 _) (zt _ _);have r:=b1.size;have l:=(n.block w om).trans ((b1.block w om).trans g);have c0:=Zw l;have p:=yJ l 0;have o:=zb (zeE w2 (ze (ct v)));have a:=zb (zh b1 n);have d:=zb l;have i:Hid (w.heap.size ∉ [w2.heap.size+1,w2.heap.size]):=by show ¬ _;simp;omega
  have j:Hid (ZQ w [w2.heap.size+1,w2]):=⟨sm,fun b hb=>by simp at hb;omega⟩;unfold Xc at *;go_wp2;refine bodyPost_ret (Qh rfl _ _ w 25 #[_] (0,0) _ _ rfl rfl (Z3 d [_] rfl) underlying25 rfl kr) rfl ?_;exact⟨_,_,rfl,⟨_,rfl,o.putN i [_] 0⟩,j,Zd (zh m a) (ye _) [_] 0⟩
def ZH(s:Bs):List (List UInt8):=(zH s.data.toList).getD []
def Xd(k:Int)(pv fv vv:ω):Obj:=χ #[σ (G1 k),ι κ k,θ (Z1 k),θ (Zz k),θ (YW k),θ (YX k),JU k,pv,fv,vv] 160 (0,0)
structure Xe(w:Wo)(B:Nat)(m:zk)(g:Nat)(pv fv vv:ω)(v:JV):Prop where
 blk:w.heap[g]?=η (Xd m.kind pv fv vv)
 ge:B<=g
 path:OT w B pv (ZH m.path)
 src:OT w B fv (ZH m.src)
 val:Zz m.kind=ξ->Zn m.val= .inr v/\ze (ct v)=m.val/\∃ t p,vv=φ t p/\zi w (fun k=>B<=k/\k<w.heap.size) v vv
def BR(m:zk)(w:Wo)(e:Ending)(w':Wo):Prop:=∃ g pv fv vv v,e=ε (τ #[π (η ⟨g,0,ν⟩),θ ξ])/\Xe w' w.heap.size m g pv fv vv v/\Bw w w'
theorem zeH(k:Int):∃ fid,JU k= .func (Fn.func fid) #[] #[]:=by
 unfold JU
 repeat' split
 all_goals exact⟨_,rfl⟩
def SV(w:Wo)(e:Ending)(w':Wo):Prop:=e=ε (τ #[π ν,θ ζ])/\Bw w w'
theorem Yq{x:ω}(h:w.heap[b]?=η (χ cs t f))(hx:cs[i]?=η x):w.cell? ⟨b,i,ν⟩=η x:=(yG h i).trans hx
theorem BT(m:zk)(w:Wo)(k1:1<=m.kind)(k6:m.kind<=6)(hw:qC w)(hz1:m.path.size<=1048576)(hz2:m.src.size<=1048576)(hz3:m.val.size<=1048576):
  δ prog 42 #[γ #[ι κ m.kind,m.path,m.src,m.val]] w fun e w'=>(ZD m=ξ->BR m w e w')/\(ZD m=ζ->SV w e w'):=by
 have hA:=zt w (YY m);have kA:=yH w (YY m);have Q:(w.alloc (YY m)).heap.size=w.heap.size+1:=sm;have J:=zb (zda w.heap.size m (w.alloc (YY m)) kA k1 k6);have HTP:Hid (∀ wx,Bw w wx->δ prog 91 #[m.path] wx fun e w'=>∃ v,e=ε (τ #[v,θ (zH m.path.data.toList).isSome])/\OT w' wx.heap.size v (ZH m.path)/\Bw wx w'):=fun wx hx=>LP m.path wx (hw.up hx).ml hz1;have HTS:Hid (∀ wx,Bw w wx->δ prog 91 #[m.src] wx fun e w'=>∃ v,e=ε (τ #[v,θ (zH m.src.data.toList).isSome])/\OT w' wx.heap.size v (ZH m.src)/\Bw wx w'):=fun wx hx=>LP m.src wx (hw.up hx).ml hz2;have HRC:=zb fun wx (hx:Bw w wx)=>ST m.val wx (hw.up hx).tab (hw.up hx).err (hw.up hx).pow om;have a:Hid (ZD m=((zH m.path.data.toList).isSome && (if Z1 m.kind then (zH m.src.data.toList).isSome else m.src.toList ==[]) && (if Zz m.kind then ZR m.val else m.val.toList ==[]))):=by show _=_;unfold ZD;rw[yj k1,yj k6];rfl
 have HSE:Hid (m.src.toList=[]->(zH m.src.data.toList).isSome=ξ):=fun e=>by rw[Ζ]at e;rw[e];rfl
 obtain⟨d,B⟩:=zeH m.kind;obtain⟨y,af⟩:∃ y,G1 m.kind=y:=⟨_,rfl⟩;obtain⟨u,C⟩:∃ u,YW m.kind=u:=⟨_,rfl⟩;obtain⟨x,D⟩:∃ x,YX m.kind=x:=⟨_,rfl⟩;obtain⟨g,M⟩:∃ g,Z1 m.kind=g:=⟨_,rfl⟩;obtain⟨f,N⟩:∃ f,Zz m.kind=f:=⟨_,rfl⟩;unfold KJ at J;rw[B,af,C,D,M,N]at J;rw[M,N]at a;have l:Hid (JU m.kind= .func (Fn.func d) #[] #[]/\G1 m.kind=y/\YW m.kind=u/\YX m.kind=x/\Z1 m.kind=g/\Zz m.kind=f):=⟨B,af,C,D,M,N⟩;have P:=zb hA;have HKA:=zb kA;have n:=zb Q;generalize (zH m.path.data.toList).isSome=zp at *;generalize (zH m.src.data.toList).isSome=zq at *;obtain⟨E,hok⟩:∃ E,ZD m=E:=⟨_,rfl⟩;rw[hok]at a ⊢;unfold YY at *;go_in;go_wp2_with fail;generalize w.alloc _=wA at *;go_call J as e w1 ⟨rfl,b1⟩;have hB:=zt w1 (χ #[y,ι κ m.kind,θ g,θ f,θ u,θ x,.func (Fn.func d) #[] #[]] 154);have kB:=yH w1 (χ #[y,ι κ m.kind,θ g,θ f,θ u,θ x,.func (Fn.func d) #[] #[]] 154);have R:(w1.alloc (χ #[y,ι κ m.kind,θ g,θ f,θ u,θ x,.func (Fn.func d) #[] #[]] 154)).heap.size=w1.heap.size+1:=sm;have b2:=zh b1 hB;have hz1:=b1.size;have k2:=(b2.block w.heap.size (by have:=uh n;omega)).trans HKA;have c1:=Yq (i:=1) k2 rfl;have c2:=Yq (i:=2) k2 rfl;have c3:=Yq (i:=3) k2 rfl;have HT:=zb (uh HTP _ (zh P b2));have F:=zb b2;have HK2:=zb k2;have HKB:=zb kB;have r:=zb hz1;have s:=zb R;have HOB:Hid (∀ (wx:Wo) (p q:ω),Bw wx (wx.alloc (χ #[y,ι κ m.kind,θ g,θ f,θ u,θ x,.func (Fn.func d) #[] #[],p,q,.nilIface] 160))/\(wx.alloc (χ #[y,ι κ m.kind,θ g,θ f,θ u,θ x,.func (Fn.func d) #[] #[],p,q,.nilIface] 160)).heap[wx.heap.size]?=η (χ #[y,ι κ m.kind,θ g,θ f,θ u,θ x,.func (Fn.func d) #[] #[],p,q,.nilIface] 160 (0,0))/\(wx.alloc (χ #[y,ι κ m.kind,θ g,θ f,θ u,θ x,.func (Fn.func d) #[] #[],p,q,.nilIface] 160)).heap.size=wx.heap.size+1):=fun wx p q=>⟨zt _ _,yH _ _,sm⟩;obtain⟨bq,hbq⟩:∃ b,b=f:=⟨_,rfl⟩;by_cases ad:g=ζ->m.src.toList=[]
 .by_cases hvn:f=ζ->m.val.toList=[]
  .cases g<;>cases f
   all_goals (
    try have es:=ad rfl
    try have ev:=hvn rfl
    have U:=zb hbq;go_wp2_with fail;generalize w1.alloc _=w2 at *;generalize w1.heap.size=V0 at *;go_call HT as e w3 ⟨pv,rfl,op,b3⟩;obtain⟨pa,pg,pc,rfl,-,-⟩:=op.shape;have R:=uh s;have Q:=uh n;have hz1:=uh r;have k3:=(b3.block w.heap.size om).trans HK2;have d2:=Yq (i:=2) k3 rfl;have aa:=zh F b3;have HT2:=zb (uh HTS _ (zh P aa));have HOP:=zb op;have HK3:=zb k3;have V:=zb ((b3.block V0 om).trans HKB);have z:=zb b3.size;have T:=zb aa;go_wp2_with fail;go_call HT2 as e w4 ⟨fv,rfl,of,b4⟩;obtain⟨fa,fg,fc,rfl,-,-⟩:=of.shape;have ab:=zh T b4;by_cases O:zp=ξ/\zq=ξ
    .obtain⟨rfl,rfl⟩:=O;have R:=uh s;have Q:=uh n;have hz1:=uh r;have hz3:=uh z;have kv:=(b4.block V0 om).trans V;have v0:=Yq (i:=0) kv rfl;have v1:=Yq (i:=1) kv rfl;have v2:=Yq (i:=2) kv rfl;have v3:=Yq (i:=3) kv rfl;have v4:=Yq (i:=4) kv rfl;have v5:=Yq (i:=5) kv rfl;have v6:=Yq (i:=6) kv rfl;have A:=b4.size;have k4:=(b4.block w.heap.size om).trans HK3;have d3:=Yq (i:=3) k4 rfl;obtain⟨hC,kC,zC⟩:=uh HOB w4 (ς pa (ZH m.path).length pc) (ς fa (ZH m.src).length fc);have e3:=Yq (i:=3) ((hC.block V0 (yC.1 kv).1).trans kv) rfl;have f3:=Yq (i:=3) ((hC.block w.heap.size om).trans k4) rfl;have b5:=zh P (zh ab hC);have HR:=zb (uh HRC _ b5);have Z:=zb (Zh HOP b4);have Y:=zb of;have I:=zb hC;have G:=zb b5;have W:=zb kC;have L:=zb zC;have K:=zb A
     cases bq with
     | false=>
      first
      | exact Bool.noConfusion U
      |(
        have o:Hid (E=ξ):=by show _=_;rw[uh a];simp[*]
        go_wp2;go_ret2;have R:=uh s;have Q:=uh n;have hz1:=uh r;have hz3:=uh z;have A:=uh K;refine⟨fun _=>⟨w4.heap.size,_,_,.nilIface,.nul,rfl,⟨?_,om,qH (Zh Z I) om,qH (Zh Y I) om,fun h=>?_⟩,G⟩,fun h=>?_⟩
        .unfold Xd;rw[(uh l).1,(uh l).2.1,(uh l).2.2.1,(uh l).2.2.2.1,(uh l).2.2.2.2.1,(uh l).2.2.2.2.2];exact W
        .rw[(uh l).2.2.2.2.2]at h;cases h
        .rw[uh o]at h;cases h)
     | true=>
      first
      | exact Bool.noConfusion U
      |(
        go_wp2_with fail;generalize w4.alloc _=w5 at *;generalize hG:w4.heap.size=j at *;have HGE:=zb hG;go_call HR as e w6 ⟨b6,hno,hyes⟩;have zC:=uh L;have k6:=(b6.block j om).trans W;have g9:=Yq (i:=9) k6 rfl;have f9:=yJ k6 9;have H:=zb b6;have HK6:=zb k6
        cases hg:ZR m.val with
        | false=>
         obtain rfl:=hno hg;have o:Hid (E=ζ):=by show _=_;rw[uh a,hg];simp
         go_wp2;go_ret2;refine⟨fun h=>?_,fun _=>⟨rfl,?_⟩⟩
         .rw[uh o]at h;cases h
         .have R:=uh s;have Q:=uh n;have hz1:=uh r;have hz3:=uh z;have A:=uh K;have zC:=uh L;exact ((uh G).trans ((uh H).mono om)).setCell (p:=⟨j,9,ν⟩) (by show w.heap.size<=j;omega) _
        | true=>
         obtain⟨v,t,p,r1,r2,rfl,rep⟩:=hyes hg;have o:Hid (E=ξ):=by show _=_;rw[uh a,hg];simp[*]
         have HR1:=zb r1;have HR2:=zb r2;have X:=zb rep;have HK7:=zb (heap_setCell_same w6 j 9 _ _ (φ t p) HK6);go_wp2;go_ret2;have R:=uh s;have Q:=uh n;have hz1:=uh r;have hz3:=uh z;have A:=uh K;have zC:=uh L;have S:Bw w4 (w6.setCell ⟨j,9,ν⟩ (φ t p)):=by
          have hGE:=uh HGE;exact (((uh I).mono om).trans ((uh H).mono om)).setCell (p:=⟨j,9,ν⟩) (by show w4.heap.size<=j;omega) _
         have z7:(w6.setCell ⟨j,9,ν⟩ (φ t p)).heap.size=w6.heap.size:=by simp[World.setCell]
         refine⟨fun _=>⟨j,_,_,φ t p,v,rfl,⟨?_,om,qH (Zh Z S) om,qH (Zh Y S) om,fun _=>⟨HR1,HR2,t,p,rfl,?_⟩⟩,((uh G).trans ((uh H).mono om)).setCell (p:=⟨j,9,ν⟩) (by show w.heap.size<=j;omega) _⟩,fun h=>?_⟩
         .unfold Xd;rw[(uh l).1,(uh l).2.1,(uh l).2.2.1,(uh l).2.2.2.1,(uh l).2.2.2.2.1,(uh l).2.2.2.2.2];exact HK7
         .exact zi.keep (fun k hk=>Β w6 ⟨j,9,ν⟩ _ k (fun e=>by have:k=j:=e;omega)) (fun k hk=>⟨om,by rw[z7];exact hk.2⟩) _ _ X
         .rw[uh o]at h;cases h)
    .have o:Hid (E=ζ):=by
      have hse:=uh HSE;show _=_
      rw[uh a]
      cases zp<;>cases zq<;>simp_all
     have HB4:=zb (zh P ab)
     cases zp<;>cases zq
     all_goals first
      | exact absurd ⟨rfl,rfl⟩ O
      |(
        clear O;go_wp2;go_ret2;exact⟨fun h=>(by rw[uh o]at h;cases h),fun _=>⟨rfl,HB4⟩⟩))
  .obtain⟨rfl,hv⟩:f=ζ/\¬ m.val.toList=[]:=by cases f<;>simp_all
   have hi:m.val.toList.isEmpty=ζ:=by rw[← Φ,List.isEmpty_iff];exact hv
   have o:Hid (E=ζ):=by show _=_;rw[uh a];simp[hv]
   have HB:=zb (zh P F)
   cases g
   all_goals (
    try have es:=ad rfl
    go_wp2;go_ret2;exact⟨fun h=>(by rw[uh o]at h;cases h),fun _=>⟨rfl,HB⟩⟩)
 .obtain⟨rfl,hs⟩:g=ζ/\¬ m.src.toList=[]:=by cases g<;>simp_all
  have o:Hid (E=ζ):=by show _=_;rw[uh a];simp[hs]
  have HB:=zb (zh P F)
  cases f
  all_goals (
   go_wp2;go_ret2;exact⟨fun h=>(by rw[uh o]at h;cases h),fun _=>⟨rfl,HB⟩⟩)
theorem zeI(m:zk)(w:Wo)(hno:¬ (1<=m.kind/\m.kind<=6)):
  δ prog 42 #[γ #[ι κ m.kind,m.path,m.src,m.val]] w (SV w):=by
 have f:=zt w (YY m);have g:=yH w (YY m);have b:=zb (zdb w m (w.alloc (YY m)) g hno);have d:=zb f;unfold YY QL at *;go_in;go_wp2_with fail;generalize (w.alloc (χ #[ι κ m.kind,m.path,m.src,m.val] 82))=h at *;go_call b as e w1 ⟨rfl,b1⟩;have a:=zb (zh d (zh b1 (zt w1 (χ #[σ ⟨#[]⟩,ι κ 0,θ ζ,θ ζ,θ ζ,θ ζ,.nilFunc] 154))));go_wp2;go_ret2;exact⟨rfl,a⟩
theorem BU(m:zk)(w:Wo)(h:ZD m=ξ)(hw:qC w)(hz1:m.path.size<=1048576)(hz2:m.src.size<=1048576)(hz3:m.val.size<=1048576):
  δ prog 42 #[γ #[ι κ m.kind,m.path,m.src,m.val]] w (BR m w):=by
 have a:1<=m.kind/\m.kind<=6:=by unfold ZD at h;simp only[Α,decide_eq_true_eq]at h;exact h.1.1.1
 exact (BT m w a.1 a.2 hw hz1 hz2 hz3).mono fun e w' hr=>hr.1 h
theorem BV(m:zk)(w:Wo)(h:ZD m=ζ)(hw:qC w)(hz1:m.path.size<=1048576)(hz2:m.src.size<=1048576)(hz3:m.val.size<=1048576):
  δ prog 42 #[γ #[ι κ m.kind,m.path,m.src,m.val]] w (SV w):=by
 by_cases a:1<=m.kind/\m.kind<=6
 .exact (BT m w a.1 a.2 hw hz1 hz2 hz3).mono fun e w' hr=>hr.2 h
 .exact zeI m w a
theorem SW{m:zk}(h:ZD m=ξ):1<=m.kind/\m.kind<=6/\(zH m.path.data.toList).isSome=ξ/\(zH m.src.data.toList).isSome=ξ/\(Z1 m.kind=ζ->m.src.toList=[])/\(Zz m.kind=ξ->ZR m.val=ξ)/\(Zz m.kind=ζ->m.val.toList=[]):=by
 unfold ZD at h;simp only[Α,decide_eq_true_eq]at h;obtain⟨⟨⟨⟨g,i⟩,j⟩,a⟩,b⟩:=h;refine⟨g,i,j,?_,?_,?_,?_⟩
 .cases d:Z1 m.kind with
  | true=>rw[d]at a;exact a
  | false=>
   rw[d]at a;have e:m.src.toList=[]:=by simpa using a
   rw[Ζ]at e;rw[e];rfl
 .intro d;rw[d]at a;simpa using a
 .intro f;rw[f]at b;exact b
 .intro f;rw[f]at b;simpa using b
def Y3(t:List UInt8):Bool:=(t !=[] && t.all fun c=>zS c.toNat) || t ==[45]
def QC(ts:List (List UInt8)):List (List UInt8):=if ts≠[]/\Y3 (ts.getLastD [])=ξ then ts.dropLast else ts
theorem Nk{t:List UInt8}(h:Y3 t=ξ):QC (ts++[t])=ts:=by
 unfold QC;rw[yg ⟨sm,by simpa using h⟩];simp
theorem Nl{t:List UInt8}(h:Y3 t=ζ):QC (ts++[t])=ts++[t]:=by
 unfold QC;rw[yf (by rintro⟨_,a⟩;simp[h]at a)]
theorem zeJ(c:UInt8):1<=(Jp c).length:=by unfold Jp;split<;>(try split)<;>simp
theorem BW:∀ (l:List UInt8),l.length<=(Zg l).length
 | []=>yu _
 | c :: r=>by
  have h1:=zeJ c;have a:=BW r;simp only[Zg,Ο,yh,yp]at *;omega
theorem BZ:∀ (ts:List (List UInt8)),ts.length+JQ ts<=(qm ts).length
 | []=>yu _
 | t :: r=>by
  have h1:=BW t;have a:=BZ r;simp only[qm,JQ,Ο,yh,yp,yi,yM]at *;omega
theorem Ca(ts:List (List UInt8)):(QC ts).length+JQ (QC ts)<=ts.length+JQ ts:=by
 rcases Θ ts with rfl |⟨r,t,rfl⟩
 .exact ye _
 .rw[Ι]
  cases h:Y3 t with
  | true=>rw[Nk h,F7];simp;omega
  | false=>rw[Nl h];exact ye _
theorem Nm(h:(zH s.data.toList).isSome=ξ):(ZH s).length+JQ (ZH s)<=s.size:=by
 obtain⟨f,a⟩:=Τ.1 h;have d:=MW a;have b:=BZ f;rw[← Ug,d,Zo]at b;unfold ZH;rw[a];exact b
def Fs(m:zk):List (List UInt8):=if YX m.kind then QC (ZH m.path)else ZH m.path
def Fu(m:zk):List (List UInt8):=if YW m.kind then QC (ZH m.src)else ZH m.src
def VI(m:zk):List (List UInt8):=qm (Fs m) ::(if Z1 m.kind then [qm (Fu m)]else [])
def Jr(m:zk):List (List UInt8):=if ZD m then VI m else []
def Jy(ms:List zk):List (List UInt8):=ms.flatMap Jr
def ZN(ms:List zk):List (List UInt8):=if 100<ms.length then []else Qj (Jy ms)
theorem Cb(m:zk):(Jr m).length<=2:=by unfold Jr VI;split<;>(try split)<;>simp
theorem Fv:∀ (ms:List zk),(Jy ms).length<=2*ms.length
 | []=>yu _
 | m :: r=>by
  have h1:=Cb m;have a:=Fv r;simp only[Jy,Ο,yh,yp]at *;omega
theorem Cc{k:Nat}(h:k<ms.length):Jy (ms.take (k+1))=Jy (ms.take k)++Jr ms[k]:=by
 unfold Jy;rw[yz h,List.flatMap_append,List.flatMap_singleton]
def Zm(ops:List zk):List Bs:=(ZN ops).map zG
theorem Cd(ts:List (List UInt8)):(qm (QC ts)).length<=(qm ts).length:=by
 rcases Θ ts with rfl |⟨r,t,rfl⟩
 .exact ye _
 .rw[Ι]
  cases h:Y3 t with
  | true=>rw[Nk h];simp[qm]
  | false=>rw[Nl h];exact ye _
theorem Ce(h:(zH s.data.toList).isSome=ξ):(qm (ZH s)).length=s.size:=by
 obtain⟨d,a⟩:=Τ.1 h;have b:=MW a;rw[Ug]at b;unfold ZH;rw[a];show (qm d).length=_
 rw[b,Zo]
theorem zeK{m:zk}(h1:m.path.size<=1048576)(h2:m.src.size<=1048576){t:List UInt8}(ht:t∈Jr m):t.length<=1048576:=by
 unfold Jr at ht;split at ht
 .rename_i ho;simp only[ZD,Α]at ho;have b:=Ce ho.1.1.2;have d:=Cd (ZH m.path);simp only[VI,Υ]at ht;rcases ht with rfl | ht
  .unfold Fs;split<;>omega
  .split at ht
   .rename_i hf;have a:=ho.1.2;rw[yg hf]at a;have b:=Ce a;have d:=Cd (ZH m.src);rw[Γ]at ht;subst ht;unfold Fu;split<;>omega
   .simp at ht
 .simp at ht
theorem Nn(h:XQ ops):Vp (Zm ops):=by
 unfold Zm ZN;split
 .exact⟨sm,fun s hs=>by simp at hs⟩
 .rename_i hl;have d:=PE _ (Jy ops) rfl;have f:=Fv ops;refine⟨by rw[yl];omega,fun s hs=>?_⟩;obtain⟨t,a,rfl⟩:=yP.1 hs;obtain⟨m,b,a⟩:=Χ.1 (Px.1 a);have:=zeK (h m b).1 (h m b).2.1 a;show t.toArray.size<=_
  simpa using this
theorem SX(ops:List zk):(Zm ops).length<=200:=by
 unfold Zm ZN;rw[yl];split
 .simp
 .have a:=PE _ (Jy ops) rfl;have b:=Fv ops;omega
structure qa where
 ops:List zk
 base:Int
 doc:Bs
 tries:Int
def Jc:qa:=⟨[],0,⟨#[]⟩,0⟩
structure Wg where
 vs:List zj
 pn:qa
 kind:Int
 code:Int
 pos:Int
 no:Int
def VJ:Wg:=⟨[],Jc,0,0,0,0⟩
def Jj(no:Int)(p:qa):Bool:=decide (qn p.ops<0) && decide (0<=p.base) && decide (p.base<=no) && ZR p.doc && decide (0<=p.tries) && decide (p.tries<=4)
def meets(vs:List zj)(tch:List Bs)(base:Int):Bool:=decide (base+1<(vs.head?.map (·.no)).getD 0) || vs.any fun m=>decide (base<m.no) && Qf tch m.touched
def qF(vs:List zj):List zj:=vs.drop (vs.length - 8)
def Xf(vs:List zj)(no t:Int)(a:Bs×Int×Int)(ops:List zk):Wg:=if a.2.1=0 then ⟨vs,⟨ops,no,a.1,t⟩,1,0,0,0⟩else ⟨vs,Jc,5,a.2.1,a.2.2,0⟩
def QN(vs:List zj)(m:zj)(p:qa):Wg:=
 if p.base=m.no then ⟨qF (vs++[⟨m.no+1,p.doc,Zm p.ops⟩]),Jc,2,0,0,m.no+1⟩
 else if 4<p.tries+1 then ⟨vs,Jc,4,0,0,0⟩
 else if meets vs (Zm p.ops) p.base then ⟨vs,Jc,3,0,0,0⟩
 else Xf vs m.no (p.tries+1) (ZK m.doc p.ops) p.ops
def Ya(vs:List zj)(p:qa):Wg:=if qM vs then (match vs.reverse with | []=>VJ | m :: _=>if Jj m.no p then QN vs m p else VJ)else VJ
theorem Cf{p:qa}(h:qM vs=ζ):Ya vs p=VJ:=by unfold Ya;rw[h];rfl
theorem SY{p:qa}(h:qM vs=ξ)(hr:vs.reverse=m :: r):Ya vs p=if Jj m.no p then QN vs m p else VJ:=by unfold Ya;rw[yg h,hr]
theorem WO(h:OT w B v ts):QK w v (ts.map zG) v.ownBlock.toList/\∀ g,v.ownBlock=η g->B<=g:=by
 refine⟨Vu.2 ⟨?_,rfl⟩,fun g hg=>(World.ownsRow.lt h g hg).1⟩;have a:=qH h (yu B);rw[yl,List.map_map];exact a
theorem Cg(h:zw Qq w v ms bl):zX w 0 v ms:=by
 obtain⟨f,k,i,d,rfl⟩:=h;have a:f=ms.map fun m=>(Jn m,[]):=by
  apply List.ext_getElem?;intro j;by_cases b:j<ms.length
  .obtain⟨a,g⟩:=i j f[j] ms[j] (yy om) (yy b);rw[yy om,List.getElem?_map,yy b];exact congrArg η (Prod.ext a g)
  .rw[List.getElem?_eq_none om,List.getElem?_eq_none (by rw[yl];omega)]
 subst a;have e:(ms.map fun m=>((Jn m,[]):List ω×List Nat)).flatMap (·.1)=ms.flatMap Jn:=by rw[List.flatMap_map]
 rw[e]at d;exact d
theorem WP:∀ (vs:List ω) (o:Nat) (w:Wo),putN w.drew g o vs=(putN w g o vs).drew
 | [],_,_=>rfl
 | a :: r,o,w=>by
  have h:w.drew.setCell ⟨g,o,ν⟩ a=(w.setCell ⟨g,o,ν⟩ a).drew:=rfl;show putN (w.drew.setCell ⟨g,o,ν⟩ a) g (o+1) r=(putN (w.setCell ⟨g,o,ν⟩ a) g (o+1) r).drew
  rw[h];exact WP r (o+1) _
theorem Ch:∀ {os:List qj} {v x:JV} {i:Nat},(∀ o∈os,zx o.val)->zx v->YE v=ξ->Qy v os i= .inr x->zx x/\YE x=ξ
 | [],v,x,i,_,g,l,h=>by rw[Qy]at h;injection h with h;subst h;exact⟨g,l⟩
 | o :: os,v,x,i,ho,g,l,h=>by
  rw[Qy]at h
  cases hd:ZS v o with
  | inl d=>rw[hd]at h;cases h
  | inr u=>
   rw[hd]at h;simp only at h;split at h
   .rename_i hl;exact Ch (fun o hm=>ho o (yw _ hm)) (X0 g (ho o yq) hd) hl h
   .cases h
theorem Ci:∀ {os:List qj} {v:JV} {i c j:Nat},Qy v os i= .inl (c,j)->c≠0
 | [],v,i,c,j,h=>by rw[Qy]at h;cases h
 | o :: os,v,i,c,j,h=>by
  rw[Qy]at h
  cases hd:ZS v o with
  | inl d=>rw[hd]at h;injection h with h;injection h with h _;subst h;exact OU hd
  | inr u=>
   rw[hd]at h;simp only at h;split at h
   .exact Ci h
   .injection h with h;injection h with h _;omega
theorem zeL{m:zk}(h:ZD m=ξ):zx (qJ m).val:=by
 show zx (YG m)
 cases hv:Zz m.kind with
 | true=>exact ((Si h).2.2 hv).2.2.t
 | false=>
  have:=(SW h).2.2.2.2.2.2 hv;unfold YG;split
  .rename_i u hu;exact (Z7.of hu).t
  .exact⟨trivial,rfl,rfl,trivial⟩
theorem Np(h:(ZK s ms).2.1=0):¬ 0<=qn ms/\ZR (ZK s ms).1=ξ/\ZK s ms=((ZK s ms).1,0,0):=by
 unfold ZK at h ⊢
 cases hr:Zn s with
 | inl c=>rw[hr]at h;cases h
 | inr v=>
  rw[hr]at h;simp only at h ⊢;by_cases a:0<=qn ms
  .rw[yg a]at h;cases h
  .rw[yf a]at h ⊢
   cases hv:Qy v (ms.map qJ) 0 with
   | inl ci=>
    rw[hv]at h;have h:(ci.1:Int)=0:=h;exact absurd om (Ci (c:=ci.1) (j:=ci.2) hv)
   | inr x=>
    have g:=Z7.of hr;obtain⟨b,f⟩:=Ch (fun o ho=>by obtain⟨m,d,rfl⟩:=yP.1 ho;exact zeL ((Sj a).2 m d)) g.t ((UB v).2 ⟨g.dep,g.cnt,g.len⟩) hv;exact⟨a,by rw[L9 b.rd b.big b.tw];exact yj ((UB x).1 f),rfl⟩
theorem Cj(ops:List zk):J5 (Zm ops)=ξ:=by
 have d:=SX ops;have e:tl (Zm ops)=ZN ops:=by unfold tl Zm;rw[List.map_map];exact List.map_id' _
 unfold J5;simp only[Α,decide_eq_true_eq,List.all_eq_true];refine⟨⟨om,?_⟩,fun s hs=>?_⟩
 .rw[e,zbq];unfold ZN;split
  .exact List.Pairwise.nil
  .exact Py _
 .obtain⟨t,a,rfl⟩:=yP.1 hs;show (zH t).isSome=ξ
  unfold ZN at a;split at a
  .cases a
  .obtain⟨m,f,a⟩:=Χ.1 (Px.1 a);have b:∀ ts,(zH (qm ts)).isSome=ξ:=fun ts=>by rw[← Ug,zbT];rfl
   unfold Jr at a;split at a
   .unfold VI at a;rcases Υ.1 a with rfl | a
    .exact b _
    .split at a
     .rw[Γ]at a;subst a;exact b _
     .cases a
   .cases a
theorem Ck(hok:qM vs=ξ)(hr:vs.reverse=m :: r)(hm:m.no<1000000)(hu:u.no=m.no+1)(hd:ZR u.doc=ξ)(ht:J5 u.touched=ξ):qM (qF (vs++[u]))=ξ:=by
 obtain⟨A,y,w,x,o⟩:=YJ.1 hok;obtain⟨k,q,C,z,-,n⟩:=Gu hok;obtain⟨rfl,rfl⟩:=List.cons.inj (n.symm.trans hr);have f:∀ j (hj:j<(vs++[u]).length),qc vs[0].no j (vs++[u])[j]=ξ:=fun j hj=>by
  by_cases h:j<vs.length
  .rw[List.getElem_append_left h];exact o j h
  .have e:j=vs.length:=by rw[yh,yS]at hj;omega
   have v:=o k q;simp only[qc,Α,yD]at v;subst e;rw[List.getElem_append_right (ye _)];simp only[Nat.sub_self,Η,qc,Α,yD];exact⟨⟨om,hd⟩,ht⟩
 have i:=o k q;simp only[qc,Α,yD]at i;have s:(vs++[u]).length=vs.length+1:=sm;generalize vs++[u]=l at *;unfold qF;generalize hd':l.length - 8=d;have p:∀ j (hj:j<(l.drop d).length),(l.drop d)[j].no=vs[0].no+(d+j:Nat)/\ZR (l.drop d)[j].doc=ξ/\J5 (l.drop d)[j].touched=ξ:=fun j hj=>by
  rw[yv]at hj;have h:=f (d+j) om;simp only[qc,Α,yD]at h;rw[List.getElem_drop];exact⟨h.1.1,h.1.2,h.2⟩
 have B:(l.drop d).length=l.length - d:=yv;have g:=(p 0 om).1;refine YJ.2 ⟨om,om,by rw[g];omega,by rw[g];omega,fun j hj=>?_⟩;obtain⟨a,b,c⟩:=p j hj;simp only[qc,Α,yD];exact⟨⟨by rw[a,g];omega,b⟩,c⟩
theorem SZ(h:(Z4 vs s).kind=1):∃ m r,qM vs=ξ/\vs.reverse=m :: r/\(ZL s).2.1=0/\(ZK m.doc (ZL s).1).2.1=0/\Z4 vs s=⟨(ZL s).1,m.no,(ZK m.doc (ZL s).1).1,1,0,0⟩:=by
 unfold Z4 at h ⊢;split at h
 .rename_i hok;rw[yg hok];obtain⟨k,b,r,d,-,a⟩:=Gu hok;rw[a]at h ⊢;simp only at h ⊢;refine⟨vs[k],r,hok,rfl,?_⟩;unfold Yp at h ⊢;split at h
  .rename_i hd;rw[yg hd];unfold qW at h ⊢;split at h
   .rename_i ha;rw[yg ha];exact⟨hd,ha,rfl⟩
   .cases h
  .cases h
 .cases h
theorem Cl{d:Bs}{t:Int}(hok:qM vs=ξ)(hr:vs.reverse=m :: r)(ha:ZK m.doc ops=(d,0,0))(h0:0<=t)(h4:t<=4):
  Ya vs ⟨ops,m.no,d,t⟩=⟨qF (vs++[⟨m.no+1,d,Zm ops⟩]),Jc,2,0,0,m.no+1⟩:=by
 have a:=Np (s:=m.doc) (ms:=ops) (by rw[ha]);rw[ha]at a;have h:0<=m.no:=by
  obtain⟨k,g,l,j,-,b⟩:=Gu hok;obtain⟨rfl,rfl⟩:=List.cons.inj (b.symm.trans hr);obtain⟨f,-,h0,-,i⟩:=YJ.1 hok;have:=i k g;simp only[qc,Α,yD]at this;omega
 have f:Jj m.no ⟨ops,m.no,d,t⟩=ξ:=by
  simp only[Jj,Α,decide_eq_true_eq];exact⟨⟨⟨⟨⟨by have:=a.1;omega,h⟩,Int.le_refl _⟩,a.2.1⟩,h0⟩,h4⟩
 rw[SY hok hr,yg f];unfold QN;rw[yg rfl]
structure YK(n:Nat)(vs:List zj):Prop where
 ok:qM vs=ξ
 no:∀ m∈vs,m.no<=n
 vin:JN vs
def Nq(vs:List zj)(s:Bs):List zj:=if (Z4 vs s).kind=1 then (Ya vs ⟨(Z4 vs s).ops,(Z4 vs s).base,(Z4 vs s).doc,0⟩).vs else vs
theorem Fw(h:ZR s=ξ):s.size<=20000:=by
 obtain⟨v,a,b⟩:=Ob.1 h;rw[← b,zL];exact (Z7.of a).len
theorem Cm(hx:x∈qF (vs++[u])):x∈vs∨x=u:=(Κ.1 (List.mem_of_mem_drop hx)).imp id Γ.1
theorem Cn(h:JN vs)(hd:u.doc.size<=20000)(ht:Vp u.touched):JN (qF (vs++[u])):=fun k hk=>by
 rcases Cm (yt hk)with a | a
 .obtain⟨j,b,e⟩:=Δ a;rw[← e];exact h j b
 .rw[a];exact⟨om,ht.2,ht.1⟩
theorem YK.step(h:YK n vs)(hn:n<1000)(s:Bs):YK (n+1) (Nq vs s):=by
 unfold Nq;split
 .rename_i hk;obtain⟨m,r,a,f,-,i,j⟩:=SZ hk;have b:=Np i;rw[j];simp only;rw[Cl a f b.2.2 (Int.le_refl _) dc];simp only;have d:m∈vs:=by rw[← List.mem_reverse,f];exact yq
  have k:=h.no m d;exact⟨Ck a f om rfl b.2.1 (Cj _),fun x hx=>by
   rcases Cm hx with g | rfl
   .have:=h.no x g;omega
   .simp only;omega,Cn h.vin (Fw b.2.1) (Nn (Xb s).1)⟩
 .exact⟨h.ok,fun m d=>by have:=h.no m d;omega,h.vin⟩
theorem Yr{xs:List zj}(h:zw Zf w v xs bl):QA [37,9] w bl:=TH (e:=Zf) Fc h
theorem YL{cur:Array ω}{ts:List TypeId}(hk:w.heap[g]?=η (χ cur t f))(ht:QA ts w bl)(hn:t ∉ ts):g ∉ bl:=fun hm=>by
 obtain⟨b,h,a,d⟩:=ht g hm;rw[hk]at a;injection a with a;injection a with _ a;subst a;exact hn d
theorem zeM(a0 a1 a2:ω)(m:zj)(ib:List Nat)(w:Wo)(h:Zf.E w [a0,a1,a2] m ib)(hm:m.touched.length<=2097154):
  δ prog 96 #[γ #[a0,a1,a2]] w fun e w'=>∃ b0 b1 b2 jb,e=ε (γ #[b0,b1,b2])/\Zf.E w' [b0,b1,b2] m jb/\ZQ w jb/\Below w w w':=by
 obtain⟨q,f,x⟩:=h;injection f with e0 f;subst e0;injection f with e1 f;subst e1;injection f with e2 f;subst e2;obtain⟨u,v,rfl,-,-⟩:=x.form;have l:=Kf w (χ #[ι κ m.no,σ m.doc,ς u m.touched.length v] 37) (χ #[ι κ 0,σ ⟨#[]⟩,ς ν 0 0] 37) (χ #[] 9);have E:(((w.alloc (χ #[ι κ m.no,σ m.doc,ς u m.touched.length v] 37)).alloc (χ #[ι κ 0,σ ⟨#[]⟩,ς ν 0 0] 37)).alloc (χ #[] 9)).ownsRow (w.heap.size+1+1) 9 1 (ς (η ⟨w.heap.size+1+1,0,ν⟩) 0 0) 0 []:=by
  have:=Fb ((w.alloc (χ #[ι κ m.no,σ m.doc,ς u m.touched.length v] 37)).alloc (χ #[ι κ 0,σ ⟨#[]⟩,ς ν 0 0] 37)) 9 1;simpa using this
 have c2:=(JS l.k0).2.2;have B:=zb (x.below l.bel);have A:=zb E;have d:=zb l;go_in;go_wp2_with (at_builtin;refine zc2 rfl (.tmp 5) (.tmp 7) rfl (ss:=[]) rfl rfl A B (by have:=d.size;omega) so ?_);intro H w' y o;have F:=d.size;obtain⟨I,J,rfl⟩:∃ a c,H=ς a m.touched.length c:=by
  rcases y.2 with ⟨r,p⟩ |⟨g,C,D,r,_⟩
  .exact⟨_,_,by rw[r,show m.touched.length=0 by simpa using p]⟩
  .exact⟨_,_,by simpa using r⟩
 have n:=d.bel.grown o d.bel.size (fun k hk=>by injection hk with hk;simp at hk;omega);have G:=(o.block w om (fun e=>by injection e with e;simp at e<;>omega)).trans d.k0;have s:=(o.block (w.heap.size+1) om (fun e=>by injection e with e;simp at e<;>omega)).trans d.k1;obtain⟨K,L,-⟩:=JS G;obtain⟨N,O,P⟩:=JS s;have M:=yJ s;have j:=zb (zc3 (ss:=m.touched) (by simpa using y));have z:=zb n;have i:=zb s;go_wp2;refine bodyPost_ret (results_cell_row rfl _ _ (w.heap.size+1) 37 #[_,_,_] (0,0) _ rfl (Z3 i [_,_,_] rfl) underlying37 rfl kr) rfl ?_;have p:∀ b∈(Ρ I m.touched.length J).ownBlock.toList,w.heap.size+1+1<=b:=fun b hb=>(uh j).2.2 b hb;refine⟨_,_,_,_,rfl,⟨_,rfl,(uh j).1.putN (fun hm=>by have:=p _ hm;omega) [_,_,_] 0⟩,(uh j).2.mono om,Zd z om [_,_,_] 0⟩
structure CV(w:Wo)(A B:Obj)(wr:Wo)(p:ω)(ws:List zj)(b1:List Nat):Prop where
 bel:Bw w wr
 k0:wr.heap[w.heap.size]?=η A
 k1:wr.heap[w.heap.size+1]?=η B
 ko:wr.heap[w.heap.size+1+1+1]?=η (χ #[p] 25 (0,0))
 o1:zw Zf wr p ws b1
 fs:ZQ (w.heap.size+1+1) b1
section
variable {w:Wo} {A B:Obj} {wr w3:Wo} {p p':ω} {ws:List zj} {b1 b1':List Nat}
theorem CV.below(h:CV w A B wr p ws b1)(hb:Below wr wr w3):CV w A B w3 p ws b1:=by
 have b:=h.bel.size;have a:=(yC.1 h.ko).1;exact⟨zh h.bel hb,(hb.block _ om).trans h.k0,(hb.block _ om).trans h.k1,(hb.block _ a).trans h.ko,h.o1.below hb,h.fs⟩
theorem CV.koW(h:CV w A B wr p ws b1)(hg:wr.grownBy w3 p.ownBlock):w3.heap[w.heap.size+1+1+1]?=η (χ #[p] 25 (0,0)):=
 (hg.block _ (yC.1 h.ko).1 fun e=>YL h.ko (Yr h.o1) dc (h.o1.head e.symm)).trans h.ko
theorem CV.snoc(h:CV w A B wr p ws b1)(hg:wr.grownBy w3 p.ownBlock)(ho:zw Zf w3 p' (ws++[x]) b1')(hF:ZQ (w.heap.size+1+1) b1'):
  CV w A B (w3.setCell ⟨w.heap.size+1+1+1,0,ν⟩ p') p' (ws++[x]) b1':=by
 have i:=(yC.1 h.ko).1;have b:=fun g (hg:p.ownBlock=η g)=>h.o1.head hg;have a:=fun g (hg:p.ownBlock=η g)=>h.fs.2 g (b g hg);have d:=h.koW hg;have f:=YL d (Yr ho) dc;have j:=h.bel.size;refine⟨(h.bel.grown hg j fun k hk=>by have:=a k hk;omega).setCell (p:=⟨w.heap.size+1+1+1,0,ν⟩) so _,?_,?_,heap_setCell_same _ _ 0 _ _ _ d,ho.other f 0 p',hF⟩
 .exact (Β _ _ _ _ so).trans ((hg.block _ om fun e=>by have:=a _ e.symm;omega).trans h.k0)
 .exact (Β _ _ _ _ sm).trans ((hg.block _ om fun e=>by have:=a _ e.symm;omega).trans h.k1)
end
structure zeN(w:Wo)(a b c d:Obj)(w':Wo):Prop where
 bel:Bw w w'
 size:w'.heap.size=w.heap.size+1+1+1+1
 k0:w'.heap[w.heap.size]?=η a
 k1:w'.heap[w.heap.size+1]?=η b
 k2:w'.heap[w.heap.size+1+1]?=η c
 k3:w'.heap[w.heap.size+1+1+1]?=η d
theorem zeO(w:Wo)(a b c d:Obj):zeN w a b c d ((((w.alloc a).alloc b).alloc c).alloc d):=by
 have h:=Kf w a b c;generalize ((w.alloc a).alloc b).alloc c=j at *;have g:=h.size;have i:=yH j d;have f:=zt j d;rw[g]at i;exact⟨zh h.bel f,by simp[g],(f.block _ om).trans h.k0,(f.block _ om).trans h.k1,(f.block _ om).trans h.k2,i⟩
theorem Co(p:ω)(vs:List zj)(d:Nat)(bl:List Nat)(w:Wo)(h:zw Zf w p vs bl)(hs:vs.length<=2097152/\∀ m∈vs,m.touched.length<=2097152)(hd:d<=vs.length):
  δ prog 47 #[γ #[p],ι κ d] w fun e w'=>∃ p' bl',e=ε (γ #[p'])/\zw Zf w' p' (vs.drop d) bl'/\ZQ w bl'/\Below w w w':=by
 obtain⟨xa,xc,rfl,-,hsh⟩:=h.form;have hl:=hs.1;have HZ:Hid (∀ k (hk:k<vs.length),vs[k].touched.length<=2097152):=fun k hk=>hs.2 _ (yt hk);have O1:=zb h;have S:=zb hsh;go_in;go_wp2;have A:=zeO w (χ #[ς xa vs.length xc] 25) (χ #[ς ν 0 0] 25) (χ #[] 37) (χ #[ς (η ⟨w.heap.size+1+1,0,ν⟩) 0 0] 25);generalize (((w.alloc _).alloc _).alloc _).alloc _=wA at *;have O:Hid (CV w (χ #[ς xa vs.length xc] 25 (0,0)) (χ #[ς ν 0 0] 25 (0,0)) wA (ς (η ⟨w.heap.size+1+1,0,ν⟩) 0 0) [] [w.heap.size+1+1]):=
  ⟨A.bel,A.k0,A.k1,A.k3,⟨[],rfl,fun _ _ _ h=>by simp at h,⟨sm,.inr ⟨w.heap.size+1+1,0,#[],rfl,yu _,A.k2,yu _,yu _,sm,sm⟩⟩,rfl⟩,sm,fun b hb=>by simp at hb;omega⟩
 go_loopw [6] (fun i wr=>∃ k:Nat,d<=k/\k<=vs.length/\i=ι κ (k:Int)/\∃ p J,CV w (χ #[ς xa vs.length xc] 25 (0,0)) (χ #[ς ν 0 0] 25 (0,0)) wr p ((vs.drop d).take (k - d)) J) (fun i _=>vs.length - (intOf i).toNat)
 case atStart=>exact⟨d,ye _,hd,rfl,_,_,by rw[Nat.sub_self];exact uh O⟩
 case round=>
  obtain⟨k,hdk,hk,rfl,p,J,a⟩:=hrel;have c00:=Zw a.k0;by_cases v:k<vs.length
  .have F:(vs.drop d).take (k+1 - d)=(vs.drop d).take (k - d)++[vs[k]]:=by
    rw[show k+1 - d=k - d+1 from by omega,List.take_add_one,List.getElem?_drop,show d+(k - d)=k from by omega,yy v];rfl
   have hll:((vs.drop d).take (k - d)).length=k - d:=by rw[ym,yv];omega
   have R:=zb F;obtain⟨pa,pc,rfl,-,-⟩:=a.o1.form;generalize (vs.drop d).take (k - d)=ns at *;have hll':ns.length<=2097152:=om;have D:=a.bel;have z:=Zw a.ko;have fO:=yJ a.ko;obtain⟨g,rfl⟩:=uh S om;obtain⟨M,jb,K,L,-,-,-⟩:=(O1.below D).at (yy v);obtain⟨U,V,W,rfl⟩:∃ U V W,M=[U,V,W]:=by obtain⟨q,hq,_⟩:=K;exact⟨_,_,_,hq⟩
   have c0:wr.cell? ⟨g,k*3,ν⟩=_:=(L 0 _ rfl).1;have c1:wr.cell? ⟨g,k*3+1,ν⟩=_:=(L 1 _ rfl).1;have c2:wr.cell? ⟨g,k*3+2,ν⟩=_:=(L 2 _ rfl).1;have s:Below wr wr wr.drew:=(yI _ _).drew;have HM:=zb (zeM U V W vs[k] jb wr.drew (Zf.keep K (.of_below s (Zf.lt K))) (by have:=uh HZ k v;omega));have o:=zb (a.below s);have hltI:(k:Int)<(vs.length:Int):=om;clear L K D F s a hll;generalize vs[k]=m at *;go_wp2;go_region_law (first
    |(
      refine Sb (e:=Zf) Fc dc underlying23 ON rfl dc dc rfl (.tmp 18) (.tmp 25) rfl rfl O3 P E3 Q N rfl (by exact Fa I [_,_,_] _) y (by have:=l.bel.size;have hq:=(yC.1 l.ko).1;omega) om ?_;intro v' w3 bl' o4 f4 m4 E;obtain⟨va,vc,rfl,-,-⟩:=o4.form;have H:=l.koW E;have cO3:=Zw H;have fO3:=yJ H)
    |(
      go_simp;refine HM.mono ?_;rintro e I ⟨b0,b1',b2',ib,rfl,r,B,X⟩;have Y:=r;obtain⟨q0,f,Z⟩:=Y;injection f with e0 f;injection f with e1 f;injection f with e2 f;subst e0;subst e1;subst e2;obtain⟨za,zc,rfl,-,-⟩:=Z.form;have n:=o.below X;have C:Below I I (I.alloc (χ #[ι κ m.no,σ m.doc,ς za m.touched.length zc] 37)):=zt _ _;have j:=n.below C;have O3:=zb j.o1;have P:=zb j.fs;have E3:=zb (Zf.keep r (.of_below C (Zf.lt r)));have hcw:w.heap.size+1+1+1<wr.heap.size:=(yC.1 o.ko).1;have Q:=zb (B.mono (B':=w.heap.size+1+1) (by show _<=wr.heap.size;omega));have N:Hid (∀ b∈ib,b ∉ J):=fun b hb hbl=>by have h1:wr.heap.size<=b:=B.2 b hb;have h2:b<wr.heap.size:=o.o1.lt b hbl;omega
      have y:Hid (∀ u∈[Value.int .i64 m.no,σ m.doc,ς za m.touched.length zc],u.oneCell'=ξ):=fun u hu=>by simp at hu;rcases hu with rfl | rfl | rfl<;>rfl
      have l:=zb j;have cO2:=Zw n.ko;have cO4:(I.alloc (χ #[ι κ m.no,σ m.doc,ς za m.touched.length zc] 37)).cell? ⟨w.heap.size+1+1+1,0,ν⟩=η (ς pa ns.length pc):=yG j.ko 0))
   all_goals (
    have HN:=zb (l.snoc E o4 f4);rw[yh,yS,← uh R]at HN;go_wp2;go_roundw)
   all_goals first
    | exact⟨k+1,om,om,by go_num,_,_,HN⟩
    |(simp[intOf];omega)
  .obtain rfl:k=vs.length:=by omega
   have e:(vs.drop d).take (vs.length - d)=vs.drop d:=yr (by rw[yv];omega);rw[e]at a;obtain⟨pa,pc,rfl,-,-⟩:=a.o1.form;have z:wr.cell? ⟨w.heap.size+1+1+1,0,ν⟩=η (ς pa (vs.drop d).length pc):=yG a.ko 0;have r0:wr.cell? ⟨w.heap.size+1,0,ν⟩=η (ς ν 0 0):=yG a.k1 0;have fr:=yJ a.k1;have x:=zb a;obtain⟨M,G⟩:∃ M,vs.drop d=M:=⟨_,rfl⟩;rw[G]at x z;have T:=zb G;go_wp2;refine bodyPost_ret (results_cell_row rfl _ _ (w.heap.size+1) 25 #[_] (0,0) _ rfl (Z3 x.k1 [_] rfl) underlying25 rfl kr) rfl ?_;rw[uh T];exact⟨_,J,rfl,x.o1.putN (g:=w.heap.size+1) (fun hm=>by have:=x.fs.2 _ hm;omega) [_] 0,x.fs.mono om,Zd (g:=w.heap.size+1) x.bel om [_] 0⟩
theorem Nr(p:ω)(vs:List zj)(bl:List Nat)(k:Nat)(w:Wo)(h:zw Zf w p vs bl)(hk:k<vs.length)(hl:vs.length=k+1)(h8:vs.length<=8):
  ∃ ta tc,∀ wx,Below w w wx->δ prog 23 #[γ #[p]] wx fun e w'=>e=ε (γ #[ι κ vs[k].no,.string vs[k].doc,ς ta vs[k].touched.length tc])/\Below wx wx w':=by
 obtain⟨v,o,rfl,-,f⟩:=h.form;obtain⟨g,rfl⟩:=f om;obtain⟨u,s,j,b,-⟩:=h.at (yy hk);obtain⟨q,rfl,n⟩:=j;have a:g<w.heap.size:=yK _ _ (b 0 _ rfl).1;obtain⟨ta,tc,rfl,-,-⟩:=n.form;refine⟨ta,tc,fun wx hx=>?_⟩;have i:=YB wx (χ #[ς (η g) vs.length o] 25) (χ #[ι κ 0,σ ⟨#[]⟩,ς ν 0 0] 37);have d:=zh hx i.bel;have c0:=(d.cell (p:=⟨g,k*3,ν⟩) a).trans (b 0 _ rfl).1;have c1:=(d.cell (p:=⟨g,k*3+1,ν⟩) a).trans (b 1 _ rfl).1;have c2:=(d.cell (p:=⟨g,k*3+2,ν⟩) a).trans (b 2 _ rfl).1;have l:(k:Int)<8:=om;generalize vs[k]=m at *;rw[hl]at *;have r:((k+1:Nat):Int) - 1=(k:Int):=om;go_in;go_wp2;go_returns;exact⟨rfl,zh (zt wx _) (zt _ _)⟩
theorem S5(p:ω)(vs:List zj)(bl:List Nat)(k:Nat)(w:Wo)(h:zw Zf w p vs bl)(hk:k<vs.length)(hl:vs.length=k+1)(h8:vs.length<=8):
  δ prog 23 #[γ #[p]] w fun e w'=>∃ ta tc,e=ε (γ #[ι κ vs[k].no,.string vs[k].doc,ς ta vs[k].touched.length tc])/\Below w w w':=by
 obtain⟨ta,tc,H⟩:=Nr p vs bl k w h hk hl h8;exact (H w (yI _ _)).mono fun e w' h=>⟨ta,tc,h⟩
theorem Ns(hs:JN vs)(hm:m∈vs):Vp m.touched:=by
 obtain⟨k,a,rfl⟩:=Δ hm;have:=hs k a;exact⟨this.2.2,this.2.1⟩
theorem zeP  {ops:Array Oper} {rest:List Oper} {o:Oper} {a:Act}  (hg:o.guard=ν) (s x:Operand)
  (ho:o.op= .call {callee:=.builtin .append,args:=#[s,x],argTypes:=#[28,28]}) {v0:ω}    (hs:a.eval s=v0) (h0:zX w B v0 []) (hx:a.eval x=v) (h:zw Qq w v ms bl) (hl:ms.length<=40000000) (hB:B<=w.heap.size)
  (hK:∀ v' w',zX w' B v' ms->w.grownBy w' v0.ownBlock->wpList prog ops Q rest (a.put o.dst v') w'):wpList prog ops Q (o :: rest) a w:=by
 obtain⟨r,q,l,n,p⟩:=info_parts zbg;have b:=Cg h;rcases b.2 with ⟨f,C⟩ |⟨g,i,y,f,_⟩
 .have e:=List.length_eq_zero_iff.1 C;subst e;exact wpList_append_own_none hg s x _ ho B _ r 4 underlying28 q _ _ _ hs h0 (hx.trans f) (hK v0 w h0 (World.grownBy.refl _ _))
 .have k:v.ownBlock=η g:=by rw[f];rfl
  refine wpList_append_own _ hg s x _ ho B _ r _ 4 56 underlying28 q l n p rfl dc v0 0 [] hs h0 g ms.length i (ms.flatMap Jn) (hx.trans f) b.1 (fun j u d=>b.cells k j u d) ?_ mo om hB ?_
  .intro u d;obtain⟨m,-,d⟩:=Χ.1 d;simp only[Jn,Υ,List.not_mem_nil,or_false]at d;rcases d with rfl | rfl | rfl | rfl<;>rfl
  .intro v' w' z A _;exact hK v' w' (by simpa [zX]using z) A
structure Cp(a:Wg):Prop where
 len:a.vs.length<=9
 tch:∀ m∈a.vs,m.touched.length<=1048576
 sz:zbi a.vs<=268435456
 ops:a.pn.ops.length<=1048576
theorem Cp.cnt{a:Wg}(h:Cp a):zbh PZ a.vs<=1000000000:=by
 have b:∀ l:List zj,(l.map PZ).sum<=2*l.length+(l.map PY).sum:=fun l=>by
  induction l with
  | nil=>simp
  | cons m r ih=>
   have:PZ m<=PY m+2:=by unfold PZ PY MI;omega
   simp only[yi,yM,yp];omega
 have f:=b a.vs;have d:=h.sz;unfold zbi at d;unfold zbh;omega
theorem Cq(h:qM vs=ξ):∃ z:Int,0<vs.length/\(∀ j (hj:j<vs.length),vs[j].no=z+j)/\0<=z/\z<=1000000:=by
 obtain⟨d,-,a,b,f⟩:=YJ.1 h;refine⟨vs[0].no,d,fun j hj=>?_,a,b⟩;have:=f j hj;simp only[qc,Α,yD]at this;exact this.1.1
theorem zeQ{p:qa}(h:p.base=m.no):QN vs m p=⟨qF (vs++[⟨m.no+1,p.doc,Zm p.ops⟩]),Jc,2,0,0,m.no+1⟩:=by unfold QN;rw[yg h]
theorem zeR{p:qa}(h:¬ p.base=m.no)(h4:4<p.tries+1):QN vs m p=⟨vs,Jc,4,0,0,0⟩:=by unfold QN;rw[yf h,yg h4]
theorem zeS{p:qa}(h:¬ p.base=m.no)(h4:¬ 4<p.tries+1)(hm:meets vs (Zm p.ops) p.base=ξ):QN vs m p=⟨vs,Jc,3,0,0,0⟩:=by unfold QN;rw[yf h,yf h4,yg hm]
theorem zeT{p:qa}(h:¬ p.base=m.no)(h4:¬ 4<p.tries+1)(hm:meets vs (Zm p.ops) p.base=ζ):QN vs m p=Xf vs m.no (p.tries+1) (ZK m.doc p.ops) p.ops:=by unfold QN;rw[yf h,yf h4,yf (by rw[hm];simp)]
theorem QY(h:¬ b=g)(w:Wo)(i j:Nat)(v:ω):(w.setCell ⟨b,i,ν⟩ v).cell? ⟨g,j,ν⟩=w.cell? ⟨g,j,ν⟩:=by
 have:=Β w ⟨b,i,ν⟩ v g (fun e=>h e.symm);unfold World.cell?;rw[this]
def Da(a:Wg)(w:Wo)(e:Ending)(w':Wo):Prop:=∃ v vo bl,e=ε (τ #[γ #[v],γ #[vo,ι κ a.pn.base,σ a.pn.doc,ι κ a.pn.tries],γ #[ι κ a.kind,ι κ a.code,ι κ a.pos,ι κ a.no]])/\zw Zf w' v a.vs bl/\ZQ w.heap.size bl/\zX w' w.heap.size vo a.pn.ops/\Bw w w'
structure AW(b:Nat)(s o:ω)(p:qa)(w:Wo):Prop where
 k0:w.heap[b]?=η (χ #[s] 25 (0,0))
 k1:w.heap[b+1]?=η (χ #[o,ι κ p.base,σ p.doc,ι κ p.tries] 30 (0,0))
 k2:w.heap[b+1+1]?=η (χ #[ς ν 0 0] 25 (0,0))
 k3:w.heap[b+1+1+1]?=η (χ #[ς ν 0 0,ι κ 0,σ ⟨#[]⟩,ι κ 0] 30 (0,0))
 k4:w.heap[b+1+1+1+1]?=η (χ #[ι κ 0,ι κ 0,ι κ 0,ι κ 0] 32 (0,0))
theorem AW.kp{s:ω}{p:qa}(h:AW b s o p w)(hb:∀ k,b<=k->k<=b+1+1+1+1->w'.heap[k]?=w.heap[k]?):AW b s o p w':=
 ⟨(hb _ om om).trans h.k0,(hb _ om om).trans h.k1,(hb _ om om).trans h.k2,(hb _ om om).trans h.k3,(hb _ om om).trans h.k4⟩
theorem AW.lt{s:ω}{p:qa}(h:AW b s o p w):b+1+1+1+1<w.heap.size:=(yC.1 h.k4).1
theorem AW.next{s:ω}{p:qa}(h:AW b s o p w)(hb:Below w w w'):AW b s o p w':=
 h.kp fun k _ hk=>hb.block k (by have:=h.lt;omega)
theorem AW.new(w:Wo)(s o:ω)(p:qa):AW w s o p (((((w.alloc (χ #[s] 25)).alloc (χ #[o,ι κ p.base,p.doc,ι κ p.tries] 30)).alloc (χ #[ς ν 0 0] 25)).alloc (χ #[ς ν 0 0,ι κ 0,σ ⟨#[]⟩,ι κ 0] 30)).alloc (χ #[ι κ 0,ι κ 0,ι κ 0,ι κ 0] 32))/\Below w w (((((w.alloc (χ #[s] 25)).alloc (χ #[o,ι κ p.base,p.doc,ι κ p.tries] 30)).alloc (χ #[ς ν 0 0] 25)).alloc (χ #[ς ν 0 0,ι κ 0,σ ⟨#[]⟩,ι κ 0] 30)).alloc (χ #[ι κ 0,ι κ 0,ι κ 0,ι κ 0] 32)):=by
 have h:=Kf w (χ #[s] 25) (χ #[o,ι κ p.base,p.doc,ι κ p.tries] 30) (χ #[ς ν 0 0] 25);generalize ((w.alloc _).alloc _).alloc _=f at *;have k:=YB f (χ #[ς ν 0 0,ι κ 0,σ ⟨#[]⟩,ι κ 0] 30) (χ #[ι κ 0,ι κ 0,ι κ 0,ι κ 0] 32);have d:=h.size;have a:=k.k0;have b:=k.k1;rw[d]at a b;exact⟨⟨(k.bel.block _ om).trans h.k0,(k.bel.block _ om).trans h.k1,(k.bel.block _ om).trans h.k2,a,b⟩,zh h.bel k.bel⟩
structure zeU(b:Nat)(w:Wo):Prop where
 c2:w.cell? ⟨b+1+1,0,ν⟩=η (ς ν 0 0)
 c3:Z8 (b+1+1+1) (ς ν 0 0) (ι κ 0) (σ ⟨#[]⟩) (ι κ 0) w
 c4:Z8 (b+1+1+1+1) (ι κ 0) (ι κ 0) (ι κ 0) (ι κ 0) w
 f2:∀ j,w.frozen? ⟨b+1+1,j,ν⟩=ζ
 f3:∀ j,w.frozen? ⟨b+1+1+1,j,ν⟩=ζ
 f4:∀ j,w.frozen? ⟨b+1+1+1+1,j,ν⟩=ζ
theorem AW.ac{s:ω}{p:qa}(h:AW b s o p w):zeU b w:=
 ⟨yG h.k2 0,Z8.of h.k3,Z8.of h.k4,yJ h.k2,yJ h.k3,yJ h.k4⟩
def Gv(w:Wo)(b:Nat)(v y0 y1 y2 y3 z0 z1 z2 z3:ω):Wo:=putN (putN (putN w (b+1+1) 0 [v]) (b+1+1+1) 0 [y0,y1,y2,y3]) (b+1+1+1+1) 0 [z0,z1,z2,z3]
theorem Cr(w:Wo)(b:Nat)(v y0 y1 y2 y3 z0 z1 z2 z3:ω):(Gv w b v y0 y1 y2 y3 z0 z1 z2 z3).drew=Gv w.drew b v y0 y1 y2 y3 z0 z1 z2 z3:=by
 unfold Gv;rw[WP,WP,WP]
theorem Gw  {p q r:Tmp} (h:fn.results=#[.cell p 25,.cell q 30,.cell r 32])    {s:ω} {pd:qa} (hA:AW b s o pd w) {y0 y1 y2 y3 z0 z1 z2 z3:ω}
  (hp:tmps.getD p undef=π (η ⟨b+1+1,0,ν⟩)) (hq:tmps.getD q undef=π (η ⟨b+1+1+1,0,ν⟩)) (hr:tmps.getD r undef=π (η ⟨b+1+1+1+1,0,ν⟩)) (hw:w'=Gv w b v y0 y1 y2 y3 z0 z1 z2 z3):
  (results fn tmps).run prog w'= .ok (.tuple #[γ #[v],γ #[y0,y1,y2,y3],γ #[z0,z1,z2,z3]]) w':=by
 have a:tmps[p]?.getD undef=π (η ⟨b+1+1,0,ν⟩):=by simpa using hp
 have d:tmps[q]?.getD undef=π (η ⟨b+1+1+1,0,ν⟩):=by simpa using hq
 have f:tmps[r]?.getD undef=π (η ⟨b+1+1+1+1,0,ν⟩):=by simpa using hr
 have g:w'.heap[b+1+1]?=η (χ #[v] 25 (0,0)):=by rw[hw,Gv,qi om,qi om,Z3 hA.k2 [v] rfl]
 have i:w'.heap[b+1+1+1]?=η (χ #[y0,y1,y2,y3] 30 (0,0)):=by rw[hw,Gv,qi om];exact Z3 ((qi om _ _).trans hA.k3) [y0,y1,y2,y3] rfl
 have j:w'.heap[b+1+1+1+1]?=η (χ #[z0,z1,z2,z3] 32 (0,0)):=by rw[hw,Gv];exact Z3 ((qi om _ _).trans ((qi om _ _).trans hA.k4)) [z0,z1,z2,z3] rfl
 have k:=run_loadVar_row (P:=prog) w' _ 25 25 _ (0,0) _ g underlying25 rfl kr;have l:=run_loadVar_row (P:=prog) w' _ 30 30 _ (0,0) _ i underlying30 rfl kr;have m:=run_loadVar_row (P:=prog) w' _ 32 32 _ (0,0) _ j underlying32 rfl kr;simp[results,h,a,d,f,asAddr,k,l,m]
theorem Gx{a:Wg}{vo:ω}{N:Nat}(hB:Below w0 w0 w)(hN:w0.heap.size+1+1+1+1<N)(hv:zw Zf w v a.vs bl)(hf:ZQ N bl)(ho:zX w N vo a.pn.ops):
  Da a w0 (ε (τ #[γ #[v],γ #[vo,ι κ a.pn.base,a.pn.doc,ι κ a.pn.tries],γ #[ι κ a.kind,ι κ a.code,ι κ a.pos,ι κ a.no]])) (Gv w w0 v vo (ι κ a.pn.base) a.pn.doc (ι κ a.pn.tries) (ι κ a.kind) (ι κ a.code) (ι κ a.pos) (ι κ a.no)):=
 ⟨v,vo,bl,rfl,((hv.putN (hf.not om) _ 0).putN (hf.not om) _ 0).putN (hf.not om) _ 0,hf.mono om,qH (VH (VH (VH ho om _ 0) om _ 0) om _ 0) om,Zd (Zd (Zd hB om _ 0) om _ 0) om _ 0⟩
theorem zeV(b1 b2 b3 b4 b5:Bool):b1=ζ∨(b1=ξ/\b2=ζ)∨(b1=ξ/\b2=ξ/\b3=ζ)∨(b1=ξ/\b2=ξ/\b3=ξ/\b4=ζ)∨(b1=ξ/\b2=ξ/\b3=ξ/\b4=ξ/\b5=ζ)∨(b1=ξ/\b2=ξ/\b3=ξ/\b4=ξ/\b5=ξ):=by
 cases b1<;>cases b2<;>cases b3<;>cases b4<;>cases b5<;>simp
theorem zeW(s v:ω)(vs:List zj)(p:qa)(bl cl:List Nat)(k:Nat)(w:Wo)(h:zw Zf w s vs bl)(hk:k<vs.length)(hl:vs.length=k+1)(h8:vs.length<=8)(ho:zw Qq w v p.ops cl)(hin:XQ p.ops)(hd:p.doc.size<=1048576):
  δ prog 46 #[γ #[s],γ #[v,ι κ p.base,p.doc,ι κ p.tries]] w fun e w'=>e=ε (θ (Jj vs[k].no p))/\Below w w w':=by
 obtain⟨U,V,B⟩:=Nr s vs bl k w h hk hl h8;obtain⟨C,D,rfl,-,-⟩:=h.form;obtain⟨S,T,rfl,-,-⟩:=ho.form;have i:=zb (YB w (χ #[ς C vs.length D] 25) (χ #[ς S p.ops.length T,ι κ p.base,p.doc,ι κ p.tries] 30));have E:=zb B;have F:=zb ho;have l:=zb hin;have y:Hid (Jj vs[k].no p=(decide (qn p.ops<0) && decide (0<=p.base) && decide (p.base<=vs[k].no) && ZR p.doc && decide (0<=p.tries) && decide (p.tries<=4))):=rfl;clear h ho hin hl h8 B;generalize vs[k]=m at *;generalize Jj m.no p=pk at *;go_in;go_wp2_with fail;generalize (w.alloc _).alloc _=g at *;have n:=zb fun d os=>zh i.bel (below_regrown g d os);have u:=zb fun d os=>Calls.regrown_of (zbn _ p.ops cl _ (F.below (uh n d os)) l);have x:=zb fun d os=>Calls.regrown_of (uh E _ (uh n d os));have j:Hid (∀ d os,δ prog 95 #[p.doc] (Sort.grow (redrawn g d) os) fun e w''=>e=ε (θ (ZR p.doc))/\∃ p:Regrown,w''=Sort.grow (redrawn g p.d) p.os):=fun d os=>Calls.regrown_of (L4 p.doc _ hd);have f:=Z8.of i.k1;have X:∀ d os,(Sort.grow (redrawn g d) os).cell? w.heap.size=η (ς C vs.length D):=fun d os=>cell_regrown (yG i.k0 0) d os;have Y:=fun d os=>cell_regrown f.1 d os;have Z:=fun d os=>cell_regrown f.2.1 d os;have f3:=fun d os=>cell_regrown f.2.2.1 d os;have f4:=fun d os=>cell_regrown f.2.2.2 d os;have R:∀ w':Wo,(Instr.field 37 (γ #[ι κ m.no,m.doc,ς U m.touched.length V]) 0).run prog w'= .ok (ι κ m.no) w':=fun _=>by kernel_rfl
 generalize qn p.ops=z at *;generalize p.ops.length=ol at *;obtain⟨G,M⟩:∃ b,decide (z<0)=b:=⟨_,rfl⟩;obtain⟨H,N⟩:∃ b,decide (0<=p.base)=b:=⟨_,rfl⟩;obtain⟨I,O⟩:∃ b,decide (p.base<=m.no)=b:=⟨_,rfl⟩;obtain⟨J,A⟩:∃ b,ZR p.doc=b:=⟨_,rfl⟩;obtain⟨K,P⟩:∃ b,decide (0<=p.tries)=b:=⟨_,rfl⟩;obtain⟨W,Q⟩:∃ b,decide (p.tries<=4)=b:=⟨_,rfl⟩;rw[M,N,O,A,P,Q]at y;rw[A]at j;have o:=zeV G H I J K;rcases o with rfl |⟨rfl,rfl⟩ |⟨rfl,rfl,rfl⟩ |⟨rfl,rfl,rfl,rfl⟩ |⟨rfl,rfl,rfl,rfl,rfl⟩ |⟨rfl,rfl,rfl,rfl,rfl⟩
 all_goals (
  refine wp_region_quiet_below kr kr ?_
  repeat (first | go_big_quiet_step ((first |(go_at_call 66;exact uh u _ _) |(go_at_call 23;exact uh x _ _) |(go_at_call 95;exact uh j _ _))) | quiet_step ((first |(go_at_call 66;exact uh u _ _) |(go_at_call 23;exact uh x _ _) |(go_at_call 95;exact uh j _ _))))
  refine wpQuiet_nil ?_;intro _ q;obtain⟨⟨L,r⟩,a⟩:=q;subst a;go_wp2;go_ret;exact⟨by rw[uh y];simp,uh n L r⟩)
theorem zeX(h:0<vs.length)(hn:∀ j (hj:j<vs.length),vs[j].no=z+j):(vs.head?.map (·.no)).getD 0=z:=by
 cases vs with
 | nil=>exact absurd h sm
 | cons a r=>
  have:=hn 0 h;simpa using this
theorem zeY(hz:(vs.head?.map (·.no)).getD 0=z)(hb:base+1<z):meets vs tch base=ξ:=by
 unfold meets;rw[hz,yj hb];rfl
theorem zeZ(hi:i<vs.length)(hb:base<vs[i].no)(hc:Qf tch vs[i].touched=ξ):meets vs tch base=ξ:=by
 unfold meets;rw[Bool.or_eq_true];exact .inr (List.any_eq_true.2 ⟨vs[i],yt hi,by rw[yj hb,hc];rfl⟩)
theorem ze0(hz:(vs.head?.map (·.no)).getD 0=z)(hb:z<=base+1)(hc:∀ i (hi:i<vs.length),base<vs[i].no->Qf tch vs[i].touched=ζ):meets vs tch base=ζ:=by
 unfold meets;rw[hz,yk om,Bool.false_or,List.any_eq_false];intro x hx;obtain⟨i,hi,rfl⟩:=Δ hx;by_cases hb:base<vs[i].no
 .rw[hc i hi hb];simp
 .simp[hb]
theorem ze1 (s v:ω) (vs:List zj) (ops:List zk) (base:Int) (bl cl:List Nat) (k:Nat) (w:Wo) (h:zw Zf w s vs bl) (hk:k<vs.length) (hl:vs.length=k+1) (h8:vs.length<=8) (ho:zw Qq w v ops cl)
  (z:Int) (hno:∀ j (hj:j<vs.length),vs[j].no=z+j) (h0:0<=z) (h1:z<=1000000) (hb:0<=base) (hbk:base<=vs[k].no)
  (hT:∀ wx,Below w w wx->δ prog 48 #[v] wx fun e w'=>∃ r,e=ε r/\OT w' wx r (ZN ops)/\Below wx wx w')
  (hC:∀ (wx:Wo) (xa ya:Option Addr) (xb xo xc yb yo yc:Nat) (b:List Bs),Below w w wx->SS wx xa xb xo (Zm ops)->SS wx ya yb yo b->(∃ m∈vs,m.touched=b)->δ prog 101 #[ς xa (Zm ops).length xc,ς ya b.length yc] wx fun e w'=>e=ε (θ (Qf (Zm ops) b))/\Below wx wx w'):
  δ prog 49 #[γ #[s],v,ι κ base] w fun e w'=>e=ε (θ (meets vs (Zm ops) base))/\Below w w w':=by
 obtain⟨ta,tc,hh⟩:=Nr s vs bl k w h hk hl h8;obtain⟨xa,xc,rfl,-,V⟩:=h.form;obtain⟨g,rfl⟩:=V om;obtain⟨oa,oc,rfl,-,-⟩:=ho.form;have hA:=zt w (χ #[ς (η g) vs.length xc] 25);have kA:=yH w (χ #[ς (η g) vs.length xc] 25);have hp:0<vs.length:=om;have HV:Hid (∀ j (hj:j<vs.length) wx,Below w w wx->wx.cell? ⟨g,j*3,ν⟩=η (ι κ (z+j))/\∃ (ya:Option Addr) (yb yc:Nat),wx.cell? ⟨g,j*3+2,ν⟩=η (ς ya vs[j].touched.length yc)/\∀ wy,Below wx wx wy->SS wy ya yb 0 vs[j].touched):=fun j hj wx hx=>by
  obtain⟨ws,ib,hE,D,-⟩:=(h.below hx).at (yy hj);obtain⟨q,rfl,hq⟩:=hE;obtain⟨ya,yb,yc,rfl,ss⟩:=QK.ss hq;have c0:=(D 0 _ rfl).1;rw[hno j hj]at c0;exact⟨c0,ya,yb,yc,(D 2 _ rfl).1,fun wy hy=>ss.below hy⟩
 have HT:=zb hT;have HC:=zb hC;have HH:=zb hh;have o:=zb hno;have HP:=zb hp;have U:(Zm ops).length=(ZN ops).length:=by unfold Zm;simp
 have HTL:=zb U;have HM:=zb (hno k hk);have hk8:k<=7:=om;rw[hno k hk]at hbk;have Z:=zb hl;have L:=zb (zeX hp hno);generalize hm:vs[k]=m at *;rw[uh HM]at HH;clear h ho hT hC hh hno hl h8 U hm V hp;have hfl:∀ w':Wo,(Instr.field 37 (γ #[ι κ (z+(k:Int)),m.doc,ς ta m.touched.length tc]) 0).run prog w'= .ok (ι κ (z+(k:Int))) w':=fun _=>by kernel_rfl
 go_in;go_wp2;generalize w.alloc _=wA at *;have E:=zb hA;have B:Hid (∀ wx,Below wA wA wx->wx.cell? w.heap.size=η (ς (η g) vs.length xc)):=fun wx hx=>yG ((hx.block w (yC.1 kA).1).trans kA) 0;clear hA kA;go_loopw [7] (fun nv wr=>∃ no:Int,nv=ι κ no/\base<no/\no<=2000000/\(no=base+1∨z<=base+1)/\(∀ i (P:i<vs.length),base<vs[i].no->vs[i].no<no->Qf (Zm ops) vs[i].touched=ζ)/\Below wA wA wr) (fun nv _=>(z+(k:Int)+1 - intOf nv).toNat)
 case atStart=>exact⟨base+1,rfl,om,om,.inl rfl,fun i P h1 h2=>om,yI _ _⟩
 case round=>
  obtain⟨no,rfl,hn1,hn2,T,N,y⟩:=hrel;have cB:=uh B wr y;have u:=zb T;have A:=zb N;have HBW:=zb y;have G:=zb (uh HH wr (zh E y));clear T N y;go_wp2_with fail;go_call G as e w1 ⟨rfl,b1⟩;have x:=zh HBW b1;have M:=uh B w1 x;have d:=zb x;have c0:=(uh HV 0 HP w1 (zh E x)).1;rw[Nat.zero_mul]at c0;clear G b1 x cB;have Q:(vs.length:Int)=(k:Int)+1:=by have:=uh Z;omega
  by_cases hle:no<=z+(k:Int)
  .by_cases R:no<z
   .have HX:Hid (meets vs (Zm ops) base=ξ):=by
     refine zeY L ?_;have h2:=uh u;omega
    have hdB:decide (no - z<0)=ξ:=yj om;clear Q;go_wp2_with fail;go_quiet (fail);go_wp2;go_ret;exact⟨by rw[uh HX];rfl,zh E (zh d (GQ w1 nq))⟩
   .obtain⟨i,P⟩:∃ i:Nat,no - z=(i:Int):=⟨(no - z).toNat,om⟩;have hzb:z<=base+1:=by have:=uh u;omega
    have l:i<vs.length:=by have:=uh Z;omega
    have S:vs[i].no=no:=by have:=uh o i l;omega
    have hiI:(i:Int)<(vs.length:Int):=om;have hiB:decide ((i:Int)<0)=ζ:=yk om;have H:Hid (∃ m∈vs,m.touched=vs[i].touched):=⟨vs[i],yt l,rfl⟩;have K:=zb fun (D:Qf (Zm ops) vs[i].touched=ξ)=>zeZ l (by rw[S];omega) D;have I:Hid (Qf (Zm ops) vs[i].touched=ζ->∀ j (hj:j<vs.length),base<vs[j].no->vs[j].no<no+1->Qf (Zm ops) vs[j].touched=ζ):=fun D j hj h1 h2=>by
     by_cases e:j=i
     .subst e;exact D
     .refine uh A j hj h1 ?_;have:=uh o j hj;omega
    have O:Below w1 w1 w1.drew:=(yI _ _).drew;have n:=zb (zh E d);obtain⟨-,ya,yb,yc,cT,W⟩:=uh HV i l w1 n;have cTd:w1.drew.cell? ⟨g,i*3+2,ν⟩=_:=cT;have cBd:w1.drew.cell? w.heap.size=_:=M;have J:=zb (uh HT w1.drew (zh n O));have HSS:=zb W;generalize vs[i].touched=ti at *;clear Q R S l O W HV HH HM o Z A u HT
    cases hcb:Qf (Zm ops) ti
    all_goals (
     go_wp2_with fail;go_region_law (first
      |(go_simp;go_call f as e w3 ⟨rfl,b3⟩)
      |(
        go_simp;refine J.mono ?_;rintro e Y ⟨r2,rfl,o2,C⟩;obtain⟨ra,rg,rc,rfl,X,-⟩:=OT.all o2;have a:Below w1 w1 Y:=⟨C.os,C.tape,C.output,C.size,C.block⟩;have d0:Y.cell? w.heap.size=_:=uh B Y (zh d a);have d2:=(a.cell (p:=⟨g,i*3+2,ν⟩) (yK _ _ cT)).trans cT;have f:=zb (uh HC Y ra ya rg 0 rc yb 0 yc ti (zh n a) X (uh HSS Y a) H);rw[uh HTL]at f;clear o2 C X)))
    all_goals (
     have F:=zb (zh a b3);clear a b3 f d0 d2 cT cTd cBd M c0 J)
    all_goals first
     |(
       have HR:=zb (uh K hcb);go_wp2;go_ret;exact⟨by rw[uh HR];rfl,zh n F⟩)
     |(
       have HR:=zb (uh I hcb);go_wp2;refine⟨⟨no+1,rfl,om,om,.inr hzb,HR,zh d F⟩,?_⟩;simp only[intOf];omega)
  .have HX:Hid (meets vs (Zm ops) base=ζ):=by
    refine ze0 L ?_ fun i P hbi=>uh A i P hbi ?_
    .have h2:=uh u;omega
    .have h1:=uh o i P;have h2:=uh Z;omega
   go_wp2;go_ret;exact⟨by rw[uh HX];rfl,zh E d⟩
theorem Cs{xa:Option Addr}{xb xo:Nat}(h:SS w xa xb xo ss):SS w xa xb xo (ss.take n):=by
 refine⟨fun h0=>h.ad (by rw[ym]at h0;omega),fun j hj=>?_⟩;rw[ym]at hj;rw[h.cell j om];congr 2;simp only[Μ];rw[List.getElem?_take_of_lt om]
theorem ze2(xa:Option Addr)(xb xc:Nat)(r:List (List UInt8))(t:List UInt8)(w:Wo)(h:SS w xa xb 0 ((r++[t]).map zG))(hm:r.length+1+JQ (r++[t])<=1048576):
  (δ prog 98 #[ς xa r.length xc] w fun e w'=>e=ε (σ (ze (qm r)))/\Below w w w') /\
  (δ prog 98 #[ς xa (r.length+1) xc] w fun e w'=>e=ε (σ (ze (qm (r++[t]))))/\Below w w w'):=by
 rw[F7]at hm;constructor
 .have a:=Cs (n:=r.length) h;rw[← List.map_take,List.take_left]at a;have:=Us xa xb 0 xc (r.map zG) w a (by rw[F8,yl];omega);rw[yl,Ug]at this;exact this
 .have:=Us xa xb 0 xc ((r++[t]).map zG) w h (by rw[F8,yl,F7,yh];simp;omega);rw[yl,Ug,yh]at this;exact this
theorem Nt(v:ω)(ts:List (List UInt8))(w:Wo)(h:OT w B v ts)(hm:ts.length+JQ ts<=1048576):
  δ prog 99 #[v] w fun e w'=>e=ε (σ (ze (qm (QC ts))))/\Below w w w':=by
 obtain⟨a,g,l,rfl,G,-⟩:=h.shape;rcases Θ ts with rfl |⟨r,t,rfl⟩
 .go_in;go_wp2;go_ret;exact⟨rfl,yI _ _⟩
 .rw[Ι]at *;rw[yh,yS]at hm;obtain⟨s,rfl⟩:∃ s:Bs,t=s.data.toList:=⟨ze t,by simp[ze]⟩;have N:Hid (∀ wx,Below w w wx->_):=fun wx hx=>ze2 a g l r s.data.toList wx (G.below hx) hm;obtain rfl:=G.ad sm;have c0:=G.cell r.length sm;rw[show ((r++[s.data.toList]).map zG).getD r.length ByteArray.empty=s by simp[Μ,zG],Nat.zero_add]at c0;have K:(r++[s.data.toList]).length=r.length+1:=sm;have S:r.length<=l:=by
   rcases h.2 with ⟨x,P⟩ |⟨Y,H,O,x,_,_,Q,_⟩
   .simp at P
   .injection x with _ _ x;rw[x];rw[K]at Q;omega
  have I:(r.length:Int)<=(l:Int):=om;rw[K];have T:r.length<=1048576:=om;have U:s.size<=1048576:=by rw[F7,Zo]at hm;omega
  have j:Hid (Y3 s.data.toList=ξ->QC (r++[s.data.toList])=r):=Nk;have o:Hid (Y3 s.data.toList=ζ->QC (r++[s.data.toList])=r++[s.data.toList]):=Nl;have A:Hid ((!s.toList.isEmpty)=(s.data.toList !=[])):=by show _=_;rw[Ζ];cases s.data.toList<;>rfl
  generalize hR:r.length=n at *;generalize QC (r++[s.data.toList])=Z at *;have M:Hid (∀ (k:Nat) (J:k<s.size) (w:Wo),δ prog 156 #[.int .u8 (s[k].toNat:Int)] w (Rk (θ (zS s[k].toNat)) w)):=fun k J w=>D5 s[k].toNat w;go_in;go_wp2;go_loopw [5,6] (fun d i wr=>∃ k:Nat,k<=s.size/\i=ι κ k/\d=θ (s.data.toList !=[] && (s.data.toList.take k).all fun c=>zS c.toNat)/\Below w w wr) (fun _ i _=>s.size - (intOf i).toNat)
  case atStart=>exact⟨0,yu _,rfl,by simpa using uh A,yI _ _⟩
  case round=>
   obtain⟨k,J,rfl,rfl,D⟩:=hrel;by_cases q:k<s.size
   .have L:(k:Int)<(s.size:Int):=om;have u:=Kh s k q;have y:=zb (uh M k q);have m:=zb D
    cases hdg:(s.data.toList !=[] && (s.data.toList.take k).all fun c=>zS c.toNat)with
    | true=>
     have f:Hid ((s.data.toList !=[] && (s.data.toList.take (k+1)).all fun c=>zS c.toNat)=zS s[k].toNat):=by
      show _=_
      rw[u,List.all_append,← Bool.and_assoc,hdg];simp
     generalize zS s[k].toNat=z at *;go_wp2_with fail;go_call uh y _ as e w2 ⟨rfl,rfl⟩;go_wp2;go_roundw
     case rel=>exact⟨k+1,om,by go_num,by rw[uh f],m⟩
     case measure=>simp[intOf];omega
    | false=>
     have f:Hid ((s.data.toList !=[] && (s.data.toList.take (k+1)).all fun c=>zS c.toNat)=ζ):=by
      show _=_
      rw[u,List.all_append,← Bool.and_assoc,hdg];simp
     go_wp2;go_roundw
     case rel=>exact⟨k+1,om,by go_num,by rw[uh f],m⟩
     case measure=>simp[intOf];omega
   .have E:k=s.size:=om;subst E;rw[Ol];have m:=zb D;obtain⟨W,X⟩:=uh N wr D;have p:=zb W;have C:=zb X;have F:Y3 s.data.toList=((s.data.toList !=[] && s.data.toList.all fun c=>zS c.toNat) || s.data.toList ==[45]):=rfl;have R:(s.toList ==[45])=(s.data.toList ==[45]):=by rw[Ζ]
    rw[F]at j o;generalize (s.data.toList !=[] && s.data.toList.all fun c=>zS c.toNat)=dg at *;generalize (s.data.toList ==[45])=V at *
    cases dg with
    | true=>
     obtain rfl:=uh j rfl;go_wp2_with fail;go_call p as e w2 ⟨rfl,b2⟩;have b:=zb (zh m b2);go_wp2;go_ret;exact⟨rfl,b⟩
    | false=>
     cases V with
     | true=>
      obtain rfl:=uh j rfl;go_wp2_with fail;go_call p as e w2 ⟨rfl,b2⟩;have b:=zb (zh m b2);go_wp2;go_ret;exact⟨rfl,b⟩
     | false=>
      obtain rfl:=uh o rfl;go_wp2_with fail;go_call C as e w2 ⟨rfl,b2⟩;have b:=zb (zh m b2);go_wp2;go_ret;exact⟨rfl,b⟩
theorem ze3(v:ω)(ms:List zk)(bl:List Nat)(w:Wo)(h:zw Qq w v ms bl)(hs:YT ms):
  δ prog 48 #[v] w fun e w'=>∃ r,e=ε r/\OT w' w r (ZN ms)/\Below w w w':=by
 have hin:=hs.1;obtain⟨xa,xc,rfl,-,hxa⟩:=h.form;have hln:=hs.2;have H:=zb h;have HXA:=zb hxa;have HIN:=zb hin;have U:Hid (OT (w.alloc (χ #[] 9)) w (ς (η w) 0 0) []):=World.ownsRow_lit w #[] 0 (ye _) mo rfl;have P:Hid (Below w w (w.alloc (χ #[] 9))):=(yI _ _).alloc (ye _) _;by_cases F:100<ms.length
 .have t100:(100:Int)<(ms.length:Int):=om;have HZ:Hid (ZN ms=[]):=by show _=_;unfold ZN;rw[yg F]
  go_in;go_wp2;go_ret;exact⟨_,rfl,by rw[uh HZ];exact uh U,P⟩
 .have t100:¬ (100:Int)<(ms.length:Int):=om;have HZ:Hid (ZN ms=Qj (Jy ms)):=by show _=_;unfold ZN;rw[yf F]
  go_in;go_wp2;go_loopw [3,4] (fun lv i wr=>∃ k:Nat,k<=ms.length/\i=ι κ k/\OT wr w lv (Jy (ms.take k))/\Below w w wr) (fun _ i _=>ms.length - (intOf i).toNat)
  case atStart=>exact⟨0,yu _,rfl,U,P⟩
  case round=>
   obtain⟨k,hk,rfl,ho,z⟩:=hrel;have hal:(Jy (ms.take k)).length<=1000:=by
    have:=Fv (ms.take k);rw[ym]at this;omega
   have n:=zb ho;have G:=zb z;have hbz:=z.size;by_cases L:k<ms.length
   .have K:Hid (Jy (ms.take (k+1))=Jy (ms.take k)++Jr ms[k]):=Cc L;obtain⟨g,rfl⟩:=uh HXA om;obtain⟨cs,ib,hE,hc,-⟩:=(H.below z).at (yy L);obtain⟨rfl,-⟩:=hE;obtain⟨i1,i2,i3⟩:=uh HIN ms[k] (yt L);have c0:wr.cell? ⟨g,k*4,ν⟩=η (ι κ ms[k].kind):=(hc 0 _ rfl).1;have c1:wr.cell? ⟨g,k*4+1,ν⟩=η (.string ms[k].path):=(hc 1 _ rfl).1;have c2:wr.cell? ⟨g,k*4+2,ν⟩=η (.string ms[k].src):=(hc 2 _ rfl).1;have c3:wr.cell? ⟨g,k*4+3,ν⟩=η (.string ms[k].val):=(hc 3 _ rfl).1;generalize ms[k]=m at *;generalize Jy (ms.take k)=A at *;have hA:=zt wr (χ #[ι κ m.kind,m.path,m.src,m.val] 82);have kA:=yH wr (χ #[ι κ m.kind,m.path,m.src,m.val] 82);have zA:(wr.alloc (χ #[ι κ m.kind,m.path,m.src,m.val] 82)).heap.size=wr.heap.size+1:=sm;have HOK:=zb (XP m (wr.alloc (χ #[ι κ m.kind,m.path,m.src,m.val] 82)) i1 i2 i3);have HA:=zb hA;have HKA:=zb kA;have Z:=zb zA;go_wp2_with fail;generalize (wr.alloc (χ #[ι κ m.kind,m.path,m.src,m.val] 82))=wA at *;go_call HOK as e w2 ⟨rfl,b2⟩;have b02:=zh HA b2;have k2:=(b2.block wr (by have:=uh Z;omega)).trans HKA;have X:Hid (wr.heap.size<w2.heap.size):=by show _<_;have:=uh Z;have:=b2.size;omega
    have q:=zb b02;have HK2:=zb k2;have d1:w2.cell? ⟨wr,1,ν⟩=η m.path:=yG k2 1
    cases hok:ZD m with
    | false=>
     have HT:Hid (Jr m=[]):=by show _=_;unfold Jr;rw[hok];rfl
     have HBN:=zb (zh G q);have HON:=zb (Zh n q);go_wp2;go_roundw
     case rel=>exact⟨k+1,om,by go_num,by rw[uh K,uh HT,yT];exact uh HON,HBN⟩
     case measure=>simp[intOf];omega
    | true=>
     obtain⟨q1,q6,qp,qs,-,-,-⟩:=SW hok;have D:Hid (Jr m=VI m):=by show _=_;unfold Jr;rw[hok];rfl
     have lp:=Nm qp;have ls:=Nm qs;have lps:=Ca (ZH m.path);have lss:=Ca (ZH m.src);have o:Hid ((ZH m.path).length+JQ (ZH m.path)<=1048576/\(ZH m.src).length+JQ (ZH m.src)<=1048576):=⟨om,om⟩;have V:=zb (WE m.path w2 i1);have l:Hid (∀ wx,δ prog 97 #[m.src] wx fun e w'=>∃ v,e=ε (τ #[v,θ (zH m.src.data.toList).isSome])/\OT w' wx v (ZH m.src)/\Below wx wx w'):=fun wx=>WE m.src wx i2;rw[qp]at V;rw[qs]at l;go_wp2_with fail;go_call V as e w3 ⟨pv,rfl,op3,b3⟩;have k3:=(b3.block wr X).trans HK2;have d2:w3.cell? ⟨wr,2,ν⟩=η m.src:=yG k3 2;have HB3:=zb (zh q b3);have ZG:Hid (wr.heap.size<w3.heap.size):=yF X b3.size;have HO3:Hid (OT w3 w2 pv (ZH m.path)):=op3;have HK3:=zb k3;have W:=zb (uh l w3);go_wp2_with fail;go_call W as e w4 ⟨fv,rfl,of4,b4⟩;have k4:=(b4.block wr ZG).trans HK3;have e0:w4.cell? wr.heap.size=η (ι κ m.kind):=yG k4 0;have Q:=zb (zh HB3 b4);have Y:Hid (wr.heap.size<w4.heap.size):=yF ZG b4.size;have l:=zb (Zh HO3 b4);have HF4:Hid (OT w4 w3 fv (ZH m.src)):=of4;have HK4:=zb k4;obtain⟨f,a,d,val⟩:=m;simp only at q1 q6 e0;have hkk:f=1∨f=2∨f=3∨f=4∨f=5∨f=6:=om;rcases hkk with rfl | rfl | rfl | rfl | rfl | rfl
     all_goals
      first
       |(
         have x:Hid (Jr ⟨_,a,d,val⟩=[qm (QC (ZH a))]):=uh D;have O:=zb (Nt pv _ w4 l (uh o).1);generalize qm (QC (ZH a))=C at *)
       |(
         have x:Hid (Jr ⟨_,a,d,val⟩=[qm (ZH a)]):=uh D;have O:=zb (zbf pv _ w4 l (uh o).1);generalize qm (ZH a)=C at *)
       |(
         have x:Hid (Jr ⟨_,a,d,val⟩=[qm (QC (ZH a)),qm (QC (ZH d))]):=uh D;have O:=zb (Nt pv _ w4 l (uh o).1);have S:=zb fun wx (h:OT wx w3 fv (ZH d))=>Nt fv _ wx h (uh o).2;generalize qm (QC (ZH a))=C,qm (QC (ZH d))=N at *)
       |(
         have x:Hid (Jr ⟨_,a,d,val⟩=[qm (QC (ZH a)),qm (ZH d)]):=uh D;have O:=zb (Nt pv _ w4 l (uh o).1);have S:=zb fun wx (h:OT wx w3 fv (ZH d))=>zbf fv _ wx h (uh o).2;generalize qm (QC (ZH a))=C,qm (ZH d)=N at *)
      go_wp2_with fail;go_call O as e w5 ⟨rfl,b5⟩;have hC:=zt w5 (χ #[(ze C)] 9);have y:=zh b5 hC;have cC:(w5.alloc (χ #[(ze C)] 9)).cell? w5.heap.size=η (ze C):=yG (yH w5 (χ #[(ze C)] 9)) 0;have s:=zb cC;have u:=zb (Zh n (zh Q y));have j:=zb (zh Q y);have HKC:=zb ((y.block wr Y).trans HK4);have I:=zb (Zh HF4 y);have HSC:Hid (w4.heap.size<=(w5.alloc (χ #[(ze C)] 9)).heap.size):=y.size;have HS5:Hid (w4.heap.size<=w5.heap.size):=b5.size;go_wp2_with (at_builtin;first | refine OD rfl (.tmp 53) (.tmp 56) rfl (B:=w.heap.size) rfl u rfl s (by have h1:=j.size;omega) om ?_ | refine OD rfl (.tmp 48) (.tmp 51) rfl (B:=w.heap.size) rfl u rfl s (by have h1:=j.size;omega) om ?_);generalize (w5.alloc (χ #[(ze C)] 9))=wC at *;intro l6 w6 o6 g6 wh6;have M:∀ b,wr.heap.size<=b->¬ η b=u3.ownBlock:=fun b z e=>by have h1:=(n.lt b e.symm).2;omega
      have hzC:=uh HSC;have hz4:=uh Y;have k6:=(g6.block wr om (M _ (ye _))).trans HKC;have R:=zb ((zh G j).grown g6 (by have:=j.size;omega) (fun b z=>(n.lt b z).1));have e6:w6.cell? wr.heap.size=η (ι κ _):=yG k6 0;have J:=zb o6
      first
       |(
        have HC7:=zb (uh S w6 (zcg I (fun b z=>g6.block b (I.lt b z).2 (M b (by have h1:=(I.lt b z).1;have h2:=uh ZG;omega)))));have T:Hid (¬ η wr.heap.size=l6.ownBlock):=fun e=>by
         rcases wh6 with h | h
         .exact M _ (ye _) (e.trans h)
         .rw[h]at e;injection e with e;have:=uh HS5;omega
        have HK6:=zb k6;go_wp2_with fail;go_call HC7 as e w7 ⟨rfl,b7⟩;have hC:=zt w7 (χ #[(ze N)] 9);have E:=zh b7 hC;have cC:(w7.alloc (χ #[(ze N)] 9)).cell? w7.heap.size=η (ze N):=yG (yH w7 (χ #[(ze N)] 9)) 0;have s:=zb cC;have u:=zb (Zh J E);have j:=zb (zh R E);have e7:=(b7.cell (p:=wr.heap.size) (yK _ _ e6)).trans e6;have HKD:=zb ((E.block wr (yK _ _ e6)).trans HK6);have HSD:Hid (wr.heap.size<(w7.alloc (χ #[(ze N)] 9)).heap.size):=yF (yK _ _ e6) E.size;have hl6:(A++[C]).length<=1000000:=by rw[yh,yS];omega
        go_wp2_with (at_builtin;first | refine OD rfl (.tmp 61) (.tmp 64) rfl (B:=w.heap.size) rfl u rfl s (by have h1:=j.size;omega) hl6 ?_ | refine OD rfl (.tmp 69) (.tmp 72) rfl (B:=w.heap.size) rfl u rfl s (by have h1:=j.size;omega) hl6 ?_);generalize (w7.alloc (χ #[(ze N)] 9))=wD at *;intro l8 w8 o8 g8 wh8;have HB8:=zb (j.grown g8 (by have:=j.size;omega) (fun b z=>(J.lt b z).1));have HO8:=zb o8;have k8:=(g8.block wr HSD T).trans HKD;have e8:w8.cell? wr.heap.size=η (ι κ _):=yG k8 0;go_wp2;go_roundw
        case rel=>exact⟨k+1,om,by go_num,by rw[uh K,uh x];exact uh HO8,HB8⟩
        case measure=>simp[intOf];omega)
       |(
        go_wp2;go_roundw
        case rel=>exact⟨k+1,om,by go_num,by rw[uh K,uh x];exact uh J,R⟩
        case measure=>simp[intOf];omega)
   .have hkn:k=ms.length:=om;subst hkn;rw[List.take_length]at n hal;have O:=zb (zaE _ _ wr n om);go_wp2_with fail;go_call O as e w2 ⟨r,rfl,o2,b2⟩;have HO2:=zb (qH o2 hbz);have q:=zb (zh G b2);go_wp2;go_ret;exact⟨r,rfl,by rw[uh HZ];exact uh HO2,q⟩
def VB(g:Nat)(m:zj)(q:ω)(w:Wo):Prop:=w.heap[g]?=η (χ #[ι κ m.no,σ m.doc,q] 37 (0,0))
theorem VB.next{q:ω}(h:VB g m q w)(hb:Below w w w'):VB g m q w':=(hb.block g (yC.1 h).1).trans h
theorem ze4(s o:ω)(vs:List zj)(p:qa)(bl cl:List Nat)(w:Wo)(h:zw Zf w s vs bl)(ho:zw Qq w o p.ops cl)(hs:JN vs)(hz:YT p.ops)(hd:p.doc.size<=1048576):
  δ prog 16 #[γ #[s],γ #[o,ι κ p.base,σ p.doc,ι κ p.tries]] w (Da (Ya vs p) w):=by
 obtain⟨xa,xc,rfl,-,-⟩:=h.form;obtain⟨oa,oc,rfl,-,-⟩:=ho.form;have hA:=AW.new w (ς xa vs.length xc) (ς oa p.ops.length oc) p;have HS:=zb (BL _ vs bl _ (h.below hA.2) hs);have HH:=zb h;have HO:=zb ho;have HSZ:=zb hs;have HZ:=zb hz;have HD:=zb hd;clear h ho hs hz hd;go_in;go_wp2_with fail;generalize ((((w.alloc _).alloc _).alloc _).alloc _).alloc _=wA at *;obtain⟨hA1,hA2⟩:=hA;go_call uh HS as e w1 ⟨rfl,b1⟩;have HA1:=zb (hA1.next b1);have HB1:=zb (zh hA2 b1);clear HS b1 hA1 hA2
 cases hok:qM vs with
 | false=>
  have HX:=zb (Cf (p:=p) hok);obtain⟨c2,⟨p0,p1,p2,p3⟩,⟨v0,v1,v2,v3⟩,f2,f3,f4⟩:=HA1.ac;clear hok;go_wp2;refine bodyPost_ret (Gw rfl (uh HA1) rfl rfl rfl rfl) rfl ?_;rw[uh HX];exact Gx (a:=VJ) (uh HB1) (Nat.lt_succ_self _) (zw.nil _ _) (ZQ.nil _) (JY _ _)
 | true=>
  obtain⟨k,X,r,hl,h8,hrv⟩:=Gu hok;have hX:=SY (p:=p) hok hrv;obtain⟨z,hp,hnos,hn0,hn1⟩:=Cq hok;have hsv:=uh HSZ;have hin:=(uh HZ).1;have HPO:Hid (δ _ _ _ w1 _):=zeW _ _ vs p bl cl k w1 (HH.below (uh HB1)) X hl h8 (HO.below (uh HB1)) hin (uh HD);have HHD:=zb (Nr _ vs bl k w (uh HH) X hl h8);have HDZ:=zb ((hsv k X).1);have HCP:Hid (∀ wx,Below w w wx->δ prog 47 #[γ #[ς xa vs.length xc],ι κ 0] wx fun e w'=>∃ p' bl',e=ε (γ #[p'])/\zw Zf w' p' vs bl'/\ZQ wx bl'/\Below wx wx w'):=fun wx hx=>Co _ vs 0 bl wx (HH.below hx) ⟨by omega,fun m hm=>by have:=(Ns hsv hm).1;omega⟩ (yu _);have HTC:=zb fun wx (hx:Below w w wx)=>ze3 _ p.ops cl wx (HO.below hx) (uh HZ);have HME:Hid (0<=p.base->p.base<=vs[k].no->∀ wx,Below w w wx->δ prog 49 #[γ #[ς xa vs.length xc],ς oa p.ops.length oc,ι κ p.base] wx fun e w'=>e=ε (θ (meets vs (Zm p.ops) p.base))/\Below wx wx w'):=fun hb0 hbk wx hx=>ze1 _ _ vs p.ops p.base bl cl k wx (HH.below hx) X hl h8 (HO.below hx) z hnos hn0 hn1 hb0 hbk
   (fun wy hy=>uh HTC wy (zh hx hy)) (fun wy xa ya xb xo xc yb yo yc b hy h1 h2 hm=>zks _ _ _ _ _ _ _ _ _ b wy h1 h2 (Nn hin) (by obtain⟨m,hm,rfl⟩:=hm;exact Ns hsv hm))
  have HAP:=zb fun wx (hx:Below w w wx)=>TU vs[k].doc _ p.ops cl wx (HO.below hx) hin (uh HDZ);have HK8:=zb h8;have HNK:Hid (0<=vs[k].no/\vs[k].no<=2000000):=by have:=hnos k X;exact⟨by omega,by omega⟩
  have HVZ:Hid (∀ m∈vs,m.touched.length<=1048576):=fun m hm=>(Ns hsv hm).1;generalize vs[k]=m at *;have HX:=zb hX;clear hX hok hl hrv hsv hin X hp hnos hn0 hn1 h8;obtain⟨x0,⟨q0,q1,q2,q3⟩⟩:w1.cell? ⟨w,0,ν⟩=η (ς xa vs.length xc)/\Z8 (w.heap.size+1) (ς oa p.ops.length oc) (ι κ p.base) (σ p.doc) (ι κ p.tries) w1:=⟨yG HA1.k0 0,Z8.of HA1.k1⟩;go_wp2_with fail;go_call uh HPO as e w2 ⟨rfl,b2⟩;have HA2:=zb (HA1.next b2);have HB2:=zb (zh (uh HB1) b2);clear HPO b2 x0 q0 q1 q2 q3 HA1 HB1
  cases hpk:Jj m.no p with
  | false=>
   have HY:Hid (Ya vs p=VJ):=by show _=_;rw[uh HX,hpk];rfl
   obtain⟨c2,⟨p0,p1,p2,p3⟩,⟨v0,v1,v2,v3⟩,f2,f3,f4⟩:=HA2.ac;clear hpk;go_wp2;refine bodyPost_ret (Gw rfl (uh HA2) rfl rfl rfl rfl) rfl ?_;rw[uh HY];exact Gx (a:=VJ) (uh HB2) (Nat.lt_succ_self _) (zw.nil _ _) (ZQ.nil _) (JY _ _)
  | true=>
   have HY:Hid (Ya vs p=QN vs m p):=by show _=_;rw[uh HX,hpk];rfl
   have HPK:Hid (0<=p.base/\p.base<=m.no/\0<=p.tries/\p.tries<=4):=by
    simp only[Jj,Α,decide_eq_true_eq]at hpk;exact⟨hpk.1.1.1.1.2,hpk.1.1.1.2,hpk.1.2,hpk.2⟩
   obtain⟨ta,tc,hhd⟩:=uh HHD;have HH2:=zb (hhd w2 (uh HB2));have x0:=Zw HA2.k0;clear hpk HX HHD hhd;go_wp2_with fail;go_call uh HH2 as e w3 ⟨rfl,b3⟩;have R:=zt w3 (χ #[ι κ m.no,σ m.doc,ς ta m.touched.length tc] 37);have HV4:Hid (VB w3 m (ς ta m.touched.length tc) _):=yH w3 (χ #[ι κ m.no,σ m.doc,ς ta m.touched.length tc] 37);have Y:=zb (HA2.next (zh b3 R));have HB4:=zb (zh (uh HB2) (zh b3 R));have hgV:=(HA2.next b3).lt;have J:=zb hgV;clear HH2 b3 R x0 HA2 HB2 hgV;have x0:=Zw Y.k0;have q1:=(YD Y.k1).2.1;have HC4:=zb (uh HCP _ (uh HB4));by_cases hbn:p.base=m.no
   .have tq:(p.base ==m.no)=ξ:=by simp[hbn]
    have F:=zb (zeQ (vs:=vs) hbn);rw[← uh HY]at F;clear hbn HME HAP HCP HY;go_wp2_with fail;generalize w3.alloc _=w4 at *;generalize w3.heap.size=C at *;go_call uh HC4 as e w5 ⟨p5,bl5,rfl,o5,f5,b5⟩;obtain⟨pa,pc,rfl,-,-⟩:=o5.form;have R:=zt w5 (χ #[ς pa vs.length pc] 25);have kU:=yH w5 (χ #[ς pa vs.length pc] 25);have zU:(w5.alloc (χ #[ς pa vs.length pc] 25)).heap.size=w5.heap.size+1:=by simp
    have Q:=zh b5 R;have D:=zb (Y.next Q);have T:=zb (zh (uh HB4) Q);have Z:=zb (HV4.next Q);have P:=zb (o5.below R);have V:=zb f5;have W:=zb kU;have aa:=zb zU;have h45:=b5.size;have l:Hid (C<w4.heap.size/\w4.heap.size<=w5.heap.size):=⟨(yC.1 (uh HV4)).1,h45⟩;clear HC4 o5 f5 b5 R kU zU Q Y HB4 HV4 x0 q1 tq h45;go_wp2_with fail;generalize w5.alloc _=w6 at *;generalize w5.heap.size=d at *;have y:Below w6 w6 w6.drew:=(yI _ _).drew;have HT6:=zb (uh HTC _ (zh (uh T) y));have U:Hid (∀ wx,Below w6 w6 wx->wx.cell? ⟨d,0,ν⟩=η (ς pa vs.length pc)/\wx.cell? ⟨C,0,ν⟩=η (ι κ m.no)/\wx.cell? ⟨w.heap.size+1,2,ν⟩=η (σ p.doc)/\wx.cell? ⟨w.heap.size+1,0,ν⟩=η (ς oa p.ops.length oc)):=fun wx hx=>
     ⟨yG ((hx.block d (yC.1 (uh W)).1).trans (uh W)) 0,yG (Z.next hx) 0,yG (D.next hx).k1 2,yG (D.next hx).k1 0⟩
    obtain⟨e0,e1,e2,e3⟩:=uh U _ (yI _ _);obtain⟨g0,g1,g2,g3⟩:=uh U _ y;have hwr:IntKind.i64.wrap (m.no+1)=m.no+1:=by have:=uh HNK;rw[Ω];omega
    have hl8:=uh HK8;have HDR:=zb y;have S6:=zb (uh U _ y).2;have nu1:¬ d=C:=by have:=uh l;omega
    have nu2:¬ C=d:=by have:=uh l;omega
    have nu3:¬ d=w.heap.size+1:=by have:=uh l;have:=uh J;omega
    have nu4:¬ w.heap.size+1=d:=by have:=uh l;have:=uh J;omega
    clear y HTC g1 g2 g3;refine wp_region_held_drew (S:=fun w'=>w'.cell? ⟨C,0,ν⟩=η (ι κ m.no)/\w'.cell? ⟨w.heap.size+1,2,ν⟩=η (σ p.doc)/\w'.cell? ⟨w.heap.size+1,0,ν⟩=η (ς oa p.ops.length oc)) (by kernel_rfl) ⟨e1,e2,e3⟩ (fun hHeld=>?_);refine wpAnyH_take (i:=0) (v:=?_) rfl (by kernel_rfl) (by kernel_rfl) (by kernel_rfl) (fun _ _ _ h=>h) (Or.inl ⟨by rfl,?_⟩) (by assumption) ?_;rotate_left 1
    ·(intro wy j;obtain⟨y0,y1,y2⟩:=j;go_simp;try with_reducible rfl)
    try simp only[Act.put]
    refine wpAnyH_take (i:=2) (v:=?_) rfl (by kernel_rfl) (by kernel_rfl) (by kernel_rfl) (fun _ _ _ h=>h) (Or.inl ⟨by rfl,?_⟩) (by assumption) ?_;rotate_left 1
    ·(intro wy j;obtain⟨y0,y1,y2⟩:=j;go_simp;try with_reducible rfl)
    try simp only[Act.put]
    refine wpAnyH_take (i:=3) (v:=?_) rfl (by kernel_rfl) (by kernel_rfl) (by kernel_rfl) (fun _ _ _ h=>h) (Or.inl ⟨by rfl,?_⟩) (by assumption) ?_;rotate_left 1
    ·(intro wy j;obtain⟨y0,y1,y2⟩:=j;go_simp;try with_reducible rfl)
    try simp only[Act.put]
    refine wpAnyH_take (i:=4) (v:=?_) rfl (by kernel_rfl) (by kernel_rfl) (by kernel_rfl) (fun _ _ _ h=>h) (Or.inl ⟨by rfl,?_⟩) (by assumption) ?_;rotate_left 1
    ·(intro wy j;obtain⟨y0,y1,y2⟩:=j;go_simp;try with_reducible rfl)
    try simp only[Act.put]
    refine wpAnyH_take (i:=5) (v:=?_) rfl (by kernel_rfl) (by kernel_rfl) (by kernel_rfl) (fun _ _ _ h=>h) (Or.inl ⟨by rfl,?_⟩) (by assumption) ?_;rotate_left 1
    ·(intro wy j;obtain⟨y0,y1,y2⟩:=j;go_simp;try with_reducible rfl)
    try simp only[Act.put]
    refine wpAnyH_take (i:=6) (v:=?_) rfl (by kernel_rfl) (by kernel_rfl) (by kernel_rfl) (fun _ _ _ h=>h) (Or.inl ⟨by rfl,?_⟩) (by assumption) ?_;rotate_left 1
    ·(intro wy j;obtain⟨y0,y1,y2⟩:=j;go_simp;try with_reducible rfl)
    try simp only[Act.put]
    refine wpAnyH_take (i:=7) (v:=?_) rfl (by kernel_rfl) (by kernel_rfl) (by kernel_rfl) (fun _ _ _ h=>h) (Or.inl ⟨by rfl,?_⟩) (by assumption) ?_;rotate_left 1
    ·(intro wy j;obtain⟨y0,y1,y2⟩:=j;go_simp;try with_reducible rfl)
    try simp only[Act.put]
    refine wpAnyH_take (i:=8) (v:=?_) rfl (by kernel_rfl) (by kernel_rfl) (by kernel_rfl) (fun _ _ _ h=>h) (Or.inl ⟨by rfl,?_⟩) (by assumption) ?_;rotate_left 1
    ·(intro wy j;obtain⟨y0,y1,y2⟩:=j;go_simp;try with_reducible rfl)
    try simp only[Act.put]
    refine wpAnyH_ready (rs:=[1,9]) (by kernel_rfl) (by simp) ?_;refine AllReadyH.cons rfl (fun K q=>?_) (AllReadyH.cons rfl (fun K q=>?_) AllReadyH.nil);go_simp;refine q.out _ _ (uh S6) (fun hHeld=>?_);clear q K;try simp only[Act.put]
    refine wpAnyH_ready (rs:=[9]) (by kernel_rfl) (by simp) ?_;refine AllReadyH.cons rfl (fun K q=>?_) AllReadyH.nil
    all_goals (
     go_simp;go_call uh HT6 as e w7 ⟨r7,rfl,o7,b7⟩;obtain⟨ra,rg,rc,rfl,-,-⟩:=OT.all o7;have b67:Below w6 w6 w7:=⟨b7.os,b7.tape,b7.output,b7.size,b7.block⟩;have hab:Below w7 w7 (w7.alloc (χ #[ι κ (m.no+1),σ p.doc,ς ra (ZN p.ops).length rc] 37)):=zt _ _;have ab:=zh b67 hab;have S7:=zb (uh U _ b67).2;have S8:=zb (uh U _ ab).2;have i0:=(uh U _ b67).1;have j0:=(uh U _ ab).1;have O8:=zb (P.below ab);have E8:Hid (Zf.E (w7.alloc (χ #[ι κ (m.no+1),σ p.doc,ς ra (ZN p.ops).length rc] 37)) [ι κ (m.no+1),σ p.doc,ς ra (ZN p.ops).length rc] ⟨m.no+1,p.doc,Zm p.ops⟩ (Ρ ra (ZN p.ops).length rc).ownBlock.toList):=⟨_,rfl,(WO o7).1.below hab⟩;have HFI:Hid (ZQ w4 (Ρ ra (ZN p.ops).length rc).ownBlock.toList):=⟨by cases ra<;>simp[Value.ownBlock],fun b hb=>by have h1:=(WO o7).2 b (by simpa using hb);have:=uh l;have:=uh aa;have h2:=HDR.size;omega⟩;have HNI:Hid (∀ b∈(Ρ ra (ZN p.ops).length rc).ownBlock.toList,b ∉ bl5):=fun b hb hbl=>by have h1:=(WO o7).2 b (by simpa using hb);have h2:=P.lt b hbl;have h3:=HDR.size;omega
     have HONE:Hid (∀ u∈[Value.int .i64 (m.no+1),σ p.doc,ς ra (ZN p.ops).length rc],u.oneCell'=ξ):=fun u hu=>by simp at hu;rcases hu with rfl | rfl | rfl<;>rfl
     have HBS:Hid (w4.heap.size<=(w7.alloc (χ #[ι κ (m.no+1),σ p.doc,ς ra (ZN p.ops).length rc] 37)).heap.size):=by have:=uh l;have:=uh aa;have:=ab.size;show _<=_;omega
     have O:Hid (d<(w7.alloc (χ #[ι κ (m.no+1),σ p.doc,ς ra (ZN p.ops).length rc] 37)).heap.size/\(w7.alloc (χ #[ι κ (m.no+1),σ p.doc,ς ra (ZN p.ops).length rc] 37)).heap[d]?=η (χ #[ς pa vs.length pc] 25 (0,0))):=by have h1:=(ab.block d (by have:=uh aa;omega)).trans (uh W);exact⟨(yC.1 h1).1,h1⟩
     have I:=zb ab;refine q.out _ _ (uh S7) (fun hHeld=>?_);clear q K b67 hab ab o7 b7;try simp only[Act.put]
     (refine wpAnyH_take (i:=10) (v:=?_) rfl (by kernel_rfl) (by kernel_rfl) (by kernel_rfl) (fun _ _ _ h=>h) (Or.inl ⟨by rfl,?_⟩) (by assumption) ?_;rotate_left 1;·(intro wy j;obtain⟨y0,y1,y2⟩:=j;go_simp;try with_reducible rfl);try simp only[Act.put]))
    rotate_left 1;refine wpAnyH_ready (rs:=[1,11]) (by kernel_rfl) (by simp) ?_;refine AllReadyH.cons rfl (fun K q=>?_) (AllReadyH.cons rfl (fun K q=>?_) AllReadyH.nil);go_simp;refine q.out _ _ (uh S7) (fun hHeld=>?_);clear q K;try simp only[Act.put]
    rotate_left 1;go_simp;refine q.out _ _ (uh S8) (fun hHeld=>?_);clear q K;try simp only[Act.put]
    refine wpAnyH_ready (rs:=[1]) (by kernel_rfl) (by simp) ?_;refine AllReadyH.cons rfl (fun K q=>?_) AllReadyH.nil;go_simp;refine q.out _ _ (uh S8) (fun hHeld=>?_);clear q K;try simp only[Act.put]
    rotate_left 1;refine wpAnyH_ready (rs:=[11]) (by kernel_rfl) (by simp) ?_;refine AllReadyH.cons rfl (fun K q=>?_) AllReadyH.nil;go_simp;refine q.out _ _ (uh S8) (fun hHeld=>?_);clear q K;try simp only[Act.put]
    rotate_left 1;refine wpAnyH_ready (rs:=[11]) (by kernel_rfl) (by simp) ?_;refine AllReadyH.cons rfl (fun K q=>?_) AllReadyH.nil;go_simp;refine q.out _ _ (uh S8) (fun hHeld=>?_);clear q K;try simp only[Act.put]
    all_goals (
     refine wpAnyH_ready (rs:=[12]) (by kernel_rfl) (by simp) ?_;refine AllReadyH.cons rfl (fun K q=>?_) AllReadyH.nil;refine Sb (e:=Zf) Fc (by decide) underlying23 ON rfl (by decide) (by decide) rfl (.tmp 36) (.tmp 46) rfl rfl (uh O8) (uh V) (uh E8) (uh HFI) (uh HNI) rfl (by exact Fa w7 [_,_,_] _) (uh HONE) (uh HBS) (by omega) ?_;intro v9 w9 bl9 o9 f9 m9 hg9;obtain⟨va,vc,rfl,-,-⟩:=o9.form;have kU9:=(hg9.block d (uh O).1 fun e=>YL (uh O).2 (Yr (uh O8)) (by decide) (O8.head e.symm)).trans (uh O).2;have cU9:=Zw kU9;have fU9:=yJ kU9;have hk9:=fun k (X:k<w4.heap.size)=>(hg9.block k (by have:=I.size;have:=uh l;have:=uh aa;omega) fun e=>by have:=(uh V).2 _ (P.head e.symm);omega).trans (I.block k (by have:=uh l;have:=uh aa;omega));have S9:Hid (w9.cell? ⟨C,0,ν⟩=η (ι κ m.no)/\w9.cell? ⟨w.heap.size+1,2,ν⟩=η (σ p.doc)/\w9.cell? ⟨w.heap.size+1,0,ν⟩=η (ς oa p.ops.length oc)):=⟨yG ((hk9 C (uh l).1).trans (uh Z)) 0,yG ((hk9 _ (by have:=uh l;have:=uh J;omega)).trans D.k1) 2,yG ((hk9 _ (by have:=uh l;have:=uh J;omega)).trans D.k1) 0⟩;try simp only[Act.put]
     refine q.out _ _ (uh S9) (fun hHeld=>?_);clear q K;try simp only[Act.put]
     refine wpAnyH_take (i:=13) (v:=?_) rfl (by kernel_rfl) (by kernel_rfl) (by kernel_rfl) (fun _ _ _ h=>h) (Or.inl ⟨by rfl,?_⟩) (by assumption) ?_;rotate_left 1
     ·(intro wy j;obtain⟨y0,y1,y2⟩:=j;go_simp;try with_reducible rfl)
     try simp only[Act.put]
     refine wpAnyH_ready (rs:=[14]) (by kernel_rfl) (by simp) ?_;refine AllReadyH.cons rfl (fun K q=>?_) AllReadyH.nil;go_simp;refine q.out _ _ (by simp only[QY nu1,QY nu3];exact uh S9) (fun hHeld=>?_);clear q K hHeld;try simp only[Act.put]
     refine wpAnyH_done (by kernel_rfl) ?_ _)
    all_goals (
     rw[yh,yS]at o9;have hU10:=heap_setCell_same w9 d 0 _ _ (ς va (vs.length+1) vc) kU9;have hn9:=YL kU9 (Yr o9) (by decide);have O10:=zb (o9.other hn9 0 (ς va (vs.length+1) vc));have HF9:=zb f9;have hGE:=fun g (hg:(Ρ pa vs.length pc).ownBlock=η g)=>(uh V).2 g (P.head hg);have HKB:Hid (∀ k,k<w4.heap.size->(w9.setCell ⟨d,0,ν⟩ (ς va (vs.length+1) vc)).heap[k]?=w6.heap[k]?):=fun k X=>by
      have h1:=uh l;have h2:=uh aa;refine (Β _ _ _ _ (by simp;omega)).trans ?_;exact (hg9.block k (by have:=I.size;omega) fun e=>by have:=hGE _ e.symm;omega).trans (I.block k (by omega))
     have G:Hid (Below w w (w9.setCell ⟨d,0,ν⟩ (ς va (vs.length+1) vc))):=by
      have h1:=uh l;have h2:=uh J;have hb:=zh (uh T) (uh I);exact (hb.grown hg9 hb.size fun k X=>by have:=hGE k X;omega).setCell (p:=⟨d,0,ν⟩) (by simp;omega) _
     have B:=zb (D.kp fun k _ X=>uh HKB k (by have:=uh l;have:=uh J;omega));have H:Hid (VB C m (ς ta m.touched.length tc) _):=(uh HKB C (uh l).1).trans (uh Z);have n:=zb hU10;have HLL:Hid ((vs++[⟨m.no+1,p.doc,Zm p.ops⟩]:List zj).length=vs.length+1):=by show _=_;simp
     clear O8 E8 HFI HNI HONE HBS O I o9 f9 m9 hg9 kU9 cU9 fU9 hk9 S6 S7 S8 S9 nu1 nu2 nu3 nu4 hn9 hU10 hGE HKB i0 j0 e0 e1 e2 e3 g0 HT6 U D T Z P W HDR hwr;have HQT:Hid (∀ x∈(vs++[⟨m.no+1,p.doc,Zm p.ops⟩]:List zj),x.touched.length<=2097152):=fun x hx=>by
      rcases Κ.1 hx with h | h
      .have:=uh HVZ x h;omega
      .rw[Γ]at h;subst h;have:=SX p.ops;show (Zm p.ops).length<=_;omega
     have M:Hid (w.heap.size+1+1+1+1<w4.heap.size/\w4.heap.size<=d):=by have h1:=uh l;have h2:=uh J;exact⟨by omega,h1.2⟩
     clear HVZ;generalize hQ:(vs++[⟨m.no+1,p.doc,Zm p.ops⟩]:List zj)=qs at *;generalize hL:vs.length+1=L at *;generalize w9.setCell _ _=f at *;generalize w4.heap.size=N4 at *;have u0:=Zw (uh n);have fU:=yJ (uh n);have hL9:L<=9:=by omega
     have HQL:=zb (uh HLL);clear hQ hL hl8 HLL;by_cases h9:L=9
     case' pos=>
      have hgt:(8:Int)<(L:Int):=by omega
      have hsb:(L:Int) - 8=1:=by omega
      have HCC:Hid (δ prog 47 #[γ #[ς va L vc],ι κ 1] f _):=Co (ς va L vc) qs 1 bl9 f (uh O10) ⟨by have:=uh HQL;omega,uh HQT⟩ (by have:=uh HQL;omega);have HKE:Hid (qs.drop 1=qF qs):=by show _=_;unfold qF;rw[uh HQL,h9]
      clear h9 HQT;go_wp2_with fail;go_call uh HCC as e w11 ⟨p11,bl11,rfl,o11,f11,b11⟩;rw[uh HKE]at o11;obtain⟨va,vc,rfl,-,-⟩:=o11.form;have kU:=(b11.block d (yC.1 (uh n)).1).trans (uh n);have u1:w11.cell? ⟨d,0,ν⟩=η (ς _ L _):=yG kU 0;have fU1:=yJ kU;have hsz:=(uh M);have hw10:=G.size;have hb11:=b11.size;have hVl:=(yC.1 (uh H)).1;have hUl:=(yC.1 (uh n)).1;have B:=zb ((B.next b11).kp (w':=w11.setCell ⟨d,0,ν⟩ (ς va (qF qs).length vc)) fun k _ X=>Β _ _ _ _ (by simp;omega));have H:Hid (VB C m (ς ta m.touched.length tc) (w11.setCell ⟨d,0,ν⟩ (ς va (qF qs).length vc))):=(Β _ _ _ _ (by have:=uh l;simp;omega)).trans (H.next b11);have G:Hid (Below w w (w11.setCell ⟨d,0,ν⟩ (ς va (qF qs).length vc))):=(zh (uh G) b11).setCell (p:=⟨d,0,ν⟩) (by simp;omega) _;have n:=zb (heap_setCell_same w11 d 0 _ _ (ς va (qF qs).length vc) kU);have O10:=zb (o11.other (YL kU (Yr o11) (by decide)) 0 (ς va (qF qs).length vc));have HF9:Hid (ZQ N4 bl11):=f11.mono (by omega);clear HCC o11 f11 b11 kU hsz hw10 hb11 u0 fU hVl hUl hgt hsb HQL hL9;generalize hL:(qF qs).length=L at *;clear hL;go_wp2_with fail;generalize w11.setCell _ _=f at *;clear u1 fU1
     case' neg=>
      have hgt:¬ (8:Int)<(L:Int):=by omega
      have HKE:Hid (qF qs=qs):=by show _=_;unfold qF;rw[uh HQL,show L - 8=0 by omega];rfl
      rw[← uh HKE]at O10;clear h9 HQT HQL hL9;go_wp2_with fail
     all_goals (
      have hsz:=uh M;have y:Below f f f.drew:=(yI _ _).drew;have u0:=Zw (uh n);have y0:=(JS (uh H)).1;have u0':f.drew.cell? ⟨d,0,ν⟩=η (ς va L vc):=u0;have y0':f.drew.cell? ⟨C,0,ν⟩=η (ι κ m.no):=y0;obtain⟨c2,⟨p0,p1,p2,p3⟩,⟨v0,v1,v2,v3⟩,f2,f3,f4⟩:=B.ac;have hwr:IntKind.i64.wrap (m.no+1)=m.no+1:=by have:=uh HNK;rw[Ω];omega
      have hgv:=uh J;have n1:¬ d=w.heap.size+1+1:=by omega
      have n2:¬ d=w.heap.size+1+1+1:=by omega
      have n3:¬ d=w.heap.size+1+1+1+1:=by omega
      have n4:¬ C=w.heap.size+1+1:=by omega
      have n5:¬ C=w.heap.size+1+1+1:=by omega
      have n6:¬ C=w.heap.size+1+1+1+1:=by omega
      have n1':¬ w.heap.size+1+1=d:=by omega
      have n2':¬ w.heap.size+1+1+1=d:=by omega
      have n3':¬ w.heap.size+1+1+1+1=d:=by omega
      have n4':¬ w.heap.size+1+1=C:=by omega
      have n5':¬ w.heap.size+1+1+1=C:=by omega
      have n6':¬ w.heap.size+1+1+1+1=C:=by omega
      have HN1:=zb (uh M).1;have HAD:=zb (B.next y);have HBD:=zb (zh (uh G) y);have HOD:=zb (O10.below y);clear hsz y hgv B G O10 H n HNK J l M aa;go_region_held3 (fun w'=>w'.cell? ⟨d,0,ν⟩=η (ς va L vc)/\w'.cell? ⟨C,0,ν⟩=η (ι κ m.no)) (first | with_reducible exact⟨u0',y0'⟩ |(simp only[show ∀ (w:Wo) (a:Addr),w.drew.cell? a=w.cell? a from fun _ _=>rfl,QY n1',QY n2',QY n3',QY n4',QY n5',QY n6'];with_reducible exact⟨u0,y0⟩)) (fail)
      all_goals (
       go_wp2;change bodyPost _ _ _ _ _ (Gv f w (ς va L vc) (ς ν 0 0) (ι κ 0) (σ ⟨#[]⟩) (ι κ 0) (ι κ 2) (ι κ 0) (ι κ 0) (ι κ (m.no+1))).drew;rw[Cr];refine bodyPost_ret (Gw rfl (uh HAD) rfl rfl rfl rfl) rfl ?_;rw[uh F];exact Gx (a:=⟨qF qs,Jc,2,0,0,m.no+1⟩) (uh HBD) (uh HN1) (uh HOD) (uh HF9) (JY _ _))))
   .have tq:(p.base ==m.no)=ζ:=by simp[hbn]
    have HBN:=zb hbn;obtain⟨hpb,hpm,ht0,ht4⟩:=uh HPK;have HMC:=zb (uh HME hpb hpm);clear hbn HME HTC hpb hpm HVZ HPK HNK;go_wp2_with fail;generalize w3.alloc _=w4 at *;generalize w3.heap.size=C at *;go_call uh HC4 as e w5 ⟨p5,bl5,rfl,o5,f5,b5⟩;obtain⟨pa,pc,rfl,-,-⟩:=o5.form;have R:=zt w5 (χ #[ς pa vs.length pc] 25);have kU:=yH w5 (χ #[ς pa vs.length pc] 25);have Q:=zh b5 R;have D:=zb (Y.next Q);have T:=zb (zh (uh HB4) Q);have Z:=zb (HV4.next Q);have P:=zb (o5.below R);have V:=zb f5;have W:=zb kU;have M:Hid (w.heap.size+1+1+1+1<w4.heap.size/\w4.heap.size<=w5.heap.size):=⟨Y.lt,b5.size⟩;have HM6:=zb (uh HMC _ (uh T));have x6:=yG D.k0 0;obtain⟨q0,q1,q2,q3⟩:=Z8.of D.k1;clear HC4 o5 f5 b5 R kU Q Y HB4 HV4 x0 tq HMC;by_cases h4:4<p.tries+1
    .have F:=zb (zeR (vs:=vs) (uh HBN) h4);rw[← uh HY]at F;obtain⟨c2,⟨p0,p1,p2,p3⟩,⟨v0,v1,v2,v3⟩,f2,f3,f4⟩:=D.ac;clear HM6 HAP HY;go_wp2;refine bodyPost_ret (Gw rfl (uh D) rfl rfl rfl rfl) rfl ?_;rw[uh F];exact Gx (a:=⟨vs,Jc,4,0,0,0⟩) (uh T) (uh M).1 (uh P) (uh V) (JY _ _)
    .have HN9:=zb h4;go_wp2_with fail;generalize w5.alloc _=w6 at *;generalize w5.heap.size=d at *;go_call uh HM6 as e w7 ⟨rfl,b7⟩;have HA7:=zb (D.next b7);have HB7:=zb (zh (uh T) b7);have HV7:=zb (Z.next b7);have HO7:=zb (P.below b7);have HU7:=zb ((b7.block d (yC.1 (uh W)).1).trans (uh W));have u7:=Zw (uh HU7);clear HM6 b7 D T Z P W x6 q0 q1 q2 q3
     cases hmt:meets vs (Zm p.ops) p.base with
     | true=>
      have F:=zb (zeS (uh HBN) (by have:=uh HN9;omega) hmt);rw[← uh HY]at F;obtain⟨c2,⟨p0,p1,p2,p3⟩,⟨v0,v1,v2,v3⟩,f2,f3,f4⟩:=HA7.ac;clear HAP HY hmt;go_wp2;refine bodyPost_ret (Gw rfl (uh HA7) rfl rfl rfl rfl) rfl ?_;rw[uh F];exact Gx (a:=⟨vs,Jc,3,0,0,0⟩) (uh HB7) (uh M).1 (uh HO7) (uh V) (JY _ _)
     | false=>
      have F:=zb (zeT (uh HBN) (by have:=uh HN9;omega) hmt);rw[← uh HY]at F;have HP7:=zb (uh HAP _ (uh HB7));have y1:=(JS (uh HV7)).2.1;have q0:=(YD HA7.k1).1;generalize ZK m.doc p.ops=A at *;obtain⟨dd,ac,ai⟩:=A;simp only at HP7;clear HAP HY hmt u7;go_wp2_with fail;go_call uh HP7 as e w8 ⟨rfl,b8⟩;have HA8:=zb (HA7.next b8);have I:=zb (zh (uh HB7) b8);have HV8:=zb (HV7.next b8);have HO8:=zb (HO7.below b8);have O:=zb ((b8.block d (yC.1 (uh HU7)).1).trans (uh HU7));have u8:=Zw (uh O);clear HP7 b8 HA7 HB7 HV7 HO7 HU7 y1 q0;by_cases hac:ac=0
      .subst hac;have HE:Hid (zX (w8.alloc (χ #[] 82)) w8 (ς (η ⟨w8,0,ν⟩) 0 0) []):=Fb w8 82 4;have R:=zt w8 (χ #[] 82);have zN:(w8.alloc (χ #[] 82)).heap.size=w8.heap.size+1:=by simp
       have HOP:=zb (HO.below (zh (uh I) R));have HA9:=zb (HA8.next R);have HB9:=zb (zh (uh I) R);have HV9:=zb (HV8.next R);have HO9:=zb (HO8.below R);have HU9:=zb ((R.block d (yC.1 (uh O)).1).trans (uh O));have q0:=(YD HA9.k1).1;have hol:=(uh HZ).2;have HZN:=zb zN;have HLU:Hid (d<w8.heap.size/\C<w8.heap.size/\w.heap.size+1+1+1+1<w8.heap.size/\∀ b∈bl5,b<w8.heap.size):=⟨(yC.1 (uh O)).1,(yC.1 (uh HV8)).1,HA8.lt,HO8.lt⟩;clear R zN HA8 I HV8 HO8 O u8;go_wp2_with (at_builtin;refine zeP rfl (.tmp 100) (.tmp 102) rfl rfl (uh HE) rfl (uh HOP) (by omega) (by rw[uh HZN];omega) ?_);intro v10 f o10 hg10;obtain⟨oa2,oc2,rfl⟩:=Jx o10;have q:∀ k,k<w8.heap.size->f.heap[k]?=(w8.alloc (χ #[] 82)).heap[k]?:=fun k X=>hg10.block k (by rw[uh HZN];omega) (fun e=>by injection e with e;simp at e;omega);have hl:=uh HLU;have B:=zb (HA9.kp fun k _ h=>q k (by omega));have G:=zb (HB9.grown hg10 HB9.size (fun k X=>by injection X with X;simp at X;omega));have n:=zb ((q d hl.1).trans (uh HU9));have H:Hid (VB C m (ς ta m.touched.length tc) f):=(q C hl.2.1).trans (uh HV9);have HO10:=zb (HO9.keep fun b hb=>q b (hl.2.2.2 b hb));have HOP10:=zb o10;have hN4:=uh M;have HN8:=zb hl.2.2.1;clear HE HOP HA9 HB9 HU9 HV9 HO9 o10 hg10 q q0 HZN;generalize w8.heap.size=N8 at *;generalize w4.heap.size=N4 at *;have y:Below f f f.drew:=(yI _ _).drew;have u0:=Zw (uh n);have y0:=(JS (uh H)).1;have t0:=(YD B.k1).2.2.2;have u0':f.drew.cell? ⟨d,0,ν⟩=η (ς pa vs.length pc):=u0;have y0':f.drew.cell? ⟨C,0,ν⟩=η (ι κ m.no):=y0;have t0':f.drew.cell? ⟨w.heap.size+1,3,ν⟩=η (ι κ p.tries):=t0;obtain⟨c2,⟨p0,p1,p2,p3⟩,⟨v0,v1,v2,v3⟩,f2,f3,f4⟩:=B.ac;have hwr:IntKind.i64.wrap (p.tries+1)=p.tries+1:=by rw[Ω];omega
       have hgv:=uh J;have n1:¬ d=w.heap.size+1+1:=by omega
       have n2:¬ d=w.heap.size+1+1+1:=by omega
       have n3:¬ d=w.heap.size+1+1+1+1:=by omega
       have n4:¬ C=w.heap.size+1+1:=by omega
       have n5:¬ C=w.heap.size+1+1+1:=by omega
       have n6:¬ C=w.heap.size+1+1+1+1:=by omega
       have n1':¬ w.heap.size+1+1=d:=by omega
       have n2':¬ w.heap.size+1+1+1=d:=by omega
       have n3':¬ w.heap.size+1+1+1+1=d:=by omega
       have n4':¬ w.heap.size+1+1=C:=by omega
       have n5':¬ w.heap.size+1+1+1=C:=by omega
       have n6':¬ w.heap.size+1+1+1+1=C:=by omega
       have m1:¬ w.heap.size+1+1=w.heap.size+1:=by omega
       have m2:¬ w.heap.size+1+1+1=w.heap.size+1:=by omega
       have m3:¬ w.heap.size+1+1+1+1=w.heap.size+1:=by omega
       have HAD:=zb (B.next y);have HBD:=zb (zh (uh G) y);have HOD:=zb (HO10.below y);have HPD:Hid (zX f.drew _ _ p.ops):=Zh (uh HOP10) y;clear hl hN4 y hgv B G HO10 H n J HOP10 HLU;go_wp2_with fail;go_region_held3 (fun w'=>w'.cell? ⟨d,0,ν⟩=η (ς pa vs.length pc)/\w'.cell? ⟨C,0,ν⟩=η (ι κ m.no)/\w'.cell? ⟨w.heap.size+1,3,ν⟩=η (ι κ p.tries)) (first | with_reducible exact⟨u0',y0',t0'⟩ |(simp only[show ∀ (w:Wo) (a:Addr),w.drew.cell? a=w.cell? a from fun _ _=>rfl,QY n1',QY n2',QY n3',QY n4',QY n5',QY n6',QY m1,QY m2,QY m3];with_reducible exact⟨u0,y0,t0⟩)) (fail)
       all_goals (
        go_wp2;change bodyPost _ _ _ _ _ (Gv f w (ς pa vs.length pc) (ς oa2 p.ops.length oc2) (ι κ m.no) (.string dd) (ι κ (p.tries+1)) (ι κ 1) (ι κ 0) (ι κ 0) (ι κ 0)).drew;rw[Cr];refine bodyPost_ret (Gw rfl (uh HAD) rfl rfl rfl rfl) rfl ?_;rw[uh F];refine Gx (a:=⟨vs,⟨p.ops,m.no,dd,p.tries+1⟩,1,0,0,0⟩) (N:=min N4 N8) (uh HBD) ?_ (uh HOD) (V.mono (Nat.min_le_left _ _)) (qH (uh HPD) (Nat.min_le_right _ _));have h1:=(uh M).1;have h2:=uh HN8;omega)
      .have HZ2:Hid (Ya vs p=⟨vs,Jc,5,ac,ai,0⟩):=by show _=_;rw[uh F];unfold Xf;rw[yf hac]
       have hacI:(ac !=0)=ξ:=by simpa using hac
       obtain⟨c2,⟨p0,p1,p2,p3⟩,⟨v0,v1,v2,v3⟩,f2,f3,f4⟩:=HA8.ac;clear hac F;go_wp2;refine bodyPost_ret (Gw rfl (uh HA8) rfl rfl rfl rfl) rfl ?_;rw[uh HZ2];exact Gx (a:=⟨vs,Jc,5,ac,ai,0⟩) (uh I) (uh M).1 (uh HO8) (uh V) (JY _ _)
theorem Ct(p:ω)(vs:List zj)(bl:List Nat)(s:Bs)(w:Wo)(h:zw Zf w p vs bl)(hs:JN vs)(hz:s.size<=33554432):
  δ prog 6 #[γ #[p],s] w (Ni (Z4 vs s) w):=by
 obtain⟨xa,xc,rfl,-,-⟩:=h.form;have u:=Kf w (χ #[ς xa vs.length xc] 25) (χ #[ς ν 0 0,ι κ 0,σ ⟨#[]⟩,ι κ 0] 30) (χ #[ι κ 0,ι κ 0,ι κ 0,ι κ 0] 32);have HS:Hid (δ _ _ _ (((w.alloc (χ #[ς xa vs.length xc] 25)).alloc (χ #[ς ν 0 0,ι κ 0,σ ⟨#[]⟩,ι κ 0] 30)).alloc (χ #[ι κ 0,ι κ 0,ι κ 0,ι κ 0] 32)) _):=BL _ vs bl _ (h.below u.bel) hs;have Y:=zb h;have v:=zb u;have J:=zb hs;go_in;go_wp2_with fail;generalize ((w.alloc _).alloc _).alloc _=wA at *;have hsz:=v.size;have V:RB (w.heap.size+1) wA:=⟨v.k1,v.k2⟩;go_call HS as e w1 ⟨rfl,b1⟩;have b:=zb (V.next b1);have n:=zb (zh v.bel b1);have hs1:=b1.size;have C:=zb ((b1.block w om).trans v.k0)
 cases hok:qM vs with
 | false=>
  have K:=zb (BN (s:=s) hok);obtain⟨c0,c1,c2,c3⟩:=Z8.of b.k1;obtain⟨d0,d1,d2,d3⟩:=Z8.of b.k2;have f1:=yJ b.k1;have f2:=yJ b.k2;clear hok;go_wp2;refine bodyPost_ret (VG rfl _ [_,_,_,_] [_,_,_,_] rfl rfl b.k1 b.k2 om rfl rfl rfl underlying30 rfl kr underlying32 rfl kr) rfl ?_;rw[uh K];exact⟨_,rfl,JY _ _,Zd (Zd n om [_,_,_,_] 0) om [_,_,_,_] 0⟩
 | true=>
  obtain⟨k,U,r,hl,h8,M⟩:=Gu hok;have K:=zb (BO (s:=s) hok M);have O:=zb (zdl s w1 hz);have N:=uh J;have P:=zb ((N k U).1);have B:=zb fun wx (hx:Below w w wx)=>S5 _ vs bl k wx (Y.below hx) U hl h8;have S:=zb (Xb s);generalize vs[k]=m at *;generalize g:ZL s=D at *;obtain⟨a,dc,di⟩:=D;clear hok hl h8 M N J Y U g;simp only at O;go_wp2_with fail;go_call O as e w2 ⟨v2,rfl,o2,b2⟩;obtain⟨a2,Z,rfl⟩:=Jx o2;have q:=zh n b2;have d:=zb (b.next b2);have hs2:=b2.size;have E:=zb ((b2.block w om).trans C);have G:=zb o2;have o:=zb q;have Q:=zb (uh B w2 q);clear O b2 q o2 b n C B;by_cases g:dc=0
  .subst g;have k0:=Zw E;go_wp2_with fail;go_call Q as e w3 ⟨ta,tc,rfl,b3⟩;have hB:=zt w3 (χ #[ι κ m.no,m.doc,ς ta m.touched.length tc] 37);have kB:=yH w3 (χ #[ι κ m.no,m.doc,ς ta m.touched.length tc] 37);have X:(w3.alloc (χ #[ι κ m.no,m.doc,ς ta m.touched.length tc] 37)).heap.size=w3.heap.size+1:=sm;have j:=zh b3 hB;have W:zX _ _ _ a:=Zh G j;have i:=zb (TU m.doc _ a _ _ W.orow.1 (uh S).1 P);have H:=zb W;have y:=zb (zh o j);have I:=zb (d.next j);have F:=zb kB;have T:=zb X;have hs3:=b3.size;obtain⟨A,u⟩:∃ A,ZK m.doc a=A:=⟨_,rfl⟩;rw[u]at i;have x:=zb u;obtain⟨dd,ac,ai⟩:=A;simp only at i;clear Q b3 hB kB X j W o d G u k0 E;go_wp2_with fail;generalize w3.alloc _=w4 at *;generalize w3.heap.size=V0 at *;go_call i as e w5 ⟨rfl,b5⟩;have X:=uh T;have hs5:=b5.size;have R:Hid (zX w5 _ _ a):=Zh H b5;have z:=zb (zh y b5);have f:=zb (I.next b5);have v0:=(JS ((b5.block V0 om).trans F)).1;obtain⟨c0,c1,c2,c3⟩:=Z8.of f.k1;obtain⟨d0,d1,d2,d3⟩:=Z8.of f.k2;have f1:=yJ f.k1;have f2:=yJ f.k2;clear i b5 y I H F;by_cases l:ac=0
   .subst l;have L:Hid (Z4 vs s=⟨a,m.no,dd,1,0,0⟩):=by show _=_;rw[uh K];unfold Yp;rw[yg rfl];show qW m.no (ZK m.doc a) a=_;rw[uh x];rfl
    go_wp2;refine bodyPost_ret (VG rfl _ [_,_,_,_] [_,_,_,_] rfl rfl f.k1 f.k2 om rfl rfl rfl underlying30 rfl kr underlying32 rfl kr) rfl ?_;rw[uh L];exact⟨_,rfl,qH (VH (VH R om [_,_,_,_] 0) om [_,_,_,_] 0) om,Zd (Zd z om [_,_,_,_] 0) om [_,_,_,_] 0⟩
   .have L:Hid (Z4 vs s=⟨[],0,⟨#[]⟩,5,ac,ai⟩):=by show _=_;rw[uh K];unfold Yp;rw[yg rfl];show qW m.no (ZK m.doc a) a=_;rw[uh x];unfold qW;rw[yf l]
    have hacI:(ac !=0)=ξ:=by simpa using l
    clear l;go_wp2;refine bodyPost_ret (VG rfl _ [_,_,_,_] [_,_,_,_] rfl rfl f.k1 f.k2 om rfl rfl rfl underlying30 rfl kr underlying32 rfl kr) rfl ?_;rw[uh L];exact⟨_,rfl,JY _ _,Zd (Zd z om [_,_,_,_] 0) om [_,_,_,_] 0⟩
  .have L:Hid (Z4 vs s=⟨[],0,⟨#[]⟩,6,dc,di⟩):=by show _=_;rw[uh K];unfold Yp;rw[yf g]
   have hdcI:(dc !=0)=ξ:=by simpa using g
   obtain⟨c0,c1,c2,c3⟩:=Z8.of d.k1;obtain⟨d0,d1,d2,d3⟩:=Z8.of d.k2;have f1:=yJ d.k1;have f2:=yJ d.k2;clear g Q;go_wp2;refine bodyPost_ret (VG rfl _ [_,_,_,_] [_,_,_,_] rfl rfl d.k1 d.k2 om rfl rfl rfl underlying30 rfl kr underlying32 rfl kr) rfl ?_;rw[uh L];exact⟨_,rfl,JY _ _,Zd (Zd o om [_,_,_,_] 0) om [_,_,_,_] 0⟩
def Yb(vs:List zj):JV:=match vs.reverse with
 | []=>U7
 | m :: _=>Gi m.doc.data.toList U7
noncomputable def Ys(vs:List zj)(mo:Nat)(q:List UInt8):List UInt8×List UInt8:=KQ (Y0 (Yb vs) mo q).1 (Y0 (Yb vs) mo q).2
noncomputable def Db(mo:Nat)(s:List zj×List UInt8):List zj×List UInt8:=(Nq s.1 (ze (Ys s.1 mo s.2).1),(Ys s.1 mo s.2).2)
noncomputable def UI(mo:Nat):Nat->List zj×List UInt8->List zj×List UInt8
 | 0,s=>s
 | n+1,s=>UI mo n (Db mo s)
noncomputable def Vj(most:Nat)(q:List UInt8):List zj×List UInt8:=UI 2 ((nx (JH q).2).1 % (most+1)) ([⟨0,ze (ct (JH q).1),[]⟩],(nx (JH q).2).2)
theorem Cu(h:YK n vs):∃ (k:Nat) (hk:k<vs.length) (r:List zj),vs.length=k+1/\vs.length<=8/\vs.reverse=vs[k] :: r/\vs[k].doc=ze (ct (Yb vs))/\JX (Yb vs):=by
 obtain⟨k,hk,r,i,f,b⟩:=Gu h.ok;refine⟨k,hk,r,i,f,b,?_⟩;have g:ZR vs[k].doc=ξ:=by
  have:=(YJ.1 h.ok).2.2.2.2 k hk;simp only[qc,Α]at this;exact this.1.2
 obtain⟨v,a,d⟩:=Ob.1 g;have e:Yb vs=v:=by unfold Yb;rw[b];show Gi vs[k].doc.data.toList U7=v;unfold Gi;rw[Od,a]
 rw[e];exact⟨d.symm,JX.of a⟩
theorem Dc(s:Bs):∀ (f i:Nat) (acc q:List UInt8),acc.length<=8*i->i<=s.size->(Ym s f i acc q).1.length<=8*s.size
 | 0,i,acc,q,h,hi=>by rw[Ym];simp only;omega
 | f+1,i,acc,q,h,hi=>by
  rw[Ym];split
  .rename_i hlt;split
   .cases hq:ZT s i with
    | none=>simp only[Zo];omega
    | some p=>
     obtain⟨l,j⟩:=p;have:=Yt hq;simp only;refine Dc s f j _ q ?_ this.2;rw[yh,Zo,ByteArray.size_extract];omega
   .refine Dc s f (i+1) _ _ ?_ hlt;have a:(OV (nx q).1).length<=6:=by unfold OV;rw[ym];exact Nat.min_le_right _ _
    rw[yh];split<;>simp<;>omega
  .simp only;omega
theorem Cv(hm:∀ m∈ms,OY m)(hl:ms.length<=4)(q:List UInt8):(KQ ms q).1.length<=20000000:=by
 have h:=Sn (nx q).1 ms 0 [91] hm;have a:(VF (nx q).1 0 ms [91]++[93]).length<=2480002:=by simp at h ⊢;omega
 unfold KQ;split
 .refine yQ (Dc _ _ 0 [] _ sm (yu _)) ?_;rw[zL];omega
 .simp only;omega
theorem Cw{V:JV}(hV:JX V)(mo:Nat)(q:List UInt8):(∀ m∈(Y0 V mo q).1,OY m)/\(Y0 V mo q).1.length<=mo:=by
 obtain⟨d,f⟩:=TY (1+(nx q).1 % 3) mo 0 (V,[],(nx q).2) hV ⟨sm,sm⟩;refine⟨fun m hm=>?_,by simpa [Y0]using f⟩;have h:=d.dr m hm;refine⟨h.path,h.src,?_⟩
 cases hv:Zz m.kind with
 | true=>obtain⟨u,a,_,b⟩:=h.val hv;rw[a,zL];exact b
 | false=>rw[h.no hv];decide
theorem Cx(mo:Nat):∀ (k n:Nat) (s:List zj×List UInt8),YK n s.1->n+k<1000->YK (n+k) (UI mo k s).1
 | 0,n,s,h,_=>h
 | k+1,n,s,h,hn=>by
  have:=Cx mo k (n+1) (Db mo s) (h.step om _) om
  rwa [show n+1+k=n+(k+1) by omega]at this
theorem Cy{v:JV}(h:JX v)(hg:ZR (ze (ct v))=ξ):YK 0 [⟨0,ze (ct v),[]⟩]:=by
 refine⟨YJ.2 ⟨sm,sm,sm,sm,fun j hj=>?_⟩,fun m hm=>by rw[Γ]at hm;subst hm;exact Int.le_refl _,fun k hk=>?_⟩
 .obtain rfl:j=0:=by simpa using hj
  simp only[Η,qc,hg];rfl
 .obtain rfl:k=0:=by simpa using hk
  have:=h.len;exact⟨by simp only[Η,zL];omega,fun s hs=>by simp at hs,sm⟩
structure LW(B rb sb:Nat)(w wr:Wo)(q:List UInt8)(sv:ω)(vs:List zj)(bl:List Nat):Prop where
 ds:DX B rb w q wr
 k:wr.heap[sb]?=η (χ #[sv] 25 (0,0))
 row:zw Zf wr sv vs bl
 fs:ZQ w.heap.size bl
 ge:w.heap.size<=sb
 ne:sb ∉ bl
 lt:rb<w.heap.size
theorem LW.below(h:LW B rb sb w wr q sv vs bl)(hb:Below wr wr w2):LW B rb sb w w2 q sv vs bl:=
 ⟨h.ds.below hb,(hb.block _ (yC.1 h.k).1).trans h.k,h.row.below hb,h.fs,h.ge,h.ne,h.lt⟩
theorem LW.step{q':List UInt8}(h:LW B rb sb w wr q sv vs bl)(d:DX B rb wr q' w2):LW B rb sb w w2 q' sv vs bl:=
 ⟨h.ds.step d,(d.gr.block _ (yC.1 h.k).1 fun e=>by injection e with e;have:=h.ge;have:=h.lt;omega).trans h.k,h.row.keep (d.kp h.row.lt fun hb=>by have:=h.fs.2 rb hb;have:=h.lt;omega),h.fs,h.ge,h.ne,h.lt⟩
theorem LW.dr(h:Hid (LW B rb sb w wr q sv vs bl)):Hid (LW B rb sb w wr.drew q sv vs bl):=h.below (yI _ _).drew
theorem LW.c(h:Hid (LW B rb sb w wr q sv vs bl)):wr.cell? sb=η sv:=Zw h.k
theorem ze5(h:ZR s=ξ):Nj s=[⟨0,s,[]⟩]:=by
 obtain⟨v,a,b⟩:=Ob.1 h;unfold Nj;rw[a];show [(⟨0,ze (ct v),[]⟩:zj)]=_
 rw[b]
theorem Cz(q:List UInt8):JX (JH q).1/\ZR (ze (ct (JH q).1))=ξ:=by
 have g:Z7 (JH q).1:=Tc H9;refine⟨?_,by rw[L9 g.rd g.big g.tw];exact yj ⟨g.dep,g.cnt,g.len⟩⟩;unfold JH Gi;split
 .rename_i v hv;exact JX.of hv
 .exact JX.of H9
theorem Jb.ev{b:Act}(h:Jb a0 D X b){d:Tmp}(hx:X i=η v)(hi:D[i]?=η d):b.tmps[d]?.getD undef=v:=by
 rw[← Ε];exact h.at' i d v hi hx
theorem Jb.nv{b:Act}(h:Jb a0 D X b){t:Tmp}(hv:a0.tmps[t]?.getD undef=v)(ht:t ∉ D):b.tmps[t]?.getD undef=v:=by
 rw[← Ε,h.no t fun i hi=>absurd (List.mem_of_getElem? hi) ht,Ε];exact hv
def Wh(b:Bg)(y:ω):ω:=.tuple #[γ #[y,ι κ b.base,σ b.doc,ι κ 0],γ #[ι κ b.kind,ι κ b.code,ι κ b.pos,ι κ 0]]
structure PD(B rb sb:Nat)(w0 ws:Wo)(sv:ω)(hv:ω->Prop)(dc:Bs)(vs:List zj)(bl:List Nat)(q:List UInt8)(mo:List zk×List UInt8)(tx:List UInt8×List UInt8)(b:Bg)(X:Nat->Option ω)(w:Wo):Prop where
 v0:∀ v,X 0=η v->v=γ #[sv]
 v1:∀ v,X 1=η v->v=π (η ⟨rb,0,ν⟩)
 v2:∀ v,X 2=η v->v=π (η ⟨rb,0,ν⟩)
 v3:∀ v,X 3=η v->v=γ #[sv]
 v4:∀ v,X 4=η v->hv v
 v5:∀ v,X 5=η v->v= .string dc
 v6:∀ v,X 6=η v->X 7=ν->zX w w0.heap.size v mo.1
 v7:∀ v,X 7=η v->v=σ (ze tx.1)
 v8:∀ v,X 8=η v->∃ y,v=Wh b y/\zX w w0.heap.size y b.ops
 v9:∀ v,X 9=η v->X 8=η v
 v10:∀ v,X 10=η v->∃ y,X 8=η (Wh b y)/\v=γ #[y,ι κ b.base,σ b.doc,ι κ 0]
 v11:∀ v,X 11=η v->v=γ #[ι κ b.kind,ι κ b.code,ι κ b.pos,ι κ 0]
 c7:∀ v,X 7=η v->X 6≠ν
 c8:∀ v,X 8=η v->X 7≠ν
 gr:ws.grownBy w (η rb)
 lw:LW B rb sb w0 w (if (X 7).isSome then tx.2 else if (X 6).isSome then mo.2 else q) sv vs bl
section
variable {B rb sb:Nat} {w0 ws w w2:Wo} {sv:ω} {hv:ω->Prop} {dc:Bs} {vs:List zj} {bl:List Nat} {q:List UInt8} {mo:List zk×List UInt8} {tx:List UInt8×List UInt8} {b:Bg} {X:Nat->Option ω}
theorem PD.to(h:PD B rb sb w0 ws sv hv dc vs bl q mo tx b X w)(hl:LW B rb sb w0 w2 (if (X 7).isSome then tx.2 else if (X 6).isSome then mo.2 else q) sv vs bl)(hg:ws.grownBy w2 (η rb))(ho:∀ v ms,zX w w0 v ms->zX w2 w0 v ms):PD B rb sb w0 ws sv hv dc vs bl q mo tx b X w2:=
 ⟨h.v0,h.v1,h.v2,h.v3,h.v4,h.v5,fun v h1 h2=>ho _ _ (h.v6 v h1 h2),h.v7,fun v h1=>by obtain⟨y,e,r⟩:=h.v8 v h1;exact⟨y,e,ho _ _ r⟩,h.v9,h.v10,h.v11,h.c7,h.c8,hg,hl⟩
theorem PD.cg{X':Nat->Option ω}(h:PD B rb sb w0 ws sv hv dc vs bl q mo tx b X w)(e:∀ j,j<12->X' j=X j):PD B rb sb w0 ws sv hv dc vs bl q mo tx b X' w:=by
 have E:=fun j hj v (hv:X' j=η v)=>(e j hj).symm.trans hv;exact⟨fun v k=>h.v0 v (E 0 (by decide) v k),fun v k=>h.v1 v (E 1 (by decide) v k),fun v k=>h.v2 v (E 2 (by decide) v k),fun v k=>h.v3 v (E 3 (by decide) v k),fun v k=>h.v4 v (E 4 (by decide) v k),fun v k=>h.v5 v (E 5 (by decide) v k),fun v k l=>h.v6 v (E 6 (by decide) v k) ((e 7 (by decide)).symm.trans l),fun v k=>h.v7 v (E 7 (by decide) v k),fun v k=>h.v8 v (E 8 (by decide) v k),fun v k=>(e 8 (by decide)).trans (h.v9 v (E 9 (by decide) v k)),fun v k=>by rw[e 8 (by decide)];exact h.v10 v (E 10 (by decide) v k),fun v k=>h.v11 v (E 11 (by decide) v k),fun v k=>by rw[e 6 (by decide)];exact h.c7 v (E 7 (by decide) v k),fun v k=>by rw[e 7 (by decide)];exact h.c8 v (E 8 (by decide) v k),h.gr,by rw[e 7 (by decide),e 6 (by decide)];exact h.lw⟩
end
theorem LW.put(h:LW B rb sb w wr q sv vs bl)(hg:w.heap.size<=g)(hk:wr.heap[g]?=η (χ cs t (0,0)))(ht:t ∉ [37,9,25])(hp:Uk g (χ ds t (0,0)) wr w2):LW B rb sb w w2 q sv vs bl:=by
 have a:wr.grownBy w2 (η g):=⟨hp.os,hp.tape,hp.output,Nat.le_of_eq hp.size.symm,fun k _ hne=>hp.other k fun e=>hne (congrArg η e)⟩;have f:=h.lt;have i:=h.ds.rd.ge;have d:g ∉ bl:=YL hk (Yr h.row) fun e=>ht (by rcases Υ.1 e with e | e<;>simp_all);exact⟨⟨h.ds.rd.grown a (fun e=>by injection e with e;omega) (fun k e=>by injection e with e;omega),WC h.ds.gr a fun j e=>by injection e with e;omega⟩,(hp.other sb fun e=>by subst e;rw[h.k]at hk;injection hk with hk;injection hk with _ e;exact ht (by rw[← e];simp)).trans h.k,h.row.keep fun b hb'=>hp.other b fun e=>d (e ▸ hb'),h.fs,h.ge,h.ne,h.lt⟩
theorem LW.next{vs':List zj}{bl':List Nat}(h:LW B rb sb w wr q sv vs bl)(hb:Below wr wr w2)(ho:zw Zf w2 v vs' bl')(hf:ZQ wr bl'):LW B rb sb w (w2.setCell sb v) q v vs' bl':=by
 have k:=(h.below hb).k;have b:=(yC.1 h.k).1;have a:sb ∉ bl':=fun e=>by have:=hf.2 sb e;omega
 have:=h.lt;have:=h.ge;exact⟨(h.ds.below hb).set om om _,heap_setCell_same _ _ 0 _ _ _ k,ho.other a 0 v,hf.mono h.ds.size,h.ge,a,h.lt⟩
theorem ze6(h:zX w B v ms)(hk:w.heap[g]?=η (χ cs t (0,0)))(ht:t≠82)(hp:Uk g (χ ds t (0,0)) w w2):zX w2 B v ms:=
 Gg h fun b hb=>hp.other b fun e=>by
  subst e;have d:v.ownBlock=η b:=by simpa using hb
  rcases h with ⟨_,⟨rfl,_⟩ |⟨k,i,j,rfl,_,a,_⟩⟩
  .cases d
  .have f:k=b:=by injection d
   rw[f,hk]at a;injection a with a;injection a with _ e;exact ht e
theorem CA:∀ (vs:List ω) (o:Nat) (w:Wo),(putN w g o vs).heap.size=w.heap.size
 | [],_,_=>rfl
 | v :: r,o,w=>(CA r (o+1) _).trans sm
theorem DX.kv{r:List UInt8}(hr:ZJ w B rb r)(h:DX B rb w q w')(ht:t≠103)(hc:w.heap[g]?=η (χ cs t (0,0))):w'.heap[g]?=η (χ cs t (0,0)):=
 (h.gr.block g (yC.1 hc).1 fun e=>by
  injection e with e;obtain⟨_,_,_,_,_,_,a,_⟩:=hr;rw[← e,hc]at a;injection a with a;injection a with _ e;exact ht e).trans hc
theorem CB(hk:w.heap[g]?=η (χ cs t (0,0)))(xs:List ω)(hl:xs.length=cs.size):Uk g (χ xs.toArray t (0,0)) w (putN w g 0 xs):=by
 have a:Below 0 w (putN w g 0 xs):=Zd ⟨rfl,rfl,rfl,ye _,fun _ _=>rfl⟩ (yu _) xs 0;exact⟨Z3 hk xs hl,fun k hn=>qi hn xs 0,CA xs 0 w,a.os,a.tape,a.output⟩
theorem ze7  {id:Nat}   {ops:Array Oper} {tS tR d0 d1 d2 d3 d4 d5 d6 d7 d8 d9 d10 d11 d12 d13:Tmp} {y0 y1 y2 y3 y4 y5 y6 y7 y8 y9 y10 y11 y12 y13 y14 y15:TypeId} {p0:String} {e0 e1 e2 e3 e4 e5 e6 e7 e8 e9 e10 e11 e12 e13 e14 e15:Array Edge} {i4 i6 i7 i8:Array TypeId} {nm:Int}
    {nn:Int} {tn:Nat} {dc:Bs}    {mo:List zk×List UInt8} {tx:List UInt8×List UInt8} {b:Bg}
  (ho:ops=#[⟨η d0,.load 25 (.tmp tS),y0,p0,e0,ν⟩,⟨η d1,.move (.tmp tR),y1,p0,e1,ν⟩,⟨η d2,.move (.tmp tR),y2,p0,e2,ν⟩,⟨η d3,.load 25 (.tmp tS),y3,p0,e3,ν⟩,⟨η d4,.call {callee:=.value (.func 23),args:=#[.tmp d3],argTypes:=i4},y4,p0,e4,ν⟩,⟨η d5,.field 37 (.tmp d4) 1,y5,p0,e5,ν⟩,
   ⟨η d6,.call {callee:=.value (.func 22),args:=#[.tmp d2,.tmp d5,.const (ι κ nm)],argTypes:=i6},y6,p0,e6,ν⟩,⟨η d7,.call {callee:=.value (.func 21),args:=#[.tmp d1,.tmp d6],argTypes:=i7},y7,p0,e7,ν⟩,⟨η d8,.call {callee:=.value (.func 6),args:=#[.tmp d0,.tmp d7],argTypes:=i8},y8,p0,e8,ν⟩,⟨η d9,.move (.tmp d8),y9,p0,e9,ν⟩,
   ⟨η d10,.extract (.tmp d9) 0,y10,p0,e10,ν⟩,⟨η d11,.extract (.tmp d9) 1,y11,p0,e11,ν⟩,⟨η d12,.alloc 30,y12,p0,e12,ν⟩,⟨η d13,.alloc 32,y13,p0,e13,ν⟩,⟨ν,.store 30 (.tmp d12) (.tmp d10),y14,p0,e14,ν⟩,⟨ν,.store 32 (.tmp d13) (.tmp d11),y15,p0,e15,ν⟩])
  (hB:Of ops=ξ) (hdp:([(4,3),(5,4),(6,2),(6,5),(7,1),(7,6),(8,0),(8,7),(9,8),(10,9),(11,9),(14,12),(14,10),(15,13),(15,11)].all fun p=>Uj ops p.1 p.2)=ξ)
  (hn:[d0,d1,d2,d3,d4,d5,d6,d7,d8,d9,d10,d11,d12,d13].Nodup) (hS:tS ∉ [d0,d1,d2,d3,d4,d5,d6,d7,d8,d9,d10,d11,d12,d13]) (hR:tR ∉ [d0,d1,d2,d3,d4,d5,d6,d7,d8,d9,d10,d11,d12,d13]) (hz:∀ d∈[d0,d1,d2,d3,d4,d5,d6,d7,d8,d9,d10,d11,d12,d13],d<a0.tmps.size)
  (eS:a0.tmps[tS]?.getD undef=π (η sb)) (eR:a0.tmps[tR]?.getD undef=π (η rb)) (L:LW B rb sb w0 w q sv vs bl)
  (C1:∀ wx q',LW B rb sb w0 wx q' sv vs bl->δ prog 23 #[γ #[sv]] wx fun e w'=>∃ ta tc,e=ε (γ #[ι κ nn,dc,ς ta tn tc])/\Below wx wx w')
  (C2:∀ wx,LW B rb sb w0 wx q sv vs bl->δ prog 22 #[rb,dc,ι κ nm] wx fun e w'=>∃ r,e=ε r/\zX w' wx r mo.1/\DX B rb wx mo.2 w')
  (C3:∀ wx r,LW B rb sb w0 wx mo.2 sv vs bl->zX wx w0 r mo.1->δ prog 21 #[rb,r] wx (DT B rb wx tx.1 tx.2))
  (C4:∀ wx,LW B rb sb w0 wx tx.2 sv vs bl->δ prog 6 #[γ #[sv],(ze tx.1)] wx (Ni b wx))
  (hK:∀ w' y g h u0 u1 u2 u3 u4 u5 u6 u7 u8 u9 u10 u11,LW B rb sb w0 w' tx.2 sv vs bl->w.grownBy w' (η rb)->w.heap.size<=g/\w.heap.size<=h->zX w' w0 y b.ops->w'.heap[g]?=η (χ #[y,ι κ b.base,b.doc,ι κ 0] 30 (0,0))->w'.heap[h]?=η (χ #[ι κ b.kind,ι κ b.code,ι κ b.pos,ι κ 0] 32 (0,0)) ->
   Q .normal (Ul a0 [d0,d1,d2,d3,d4,d5,d6,d7,d8,d9,d10,d11,d12,d13] [u0,u1,u2,u3,u4,u5,u6,u7,u8,u9,u10,u11,g,h] 14) w'):(Code.region id ops ξ).wp prog Q a0 w:=by
 refine zbJ (nF:=12) (k:=2) (Tt:=fun i=>if i=0 then 30 else 32) (Zt:=fun i=>if i=0 then #[ς ν 0 0,ι κ 0,σ ⟨#[]⟩,ι κ 0]else #[ι κ 0,ι κ 0,ι κ 0,ι κ 0]) (sr:=fun i=>10+i) (G:=w.heap.size) (Ψ:=PD B rb sb w0 w sv (fun v=>∃ ta tc,v=γ #[ι κ nn,dc,ς ta tn tc]) dc vs bl q mo tx b)
  (by kernel_rfl) hB hn hz rfl (by rw[ho];rfl) ?_ (fun i I=>by omega) ?_ ?_ ?_ (fun X w' h=>h.gr.size) ?_ ?_ ?_ ?_ ?_ ?_ ?_
 .intro i j I Z O;rcases (show i=0/\j=1∨i=1/\j=0 by omega)with ⟨rfl,rfl⟩ |⟨rfl,rfl⟩<;>decide
 .subst ho;intro i o h
  iterate 16
   rcases i with _ | i
   .cases h;exact⟨rfl,rfl⟩
  cases h
 .simp only[List.all_cons,List.all_nil,Α]at hdp;intro i I;rcases (show i=0∨i=1 by omega)with rfl | rfl<;>simp[hdp]
 .have n:∀ {p:ω->Prop},∀ v,(ν:Option ω)=η v->p v:=fun _ h=>by cases h
  exact⟨n,n,n,n,n,n,n,n,n,n,n,n,n,n,YV (yI _ _).drew,L.below (yI _ _).drew⟩
 .exact fun X w' i I h=>h.to (h.lw.below (ZO w' _)) (JF h.gr (YV (ZO w' _))) fun v ms ho=>Zh ho (ZO w' _)
 .exact fun X w' i v I h=>h.cg fun j Z=>Kg (by omega)
 .intro X w1 A g cs ds i I Y h x J;have ht:(if i=0 then 30 else 32) ∉ [37,9,25]/\(if i=0 then 30 else 32)≠82:=by split<;>decide
  exact h.to (h.lw.put (yQ L.ds.size Y) x ht.1 J) (WC h.gr ⟨J.os,J.tape,J.output,Nat.le_of_eq J.size.symm,fun k _ O=>J.other k fun e=>O (congrArg η e)⟩ fun j e=>by injection e with e;omega) fun v ms ho=>ze6 ho x ht.2 J
 .subst ho;intro i o I s V w';rcases (show i=0∨i=1 by omega)with rfl | rfl<;>cases s<;>go_simp
 .subst ho;intro i o I s X V w' g v l h S M x;rcases (show i=0∨i=1 by omega)with rfl | rfl
  .cases s;obtain⟨y,h3,rfl⟩:=h.v10 v M;obtain⟨U,h4,h5⟩:=h.v8 _ h3;have ea:=l.ev S rfl;have eb:=l.ev M rfl;obtain⟨c0,c1,c2,c3⟩:=YD x;have f:=yJ x;have e:Wh b y=Wh b U:=h4;unfold Wh at e;obtain rfl:y=U:=by injection e with e;injection e with e;injection e with e;injection e with e;injection e with e;injection e with e
   obtain⟨a,W,rfl⟩:=Jx h5;refine⟨_,putN w' g 0 [ς a b.ops.length W,ι κ b.base,b.doc,ι κ 0],rfl,?_,CB x [_,_,_,_] rfl⟩;clear l h S M x h3 h4 h5 C1 C2 C3 C4 hK L hn hS hR hz hB hdp;go_simp;rfl
  .cases s;obtain rfl:=h.v11 v M;have ea:=l.ev S rfl;have eb:=l.ev M rfl;obtain⟨c0,c1,c2,c3⟩:=YD x;have f:=yJ x;refine⟨_,putN w' g 0 [ι κ b.kind,ι κ b.code,ι κ b.pos,ι κ 0],rfl,?_,CB x [_,_,_,_] rfl⟩;clear l h S M x C1 C2 C3 C4 hK L hn hS hR hz hB hdp;go_simp;rfl
 .subst ho;simp only[List.all_cons,List.all_nil,Α]at hdp;intro n o aa s X V w' l h hx N;have z:=fun j Z (hd:Uj _ n j=ξ)=>N j Z hd;clear N;have kp:∀ {A:Wo},Below w' w' A->∀ (g:Nat) cs i,i<2->w'.heap[g]?=η (Obj.cells cs (if i=0 then 30 else 32) (0,0))->A.heap[g]?=η (Obj.cells cs (if i=0 then 30 else 32) (0,0)):=fun hb g cs i _ x=>(hb.block g (yC.1 x).1).trans x;have m:∀ (g:Nat) cs i,i<2->w'.heap[g]?=η (Obj.cells cs (if i=0 then 30 else 32) (0,0))->w'.heap[g]?=η (Obj.cells cs (if i=0 then 30 else 32) (0,0)):=fun _ _ _ _ h=>h;have cS:=Zw h.lw.k
  match n,aa with
  | 0,_=>
   cases s;have e:=l.nv eS hS;exact GR (v:=γ #[sv]) (w':=w') (by clear l h z C1 C2 C3 C4 hK L hn hS hR hz hB hdp kp m hx;go_simp) ⟨_,rfl,{h with v0:=fun u hu=>(Option.some.inj hu).symm},m⟩
  | 1,_=>
   cases s;have e:=l.nv eR hR;exact GR (v:=π (η rb)) (w':=w') (by clear l h z C1 C2 C3 C4 hK L hn hS hR hz hB hdp kp m hx;go_simp) ⟨_,rfl,{h with v1:=fun u hu=>(Option.some.inj hu).symm},m⟩
  | 2,_=>
   cases s;have e:=l.nv eR hR;exact GR (v:=π (η rb)) (w':=w') (by clear l h z C1 C2 C3 C4 hK L hn hS hR hz hB hdp kp m hx;go_simp) ⟨_,rfl,{h with v2:=fun u hu=>(Option.some.inj hu).symm},m⟩
  | 3,_=>
   cases s;have e:=l.nv eS hS;exact GR (v:=γ #[sv]) (w':=w') (by clear l h z C1 C2 C3 C4 hK L hn hS hR hz hB hdp kp m hx;go_simp) ⟨_,rfl,{h with v3:=fun u hu=>(Option.some.inj hu).symm},m⟩
  | 4,_=>
   cases s;obtain⟨u3,x3⟩:=z 3 (by decide) hdp.1;obtain rfl:=h.v3 u3 x3;have e3:=l.ev x3 rfl;have x:=C1 w' _ h.lw;refine Oh (R:=fun v A=>(∃ ta tc,v=γ #[ι κ nn,dc,ς ta tn tc])/\Below w' w' A) (f:=23) (args:=#[γ #[sv]]) (w':=w') (by clear x x3;clear l h z C1 C2 C3 C4 hK L hn hS hR hz hB hdp kp m hx;go_simp) (x.mono fun e A k=>by obtain⟨ta,tc,rfl,k⟩:=k;exact⟨_,rfl,⟨ta,tc,rfl⟩,k⟩) ?_;rintro v A ⟨T,H⟩;have h:=h.to (h.lw.below H) (JF h.gr (YV H)) fun v ms ho=>Zh ho H;exact⟨_,rfl,{h with v4:=fun u hu=>Option.some.inj hu ▸ T},kp H⟩
  | 5,_=>
   cases s;obtain⟨u4,x4⟩:=z 4 (by decide) hdp.2.1;obtain⟨ta,tc,rfl⟩:=h.v4 u4 x4;have e4:=l.ev x4 rfl;have hf:(Instr.field 37 (γ #[ι κ nn,dc,ς ta tn tc]) 1).run prog w'= .ok dc w':=by kernel_rfl
   exact GR (v:=.string dc) (w':=w') (by clear x4;clear l h z C1 C2 C3 C4 hK L hn hS hR hz hB hdp kp m hx;go_simp) ⟨_,rfl,{h with v5:=fun u hu=>(Option.some.inj hu).symm},m⟩
  | 6,_=>
   cases s;obtain⟨u2,x2⟩:=z 2 (by decide) hdp.2.2.1;obtain rfl:=h.v2 u2 x2;have e2:=l.ev x2 rfl;obtain⟨u5,x5⟩:=z 5 (by decide) hdp.2.2.2.1;obtain rfl:=h.v5 u5 x5;have e5:=l.ev x5 rfl;have F:X 7=ν:=by
    cases hx7:X 7 with
    | none=>rfl
    | some v=>exact absurd hx (h.c7 v hx7)
   have C:=h.lw;simp only[hx,F,Option.isSome_none,Bool.false_eq_true,if_false]at C;have x:=C2 w' C;refine Oh (R:=fun v A=>zX A w' v mo.1/\DX B rb w' mo.2 A) (f:=22) (args:=#[rb,dc,ι κ nm]) (w':=w') (by clear x C x2 x5 F;clear l h z C1 C2 C3 C4 hK L hn hS hR hz hB hdp kp m hx;go_simp) (x.mono fun e A k=>by obtain⟨r,rfl,k⟩:=k;exact⟨r,rfl,k⟩) ?_;rintro v A ⟨o2,d2⟩;exact⟨_,rfl,{h with v6:=fun u hu _=>by obtain rfl:=Option.some.inj hu;exact qH o2 C.ds.size,v8:=fun u hu=>absurd F (h.c8 u hu),c7:=fun u hu=>absurd (show X 7=η u from hu) (by rw[F];simp),gr:=JF h.gr d2.gr,lw:=by show LW B rb sb w0 A (if (X 7).isSome then tx.2 else mo.2) sv vs bl;rw[F];exact C.step d2},fun g cs i _ x=>d2.kv C.ds.rd (by split<;>decide) x⟩
  | 7,_=>
   cases s;obtain⟨u1,x1⟩:=z 1 (by decide) hdp.2.2.2.2.1;obtain rfl:=h.v1 u1 x1;have e1:=l.ev x1 rfl;obtain⟨u6,P⟩:=z 6 (by decide) hdp.2.2.2.2.2.1;have e6:=l.ev P rfl;have C:=h.lw;simp only[hx,P,Option.isSome_none,Ν,Bool.false_eq_true,if_false,if_true]at C;have x:=C3 w' u6 C (h.v6 u6 P hx);refine Oh (R:=fun v A=>v=σ (ze tx.1)/\DX B rb w' tx.2 A) (f:=21) (args:=#[rb,u6]) (w':=w') (by clear x C x1 P;clear l h z C1 C2 C3 C4 hK L hn hS hR hz hB hdp kp m hx;go_simp) (x.mono fun e A k=>⟨_,k.1,rfl,k.2⟩) ?_;rintro v A ⟨rfl,d2⟩;exact⟨_,rfl,{h with v6:=(fun u hu k=>by cases k),v7:=fun u hu=>(Option.some.inj hu).symm,v8:=fun u hu=>absurd hx (h.c8 u hu),c7:=(fun u hu k=>by have k:X 6=ν:=k;rw[P]at k;cases k),c8:=(fun u hu k=>by cases k),gr:=JF h.gr d2.gr,lw:=C.step d2},fun g cs i _ x=>d2.kv C.ds.rd (by split<;>decide) x⟩
  | 8,_=>
   cases s;obtain⟨u0,x0⟩:=z 0 (by decide) hdp.2.2.2.2.2.2.1;obtain rfl:=h.v0 u0 x0;have e0:=l.ev x0 rfl;obtain⟨u7,F⟩:=z 7 (by decide) hdp.2.2.2.2.2.2.2.1;obtain rfl:=h.v7 u7 F;have e7:=l.ev F rfl;have C:=h.lw;simp only[F,Ν,if_true]at C;have x:=C4 w' C;have n9:∀ u,X 9≠η u:=fun u hu=>by have:=h.v9 u hu;rw[hx]at this;cases this
   refine Oh (R:=fun v A=>∃ y,v=Wh b y/\zX A w' y b.ops/\Below w' w' A) (f:=6) (args:=#[γ #[sv],(ze tx.1)]) (w':=w') (by clear x C x0 F n9;clear l h z C1 C2 C3 C4 hK L hn hS hR hz hB hdp kp m hx;go_simp) (x.mono fun e A k=>by obtain⟨y,rfl,k⟩:=k;exact⟨_,rfl,y,rfl,k⟩) ?_;rintro v A ⟨y,rfl,o2,H⟩;have sz:=C.ds.size;have h:=h.to (h.lw.below H) (JF h.gr (YV H)) fun v ms ho=>Zh ho H;exact⟨_,rfl,{h with v8:=fun u hu=>⟨y,(Option.some.inj hu).symm,qH o2 sz⟩,v9:=fun u hu=>absurd hu (n9 u),v10:=(fun u hu=>by obtain⟨_,k,_⟩:=h.v10 u hu;rw[hx]at k;cases k),c8:=(fun u hu k=>by have k:X 7=ν:=k;rw[F]at k;cases k)},kp H⟩
  | 9,_=>
   cases s;obtain⟨u8,E⟩:=z 8 (by decide) hdp.2.2.2.2.2.2.2.2.1;have e8:=l.ev E rfl;exact GR (v:=u8) (w':=w') (by clear E;clear l h z C1 C2 C3 C4 hK L hn hS hR hz hB hdp kp m hx;go_simp) ⟨_,rfl,{h with v9:=fun u hu=>by obtain rfl:=Option.some.inj hu;exact E},m⟩
  | 10,_=>
   cases s;obtain⟨u9,K⟩:=z 9 (by decide) hdp.2.2.2.2.2.2.2.2.2.1;have e9:=l.ev K rfl;have E:=h.v9 u9 K;obtain⟨y,rfl,-⟩:=h.v8 u9 E;unfold Wh at e9;exact GR (v:=γ #[y,ι κ b.base,b.doc,ι κ 0]) (w':=w') (by clear E K;clear l h z C1 C2 C3 C4 hK L hn hS hR hz hB hdp kp m hx;go_simp) ⟨_,rfl,{h with v10:=fun u hu=>⟨y,E,(Option.some.inj hu).symm⟩},m⟩
  | 11,_=>
   cases s;obtain⟨u9,K⟩:=z 9 (by decide) hdp.2.2.2.2.2.2.2.2.2.2.1;have e9:=l.ev K rfl;have E:=h.v9 u9 K;obtain⟨y,rfl,-⟩:=h.v8 u9 E;unfold Wh at e9;exact GR (v:=γ #[ι κ b.kind,ι κ b.code,ι κ b.pos,ι κ 0]) (w':=w') (by clear E K;clear l h z C1 C2 C3 C4 hK L hn hS hR hz hB hdp kp m hx;go_simp) ⟨_,rfl,{h with v11:=fun u hu=>(Option.some.inj hu).symm},m⟩
  | n+12,h=>exact absurd h (by omega)
 .intro X V w' l h D T;obtain⟨g,cs,x12,l1,k1,x10⟩:=T 0 (by decide);obtain⟨g',cs',x13,l2,k2,x11⟩:=T 1 (by decide);obtain⟨y,E,e10⟩:=h.v10 _ x10;injection e10 with e10;subst e10;have e11:=h.v11 _ x11;injection e11 with e11;subst e11;obtain⟨U,e8,o8⟩:=h.v8 _ E;obtain rfl:y=U:=by unfold Wh at e8;injection e8 with e;injection e with e;injection e with e;injection e with e;injection e with e;injection e with e
  obtain⟨u0,z0⟩:=D 0 (by decide);obtain⟨u1,z1⟩:=D 1 (by decide);obtain⟨u2,z2⟩:=D 2 (by decide);obtain⟨u3,z3⟩:=D 3 (by decide);obtain⟨u4,z4⟩:=D 4 (by decide);obtain⟨u5,z5⟩:=D 5 (by decide);obtain⟨u6,z6⟩:=D 6 (by decide);obtain⟨u7,z7⟩:=D 7 (by decide);obtain⟨u8,z8⟩:=D 8 (by decide);obtain⟨u9,z9⟩:=D 9 (by decide);obtain⟨u10,z10⟩:=D 10 (by decide);obtain⟨u11,z11⟩:=D 11 (by decide);have C:=h.lw;simp only[z7,Ν,if_true]at C;rw[l.fin hn hz [u0,u1,u2,u3,u4,u5,u6,u7,u8,u9,u10,u11,g,g'] rfl ?_]
  .exact hK w' y g g' _ _ _ _ _ _ _ _ _ _ _ _ C h.gr ⟨l1,l2⟩ o8 k1 k2
  .intro i I
   iterate 14
    rcases i with _ | i
    .assumption
   exact absurd I (by simp)
theorem ze8(vs:List zj)(s:Bs):YT (Z4 vs s).ops/\(Z4 vs s).doc.size<=20000:=by
 by_cases h:(Z4 vs s).kind=1
 .obtain⟨m,r,-,-,-,a,b⟩:=SZ h;rw[b];exact⟨Xb s,Fw (Np a).2.1⟩
 .have e:(Z4 vs s).ops=[]/\(Z4 vs s).doc=⟨#[]⟩:=by
   revert h;unfold Z4;split
   .split
    .exact fun _=>⟨rfl,rfl⟩
    .unfold Yp;split
     .unfold qW;split
      .exact fun h=>absurd rfl h
      .exact fun _=>⟨rfl,rfl⟩
     .exact fun _=>⟨rfl,rfl⟩
   .exact fun _=>⟨rfl,rfl⟩
  rw[e.1,e.2];exact⟨⟨fun m hm=>(by cases hm),dc⟩,dc⟩
theorem CD(hG:YK n vs){mo:Nat}(hm:mo<=4)(B rb sb:Nat)(w0:Wo)(sv:ω)(bl:List Nat)(q:List UInt8):∃ (nn:Int) (tn:Nat),
  (∀ wx q',LW B rb sb w0 wx q' sv vs bl->δ prog 23 #[γ #[sv]] wx fun e w'=>∃ ta tc,e=ε (γ #[ι κ nn,σ (ze (ct (Yb vs))),ς ta tn tc])/\Below wx wx w') /\
  (∀ wx,LW B rb sb w0 wx q sv vs bl->δ prog 22 #[rb,σ (ze (ct (Yb vs))),ι κ mo] wx fun e w'=>∃ r,e=ε r/\zX w' wx r (Y0 (Yb vs) mo q).1/\DX B rb wx (Y0 (Yb vs) mo q).2 w') /\
  (∀ wx r,LW B rb sb w0 wx (Y0 (Yb vs) mo q).2 sv vs bl->zX wx w0 r (Y0 (Yb vs) mo q).1->δ prog 21 #[rb,r] wx (DT B rb wx (Ys vs mo q).1 (Ys vs mo q).2)) /\
  (∀ wx,LW B rb sb w0 wx (Ys vs mo q).2 sv vs bl->δ prog 6 #[γ #[sv],σ (ze (Ys vs mo q).1)] wx (Ni (Z4 vs (ze (Ys vs mo q).1)) wx)):=by
 obtain⟨k,h,r,i,g,-,b,f⟩:=Cu hG;have a:=Cw f mo q;have d:(Y0 (Yb vs) mo q).1.length<=4:=yQ a.2 hm;refine⟨vs[k].no,vs[k].touched.length,fun wx q' hx=>?_,fun wx hx=>zdr B rb (Yb vs) mo q wx hx.ds.rd f om,fun wx r hx ho=>zdu B rb r _ _ _ wx hx.ds.rd ho.orow.1 a.1 d (fun hb=>by have:=ho.orow.2.2 rb hb;have:=hx.lt;omega),fun wx hx=>Ct _ vs bl _ wx hx.row hG.vin (by rw[zL];exact yQ (Cv a.1 d _) dc)⟩;rw[← b];exact S5 sv vs bl k wx hx.row h i g
def SvP(B rb:Nat)(w:Wo)(s:List zj×List UInt8)(e:Ending)(w':Wo):Prop:=∃ sv bl,e=ε (γ #[sv])/\zw Zf w' sv s.1 bl/\ZQ w.heap.size bl/\DX B rb w s.2 w'
theorem zfa(B rb:Nat)(most:Nat)(q0:List UInt8)(w:Wo)(h:ZJ w B rb q0)(hm:most<=10):
  δ prog 20 #[rb,ι κ (most:Int)] w (SvP B rb w (Vj most q0)):=by
 have af:=h.lt;have HX:=zb fun q wx (l:ZJ wx B rb q)=>Q6 B rb q wx l;have hA:=ZO w (χ #[ς ν 0 0] 25);have kA:=yH w (χ #[ς ν 0 0] 25);have G:=zb ((DX.refl h).below hA);have U:=zb kA;have R:=zb (zcu B rb q0 _ G.rd);obtain⟨hd,hg⟩:=Cz q0;have aa:=zb fun wx=>zeG (ze (ct (JH q0).1)) wx (by rw[zL];have:=hd.len;omega);have Z:=zb (ze5 hg);have S:=zb (Cy hd hg);unfold Vj;clear h hA kA hd hg;generalize ze (ct (JH q0).1)=D at *;generalize (JH q0).2=s at *;have hx:=QS s;generalize hRR:UI 2 ((nx s).1 % (most+1)) ([⟨0,D,[]⟩],(nx s).2)=RR;have N:=zb hRR;clear hRR;have HN:=zb fun wx (l:ZJ wx B rb s)=>Q6 B rb s wx l;obtain⟨n,hn⟩:∃ n,(nx s).1 % (most+1)=n:=⟨_,rfl⟩;have hn':((nx s).1:Int) % ((most:Int)+1)=(n:Int):=by rw[← hn,Int.natCast_emod,Int.natCast_add];rfl
 rw[hn]at N;have hnm:n<=most:=by have:=Nat.mod_lt (nx s).1 (show 0<most+1 by omega);omega
 have hz1:¬ (most:Int)+1=0:=om;generalize (nx s).1=x at *;generalize (nx s).2=q2 at *;clear hn;go_in;go_wp2_with fail;go_call R as e w1 ⟨rfl,d1⟩;have H:=zb (G.step d1);have Y:=zb (uh aa w1);have J:=zb ((d1.gr.block w sm fun e=>by injection e with e;omega).trans U);clear R d1 G aa U;go_wp2_with fail;go_call Y as e w2 ⟨v2,bl2,rfl,⟨p2,rfl,o2⟩,f2,b2⟩;have hz2:=H.size;have Q:=zb (H.below b2);have K:=zb ((b2.block w (by have:=(yC.1 J).1;omega)).trans J);rw[uh Z]at o2;obtain⟨pa,pc,hp2,-,-⟩:=o2.form;obtain rfl:p2=ς pa 1 pc:=hp2;have hs2:=b2.size;have E:=ZO w2 (χ #[ς pa 1 pc] 25);have r:w.heap.size<w2.heap.size:=(yC.1 K).1;have M:Hid (LW B rb w2 w (w2.alloc (χ #[ς pa 1 pc] 25)) s (ς pa 1 pc) [⟨0,D,[]⟩] bl2):=⟨Q.below E,yH w2 _,o2.below E,f2.mono om,om,fun hb=>by have:=o2.lt _ hb;omega,af⟩;have L:=zb ((E.block w r).trans K);have HSB:Hid (w.heap.size<w2.heap.size):=r;clear Y H J Z Q K E o2 f2 b2 hs2 r hz2;go_wp2_with fail;generalize w2.alloc _=w3 at *;generalize w2.heap.size=sb at *;go_call uh HN _ M.ds.rd as e w4 ⟨rfl,d4⟩;have X:=zb ((uh M).step d4);have V:=zb ((d4.gr.block w.heap.size (yC.1 L).1 fun e=>by injection e with e;omega).trans L);clear HN d4 M L;go_wp2_with fail;simp only[hn'];go_loopw [8] (fun i wr=>∃ (j:Nat) (q:List UInt8) (sv:ω) (a:List zj) (P:List Nat),i=ι κ (j:Int)/\j<=n/\Hid (YK j a)/\Hid (LW B rb sb w wr q sv a P)/\Hid (wr.heap[w.heap.size]?=η (χ #[ς ν 0 0] 25 (0,0)))/\Hid (UI 2 (n - j) (a,q)=RR)) (fun i _=>n - (intOf i).toNat)
 case atStart=>exact⟨0,q2,_,_,bl2,rfl,yu _,S,X,V,N⟩
 case round=>
  obtain⟨j,q,sv,a,P,rfl,hj,HG,z,I,HR⟩:=hrel;clear S X V N;by_cases hlt:j<n
  .have ad:(j:Int)<(n:Int):=om;have l:=uh HR;rw[show n - j=(n - (j+1))+1 by omega,UI]at l;have u:=zb (HG.step om (ze (Ys a 2 q).1));unfold Db at l;simp only at l;have C:=zb l;obtain⟨pa,pc,rfl,-,-⟩:=z.row.form;clear l HR HX;go_wp2_with fail;obtain⟨nn,tn,C1,C2,C3,C4⟩:=CD HG (show 2<=4 by decide) B rb sb w (ς pa a.length pc) P q;refine ze7 rfl kr kr dc dc dc (by show ∀ d∈_,d<50;decide) rfl rfl z C1 C2 C3 C4 ?_;intro w5 y g h z0 z1 z2 z3 z4 z5 z6 z7 z8 z9 z10 z11 p ab hgh o5 k5 k6;have m:=zb p;have v:=zb ((ab.block w (yC.1 I).1 fun e=>by injection e with e;omega).trans I);obtain⟨p0,p1,p2,p3⟩:=YD k5;obtain⟨v0,-,-,-⟩:=YD k6;have s0:=Zw p.k;have fS:=yJ p.k 0;obtain⟨oa,oc,rfl⟩:=Jx o5;generalize (Ys a 2 q).2=q5 at *;generalize ze (Ys a 2 q).1=T at *;have O:=ze8 a T;have F:=zb (ze4 _ _ a ⟨(Z4 a T).ops,(Z4 a T).base,(Z4 a T).doc,0⟩ P _ w5 p.row o5.orow.1 HG.vin O.1 (by have:=O.2;simp only;omega));have f:Nq a T=if (Z4 a T).kind=1 then (Ya a ⟨(Z4 a T).ops,(Z4 a T).base,(Z4 a T).doc,0⟩).vs else a:=rfl
   clear p ab hgh o5 k5 k6 C1 C2 C3 C4 z I HG O;simp only[Ul];go_simp;by_cases b:(Z4 a T).kind=1
   .rw[yg b]at f;have o:=zb C;rw[f]at o u;have hk2:((Z4 a T).kind ==1)=ξ:=by rw[yD];exact b
    clear f C;generalize Z4 a T=bb at *;generalize Ya a _=A at *;clear b;go_wp2_with fail;go_call F as e w6 ⟨v6,vo,bl6,rfl,o6,f6,-,b6⟩;obtain⟨a6,n6,rfl,-,-⟩:=o6.form;have HL6:=zb (m.next b6 o6 f6);have W:=zb ((b6.block w (yC.1 v).1).trans v);have s6:=Zw (m.below b6).k;have f6':=yJ (m.below b6).k 0;have hne:¬ sb=w.heap.size:=by have:=uh HSB;omega
    have HK7:=zb ((Β w6 sb (ς a6 A.vs.length n6) w (fun e=>hne e.symm)).trans W);clear F o6 f6 b6 m v W p0 p1 p2 p3 v0 s0 fS;go_wp2;go_roundw
    all_goals first
     | exact⟨j+1,q5,_,_,bl6,by go_num,om,u,HL6,HK7,o⟩
     |(simp[intOf];omega)
   .rw[yf b]at f;have o:=zb C;rw[f]at o u;have hk2:((Z4 a T).kind ==1)=ζ:=by rw[yd];exact b
    clear f F C b;go_wp2;go_roundw
    all_goals first
     | exact⟨j+1,q5,_,_,P,by go_num,om,u,m,v,o⟩
     |(simp[intOf];omega)
  .have ad:¬ (j:Int)<(n:Int):=om;obtain rfl:j=n:=by omega
   have l:=uh HR;rw[Nat.sub_self,UI]at l;subst l;obtain⟨pa,pc,rfl,-,-⟩:=z.row.form;have c0:=Zw z.k;have c1:=Zw I;have f1:=yJ I 0;go_wp2;refine bodyPost_ret (results_cell_row rfl _ _ _ _ _ (0,0) _ rfl (heap_setCell_same _ _ 0 _ _ _ I) underlying25 rfl kr) rfl ?_;exact⟨_,P,rfl,z.row.other (YL I (Yr z.row) dc) 0 _,z.fs,z.ds.set af (ye _) _⟩
def VK(k:Nat)(m:zj):zj:=if k % 6=0 then ⟨((k / 6:Nat):Int) - 3,m.doc,m.touched⟩else if k % 6=1 then ⟨m.no,ze (32 :: m.doc.data.toList),m.touched⟩else if k % 6=2 then ⟨m.no,m.doc,m.touched++[zG [47,97]]⟩else ⟨m.no,m.doc,[zG [47,126]]⟩
def Dd(vs:List zj):Int:=(vs.getLast?.map (·.no)).getD 0
def Gy:Nat->List zj->List zj
 | 0,vs=>vs
 | n+1,vs=>if vs.length<=8 then Gy n (vs++[⟨Dd vs+1,ze [49],[]⟩])else vs
def De(k i:Nat)(vs:List zj):List zj:=if k % 6=3 then []else if k % 6=4 then Gy 9 vs else match vs[i]? with | some m=>vs.set i (VK k m) | none=>vs
def UJ(vs:List zj)(q:List UInt8):List zj×List UInt8:=(De (nx q).1 ((nx (nx q).2).1 % vs.length) vs,(nx (nx q).2).2)
theorem CE:∀ (n:Nat) (vs:List zj),JN vs->JN (Gy n vs)
 | 0,_,h=>h
 | n+1,vs,h=>by
  rw[Gy];split
  .refine CE n _ fun k hk=>?_;rcases Κ.1 (yt hk)with hm | hm
   .obtain⟨j,hj,e⟩:=Δ hm;rw[← e];exact h j hj
   .rw[Γ.1 hm];exact⟨(by decide:(ze [49]).size<=1048576),fun s hs=>by simp at hs,yu _⟩
  .exact h
theorem zfb(h:YK n vs)(q:List UInt8):JN (UJ vs q).1:=by
 unfold UJ De;simp only;split
 .exact fun k g=>by simp at g
 .split
  .exact CE 9 vs h.vin
  .split
   .rename_i m hm;obtain⟨o,rfl⟩:=List.getElem?_eq_some_iff.1 hm;intro k g;rcases List.mem_or_eq_of_mem_set (yt g)with b | b
    .obtain⟨j,p,e⟩:=Δ b;rw[← e];exact h.vin j p
    .rw[b];have i:=(YJ.1 h.ok).2.2.2.2 _ o;simp only[qc,Α]at i;have r:=Fw i.1.2;have u:=(SP.1 i.2).1;obtain⟨d,f,l⟩:=h.vin _ o;unfold VK
     repeat' split
     .exact⟨d,f,l⟩
     .exact⟨by simp only[zL,yp,Zo];omega,f,l⟩
     .refine⟨d,fun s a=>?_,by simp only[yh,yS];omega⟩;rcases Κ.1 a with a | a
      .exact f s a
      .rw[Γ.1 a];decide
     .exact⟨d,fun s a=>by rw[Γ.1 a];decide,(by decide:1<=1048576)⟩
   .exact h.vin
