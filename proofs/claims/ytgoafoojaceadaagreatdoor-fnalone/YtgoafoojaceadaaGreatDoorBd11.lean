import Derived.Laws.EntriesVeiled
import Derived.Test.YtgoafoojaceadaaGreatDoorBd10
set_option maxRecDepth 100000
set_option maxHeartbeats 8000000
open Go renaming Calls->δ,Value->ω
open Go.Ending renaming returned->ε
open Go.IntKind renaming i64->κ
open Go.Lib renaming byteCells->Γ
open Go.Obj renaming cells->χ
open Go.RowKit.Below renaming heap_setCell->Ζ
open Go.Value renaming agg->γ,bool->θ,int->ι,pointer->π,slice->ς,string->σ,tuple->τ
open _root_.Bool renaming false->ζ,false_eq_true->Ν,true->ξ
open _root_.ByteArray renaming empty->Β
open _root_.List renaming concat_eq_append->Μ,drop_eq_getElem_cons->Δ,eq_nil_or_concat->Κ,findIdx?_eq_none_iff->Ξ,getElem?_append_left->Ι,isPrefixOf_iff_prefix->Η,mem_append->Α,mem_flatMap->Ρ,nodup_append->Ο
open _root_.Option renaming bind_eq_some_iff->Ε,none->ν,some->η
open _root_.UInt8 renaming ofNat->Θ
namespace Go.Proofs.YtgoafoojaceadaaGreatDoor
open Go.RowKit Go.Proofs.Tryz
variable{w w1 w2 w':Wo}{B g rb n k e size i:Nat}{v u:JV}{bl ib:List Nat}{ms:List zk}{m o:zk}{r:ω}{q q' acc:List UInt8}{ts:List TypeId}{vs:List ω}{ss:List Bs}{xs:List qj}{ops:Array Oper}{a:Act}{Q:Exit->Act->Wo->Prop}{s:Bs}{rest:List Oper}
theorem Qh {P:Program} {fn:Func} {p r:Tmp} {ty:TypeId} (h:fn.results=#[.cell p ty,.tmp r]) (tmps:Array ω) (w:Wo) (g:Nat) (t:TypeId) (cs:Array ω) (fr:Nat×Nat) (d:TypeDesc) (v:ω)
  (hp:tmps.getD p undef=π (η g)) (hr:tmps.getD r undef=v) (hg:w.heap[g]?=η (χ cs t fr))
  (hu:P.underlying ty=η d) (hd:(match d with | .struct _ | .array _ _=>ξ | _=>ζ)=ξ) (hi:(P.info? ty).map (·.size)=η cs.size):
  (results fn tmps).run P w= .ok (.tuple #[.agg cs,v]) w:=by
 have a:tmps[p]?.getD undef=π (η g):=by simpa using hp
 have b:tmps[r]?.getD undef=v:=by simpa using hr
 simp[results,h,a,b,asAddr,run_loadVar_row w g t ty cs fr d hg hu hd hi]
def QA(ts:List TypeId)(w:Wo)(bl:List Nat):Prop:=∀ b∈bl,∃ cur t,w.heap[b]?=η (χ cur t (0,0))/\t∈ts
theorem Sa{v:ω}{xs:List ω}(h:w.ownsRow B e size v n xs):QA [e] w v.ownBlock.toList:=by
 intro b a;rcases h.2 with ⟨f,_⟩ |⟨g,i,d,f,_,j,_⟩
 .rw[f]at a;simp[Value.ownBlock]at a
 .rw[f]at a;simp[Value.ownBlock]at a;subst a;exact⟨d,e,j,sm⟩
theorem QA.mono{ts':List TypeId}(h:QA ts w bl)(hs:∀ t∈ts,t∈ts'):QA ts' w bl:=fun b hb=>by
 obtain⟨a,t,d,f⟩:=h b hb;exact⟨a,t,d,hs t f⟩
theorem QA.app{cl:List Nat}(h:QA ts w bl)(k:QA ts w cl):QA ts w (bl++cl):=fun b a=>by
 rcases Α.1 a with a | a
 .exact h b a
 .exact k b a
theorem QA.keep(h:QA ts w bl)(hk:Kp bl w w'):QA ts w' bl:=fun b hb=>by
 obtain⟨a,t,d,f⟩:=h b hb;exact⟨a,t,(hk b hb).trans d,f⟩
theorem TH{α:Type}{e:Jq α}(he:∀ {w vs x bl},e.E w vs x bl->QA ts w bl){v:ω}{xs:List α}(h:zw e w v xs bl):QA (e.T :: ts) w bl:=by
 obtain⟨n,o,i,l,rfl⟩:=h;refine ((Sa l).mono sm).app fun b d=>?_;obtain⟨p,m,d⟩:=Ρ.1 d;obtain⟨j,k,rfl⟩:=yY.1 m;obtain⟨a,t,f,g⟩:=he (i j n[j] (xs[j]'om) (yy k) (yy om)) b d;exact⟨a,t,f,yw _ g⟩
theorem zcY(h:Ut.E w vs s bl):QA [] w bl:=by
 obtain⟨_,rfl⟩:=h;intro b a;simp at a
theorem zcZ{v:ω}(h:QK w v ss bl):QA [9] w bl:=TH (e:=Ut) zcY h
theorem zc0{v:ω}{xs:List ω}(h:w.ownsRow 0 e size v n xs)(hB:∀ g,v.ownBlock=η g->B<=g):w.ownsRow B e size v n xs:=by
 refine⟨h.1,?_⟩;rcases h.2 with f |⟨g,a,b,d,_,r⟩
 .exact .inl f
 .exact .inr ⟨g,a,b,d,hB g (by rw[d];rfl),r⟩
theorem zw.app {α:Type} {e:Jq α}  (he:∀ {w vs x bl},e.E w vs x bl->QA ts w bl) (hts:e.T ∉ ts)   {v:ω} {xs:List α}  (h:zw e w v xs bl) (hF:ZQ B bl)
   {x:α}  (hE:e.E w vs x ib) (hFi:ZQ B ib) (hap:∀ b∈ib,b ∉ bl):
  ∃ cs,w.ownsRow B e.T e.wd v xs.length cs/\∀ v' w',w'.ownsRow B e.T e.wd v' (xs.length+1) (cs++vs)->w.grownBy w' v.ownBlock->∃ bl',zw e w' v' (xs++[x]) bl'/\ZQ B bl'/\∀ b∈bl',b∈bl∨b∈ib∨v'.ownBlock=η b:=by
 have A:=h.lt;have o:=e.lt hE;obtain⟨l,H,n,L,rfl⟩:=h;refine⟨l.flatMap (·.1),zc0 L fun g hg=>hF.2 g (by simp[hg]),fun v' w' ho' hg=>?_⟩;have u:=hF.1;rw[Ο]at u;have G:Kp (l.flatMap (·.2)) w w':=fun b d=>hg.block b (A b (Α.2 (.inr d))) fun i=>u.2.2 b (by simp[← i]) b d rfl;have z:Kp ib w w':=fun b d=>hg.block b (o b d) fun i=>hap b d (Α.2 (.inl (by simp[← i])));have m:=e.keep hE z;have K:QA ts w' (l.flatMap (·.2)++ib):=by
  refine QA.app (QA.keep (fun b d=>?_) G) (he m);obtain⟨p,f,d⟩:=Ρ.1 d;obtain⟨j,F,rfl⟩:=yY.1 f;exact he (n j l[j] (xs[j]'om) (yy F) (yy om)) b d
 refine⟨v'.ownBlock.toList++(l.flatMap (·.2)++ib),⟨l++[(vs,ib)],by simp[H],?_,?_,sm⟩,⟨?_,?_⟩,?_⟩
 .intro j p y f q;by_cases F:j<xs.length
  .rw[Ι om]at f q;exact e.keep (n j p y f q) fun b d=>G b (Ρ.2 ⟨p,List.mem_of_getElem? f,d⟩)
  .have C:=(List.getElem?_eq_some_iff.1 q).1;rw[yh,yS]at C;have:j=xs.length:=om;subst this;rw[← H]at f;simp at f q;subst f;subst q;exact m
 .rw[List.flatMap_append,yh];have:=qH ho' (yu B);simpa using this
 .rw[Ο];refine⟨by cases v'.ownBlock<;>simp,?_,?_⟩
  .rw[Ο];exact⟨u.2.1,hFi.1,fun a s b d i=>hap b d (Α.2 (.inr (i ▸ s)))⟩
  .intro a s b d i;subst i;obtain⟨I,t,J,E⟩:=Sa ho' a s;obtain⟨D,M,k,r⟩:=K a d;rw[J]at k;simp at k E;exact hts (E ▸ k.2 ▸ r)
 .intro b d;rcases Α.1 d with d | d
  .exact (ho'.lt b (by simpa using d)).1
  .rcases Α.1 d with d | d
   .exact hF.2 b (Α.2 (.inr d))
   .exact hFi.2 b d
 .intro b d;rcases Α.1 d with d | d
  .exact .inr (.inr (by simpa using d))
  .rcases Α.1 d with d | d
   .exact .inl (Α.2 (.inr d))
   .exact .inr (.inl d)
theorem QK.cells{v:ω}(h:QK w v ss bl):(v=ς ν 0 0/\ss=[])∨∃ g cap,v=ς (η g) ss.length cap/\∀ (j:Nat) (u:ω),(ss.map Value.string)[j]?=η u->w.cell? ((g:Addr).add j)=η u:=by
 obtain⟨b,_⟩:=Vu.1 h;rcases b.2 with ⟨a,f⟩ |⟨g,cap,d,a,_⟩
 .exact .inl ⟨a,yO f⟩
 .exact .inr ⟨g,cap,a,fun j u hu=>b.cells (by rw[a];rfl) j u hu⟩
theorem zw.head{α:Type}{e:Jq α}{v:ω}{xs:List α}(h:zw e w v xs bl)(hg:v.ownBlock=η g):g∈bl:=by
 obtain⟨a,h⟩:=h.split;rw[h,hg];simp
theorem zc1(ss:List Bs):∀ u∈ss.map Value.string,u.oneCell'=ξ:=by
 intro u a;obtain⟨s,_,rfl⟩:=yP.1 a;rfl
theorem zc2    {o:Oper}   (hg:o.guard=ν) (s x:Operand)
  (ho:o.op= .call {callee:=.builtin .append,args:=#[s,x],argTypes:=#[35,35]})  {v u:ω} {us:List Bs} {bk:List Nat} (hs:a.eval s=v) (hx:a.eval x=u)
  (h:w.ownsRow B 9 1 v ss.length (ss.map .string)) (k:QK w u us bk) (hB:B<=w.heap.size) (hl:ss.length+us.length<=4000000)
  (hK:∀ v' w',w'.ownsRow B 9 1 v' (ss++us).length ((ss++us).map .string)->w.grownBy w' v.ownBlock->wpList prog ops Q rest (a.put o.dst v') w'):wpList prog ops Q (o :: rest) a w:=by
 obtain⟨m,l,f,i,j⟩:=info_parts MJ;rcases k.cells with ⟨rfl,rfl⟩ |⟨g,d,rfl,b⟩
 .refine wpList_append_own_none hg s x 35 ho B 9 m 1 underlying35 l v _ _ hs h hx ?_;exact hK v w (by rw[yT];exact h) (World.grownBy.refl _ _)
 .refine wpList_append_own _ hg s x 35 ho B 9 m Β 1 16 underlying35 l f i j rfl dc v _ _ hs h g us.length d (us.map .string) hx sm b (zc1 us) mo om hB ?_;intro v' w' n p _;refine hK v' w' ?_ p;rw[yh,yx];exact n
theorem Sb {α:Type} {e:Jq α}  (he:∀ {w vs x bl},e.E w vs x bl->QA ts w bl) (hts:e.T ∉ ts) {t:TypeId} (ht:prog.underlying t=η (.slice e.T)) {z:ω} {bytes:Nat}
  (hinfo:(prog.info? e.T).map (fun i=>(i.zero,i.size,i.bytes))=η (η z,e.wd,bytes)) (hzs:z.cells.size=e.wd) (hsz:0<e.wd) (hby:bytes<=100)
    {o:Oper}  {K:Act->Wo->Prop}  {F:Prop} (hg:o.guard=ν) (s x:Operand)
  (ho:o.op= .call {callee:=.builtin .append,args:=#[s,x],argTypes:=#[t,t]})  {v:ω} {xs:List α}  (hs:a.eval s=v)
  (h:zw e w v xs bl) (hF:ZQ B bl)  {y:α}  (hE:e.E w vs y ib) (hFi:ZQ B ib) (hap:∀ b∈ib,b ∉ bl)  (hx:a.eval x=ς (η g) 1 1)
  (hcell:∀ (j:Nat) (u:ω),vs[j]?=η u->w.cell? ((g:Addr).add j)=η u) (h1:∀ u∈vs,u.oneCell'=ξ) (hB:B<=w.heap.size) (hl:xs.length<=40000000)
  (hK:∀ v' w' bl',zw e w' v' (xs++[y]) bl'->ZQ B bl'->(∀ b∈bl',b∈bl∨b∈ib∨v'.ownBlock=η b)->w.grownBy w' v.ownBlock->K (a.put o.dst v') w'):
  if Region.wanted o (yielded ops a.tmps)=ξ then Oper.wp prog o a w K Q else F:=by
 have C:Region.wanted o (yielded ops a.tmps)=ξ:=by simp[Region.wanted,hg]
 rw[yg C];obtain⟨D,A,k,l,m⟩:=info_parts hinfo;obtain⟨cs,f,d⟩:=h.app he hts hF hE hFi hap;refine wp_append_own w s x t ho B e.T D z e.wd bytes ht A k l m hzs hsz v _ cs hs f g 1 1 vs hx (by rw[e.len hE];omega) hcell h1 mo ?_ hB ?_
 .have:(xs.length+1)*bytes<=(xs.length+1)*100:=Nat.mul_le_mul_left _ hby
  omega
 .intro v' w' h1 n _;obtain⟨bl',p,q,r⟩:=d v' w' h1 n;exact hK v' w' bl' p q r n
theorem Fa(w:Wo)(vs:List ω)(T:TypeId):∀ (j:Nat) (u:ω),vs[j]?=η u->(w.alloc (χ vs.toArray T)).cell? ((w:Addr).add j)=η u:=by
 intro j u a;have h:=yG (yH w (χ vs.toArray T)) j;rw[Go.WideShapes.add_plain,Nat.zero_add,h];simpa using a
theorem zc3{v:ω}(h:w.ownsRow B 9 1 v ss.length (ss.map .string)):QK w v ss v.ownBlock.toList/\ZQ B v.ownBlock.toList:=
 ⟨Vu.2 ⟨qH h (yu _),rfl⟩,by cases v.ownBlock<;>simp,fun b hb=>(h.lt b (by simpa using hb)).1⟩
theorem Fb(w:Wo)(e size:Nat):(w.alloc (χ #[] e)).ownsRow w e size (ς (η w) 0 0) 0 []:=by
 exact w.ownsRow_made #[] 0 (ye _) (yu _) sm
def ZG(N g m n yc:Nat)(z:Int)(qv:ω)(w:Wo):Prop:=w.cell? ⟨N,1,ν⟩=η (ς (η ⟨g,0,ν⟩) n yc)/\w.cell? ⟨g,m*2,ν⟩=η (ι κ z)/\w.cell? ⟨g,m*2+1,ν⟩=η qv
section
variable {N g m n yc:Nat} {z:Int} {qv:ω} {w w':Wo}
theorem ZG.keep(h:ZG N g m n yc z qv w)(hb:Below w w w'):ZG N g m n yc z qv w':=
 ⟨(hb.cell (yK _ _ h.1)).trans h.1,(hb.cell (yK _ _ h.2.1)).trans h.2.1,(hb.cell (yK _ _ h.2.2)).trans h.2.2⟩
theorem ZG.grown{row:Option Nat}(h:ZG N g m n yc z qv w)(hg:w.grownBy w' row)(hr:∀ b,row=η b->N+1+1<=b)(hN:g<N):ZG N g m n yc z qv w':=
 ⟨hg.cell h.1 fun e=>by have:=hr N e.symm;omega,hg.cell h.2.1 fun e=>by have:=hr g e.symm;omega,hg.cell h.2.2 fun e=>by have:=hr g e.symm;omega⟩
theorem ZG.set(h:ZG N g m n yc z qv w)(hN:g<N)(o:Nat)(u:ω):ZG N g m n yc z qv (w.setCell ⟨N+1+1+1+1,o,ν⟩ u):=
 ⟨(World.cell?_of_block (w:=w) (Ζ _ _ _ _ so)).trans h.1,(World.cell?_of_block (w:=w) (Ζ _ _ _ _ so)).trans h.2.1,(World.cell?_of_block (w:=w) (Ζ _ _ _ _ so)).trans h.2.2⟩
end
theorem QA.not(h:QA ts w bl){v:ω}{xs:List ω}(ho:w.ownsRow B e size v n xs)(hn:e ∉ ts)(hg:v.ownBlock=η g):g ∉ bl:=fun hm=>by
 obtain⟨f,t,i,j⟩:=h g hm;obtain⟨b,k,a,d⟩:=Sa ho g (by simp[hg]);rw[i]at a;injection a with a;injection a with _ a;simp at d;exact hn (d ▸ a ▸ j)
theorem zc4{x:Bs}(h:Ut.E w vs x bl):∀ u∈vs,u.oneCell'=ξ:=by
 obtain⟨rfl,_⟩:=h;intro u a;simp at a;subst a;rfl
theorem zc5:(prog.info? Ut.T).map (fun i=>(i.zero,i.size,i.bytes))=η (η (σ Β),Ut.wd,16):=MJ
theorem zc6(v:ω)(xs:List Bs)(bl:List Nat)(w:Wo)(h:QK w v xs bl)(hm:xs.length<=2097154):
  δ prog 75 #[v] w fun e w'=>∃ v' bl',e=ε v'/\QK w' v' xs bl'/\ZQ w bl'/\Below w w w':=by
 have j:bl=v.ownBlock.toList++[]:=by rw[yT];exact (Vu.1 h).2
 subst j;have H:=zb h;go_in;go_wp2_with (at_builtin;refine MT (e:=Ut) zc4 underlying35 zc5 rfl dc dc rfl (.const (ς ν 0 0)) (.tmp 3) rfl rfl rfl H om ?_);intro v' w' k i f;have g:=zb k;have a:=zb i;have d:=zb f;go_wp2;go_ret;refine⟨_,_,rfl,g,⟨?_,fun b f=>uh a b (by simpa using f)⟩,d⟩
 cases v'.ownBlock<;>simp
structure zc7{α:Type}(cells:List α)(f c:Nat)(q:List α):Prop where
 cnt:c=q.length
 le:c<=cells.length
 lt:f<cells.length∨cells=[]
 at_:∀ (i:Nat) (x:α),q[i]?=η x->cells[(f+i) % cells.length]?=η x
structure Sc{α:Type}(e:Jq α)(w:Wo)(g o:Nat)(cv:ω)(f c:Nat)(ms:List α)(q:List α)(cb:List Nat):Prop where
 c0:w.cell? ⟨g,o,ν⟩=η cv
 c1:w.cell? ⟨g,o+1,ν⟩=η (ι κ (f:Int))
 c2:w.cell? ⟨g,o+2,ν⟩=η (ι κ (c:Int))
 row:zw e w cv ms (cv.ownBlock.toList++cb)
 ring:zc7 ms f c q
theorem Sc.below{α:Type}{e:Jq α}{o:Nat}{cv:ω}{f c:Nat}{ms q:List α}{cb:List Nat}(h:Sc e w g o cv f c ms q cb)(hb:Below w w w'):Sc e w' g o cv f c ms q cb:=
 ⟨(hb.cell (yK _ _ h.c0)).trans h.c0,(hb.cell (yK _ _ h.c1)).trans h.c1,(hb.cell (yK _ _ h.c2)).trans h.c2,h.row.below hb,h.ring⟩
def zc8(vs:List zj)(w:Wo)(e:Ending)(w':Wo):Prop:=∃ v bl,e=ε (γ #[v])/\zw Zf w' v vs bl/\ZQ w.heap.size bl/\Bw w w'
theorem Fc{m:zj}(h:Zf.E w vs m bl):QA [9] w bl:=by obtain⟨q,_,h⟩:=h;exact zcZ h
theorem ON:(prog.info? Zf.T).map (fun i=>(i.zero,i.size,i.bytes))=η (η (γ #[ι κ 0,Β,ς ν 0 0]),Zf.wd,48):=by kernel_rfl
def JU(k:Int):ω:=if k=1 then .func (Fn.func 180) #[] #[]else if k=2 then .func (Fn.func 181) #[] #[]else if k=3 then .func (Fn.func 182) #[] #[]else if k=4 then .func (Fn.func 183) #[] #[]else if k=5 then .func (Fn.func 184) #[] #[]else .func (Fn.func 185) #[] #[]
def YW(k:Int):Bool:=k ==4
def YX(k:Int):Bool:=k ==1 || k ==2 || k ==4 || k ==5
def G1(k:Int):Bs:=ze (ZV k)
theorem Sd(hg:w.heap[g]?=η (χ Qr 154 (0,0))){j:Nat}(hj:j<6){k:Int}(hk:k=(j:Int)+1):
  w.cell? ⟨g,j*7,ν⟩=η (G1 k)/\w.cell? ⟨g,j*7+1,ν⟩=η (ι κ k)/\w.cell? ⟨g,j*7+2,ν⟩=η (θ (Z1 k))/\w.cell? ⟨g,j*7+3,ν⟩=η (θ (Zz k))/\w.cell? ⟨g,j*7+4,ν⟩=η (θ (YW k))/\w.cell? ⟨g,j*7+5,ν⟩=η (θ (YX k))/\w.cell? ⟨g,j*7+6,ν⟩=η (JU k):=by
 subst hk;rcases (show j=0∨j=1∨j=2∨j=3∨j=4∨j=5 from by omega)with rfl | rfl | rfl | rfl | rfl | rfl
 all_goals exact⟨yG hg _,yG hg _,yG hg _,yG hg _,yG hg _,yG hg _,yG hg _⟩
def YY(m:zk):Obj:=χ #[ι κ m.kind,σ m.path,σ m.src,σ m.val] 82 (0,0)
theorem zc9(ob:Nat)(m:zk)(c0 c2 c3 c4 c5 c6:ω)(z:Int)(w:Wo)(h:w.heap[ob]?=η (YY m)):
  δ prog 90 #[γ #[c0,ι κ z,c2,c3,c4,c5,c6],ob] w fun e w'=>e=ε (θ (z ==m.kind))/\Below w w w':=by
 have a:ob<w.heap.size:=(yC.1 h).1;have k:∀ o,(w.alloc o).cell? ob=η (ι κ m.kind):=fun o=>yG (((zt w o).block ob a).trans h) 0;go_in;go_wp2;go_ret;exact⟨rfl,zt w _⟩
def JI(k:Int):Int:=if 1<=k/\k<=6 then k - 1 else -1
theorem TI(g ob:Nat)(m:zk)(w:Wo)(hg:w.heap[g]?=η (χ Qr 154 (0,0)))(h:w.heap[ob]?=η (YY m)):
  δ prog 134 #[ς (η g) 6 6,.func (Fn.func 90) #[] #[ob]] w fun e w'=>e=ε (ι κ (JI m.kind))/\Below w w w':=by
 have s:=zb hg;have u:=zb h;go_in;go_wp2_with fail;go_loopw [8] (fun i wr=>∃ j:Nat,j<=6/\i=ι κ (j:Int)/\Below w w wr/\∀ n:Nat,n<j->¬ m.kind=(n:Int)+1) (fun i _=>6 - (intOf i).toNat)
 case atStart=>exact⟨0,om,rfl,yI _ _,fun n f=>om⟩
 case round=>
  obtain⟨j,D,rfl,d,f⟩:=hrel;by_cases p:j<6
  .have hg:=(d.block g (yC.1 s).1).trans s;have A:=(d.block ob (yC.1 u).1).trans u;obtain⟨c0,c2,c3,c4,y,z,E,F,G,H,I,J,K⟩:=zkH hg p;have v:=zb (zc9 ob m c0 c2 c3 c4 y z ((j:Int)+1) wr A);have x:=zb f;go_wp2_with fail;go_call v as e w1 ⟨rfl,b1⟩;have b:=zb (zh d b1);by_cases o:(j:Int)+1=m.kind
   .have a:(((j:Int)+1) ==m.kind)=ξ:=by simpa using o
    rw[a];have r:JI m.kind=(j:Int):=by unfold JI;rw[yg om];omega
    have l:=zb r;go_wp2;go_ret;exact⟨by rw[uh l];rfl,b⟩
   .have a:(((j:Int)+1) ==m.kind)=ζ:=by simpa using o
    rw[a];have k:Hid (∀ n:Nat,n<j+1->¬ m.kind=(n:Int)+1):=fun n f e=>by
     by_cases q:n=j
     .subst q;exact o e.symm
     .exact uh x n om e
    go_wp2;go_roundw
    case rel=>exact⟨j+1,om,by go_num,b,k⟩
    case measure=>simp[intOf];omega
  .have r:JI m.kind= -1:=by
    unfold JI;rw[yf];intro ⟨B,C⟩;exact f (m.kind - 1).toNat om om
   have l:=zb r;go_wp2;go_ret;exact⟨by rw[uh l];rfl,d⟩
def KJ(k:Int):Array ω:=#[σ (G1 k),ι κ k,θ (Z1 k),θ (Zz k),θ (YW k),θ (YX k),JU k]
def QL:Array ω:=#[σ ⟨#[]⟩,ι κ 0,θ ζ,θ ζ,θ ζ,θ ζ,.nilFunc]
theorem zda(ob:Nat)(m:zk)(w:Wo)(h:w.heap[ob]?=η (YY m))(h1:1<=m.kind)(h2:m.kind<=6):
  δ prog 83 #[.func (Fn.func 90) #[] #[ob]] w fun e w'=>e=ε (τ #[.agg (KJ m.kind),θ ξ])/\Below w w w':=by
 have A:ob<w.heap.size:=(yC.1 h).1;obtain⟨j,M,J⟩:∃ j:Nat,j<6/\m.kind=(j:Int)+1:=⟨(m.kind - 1).toNat,om,om⟩;have C:JI m.kind=(j:Int):=by unfold JI;rw[yg ⟨h1,h2⟩];omega
 have q:=fun (w:Wo) (g:Nat) (hg:w.heap[g]?=η (χ Qr 154 (0,0)))=>Sd hg M J;have B:∃ o,JU m.kind= .func (Fn.func o) #[] #[]:=by
  unfold JU
  repeat' split
  all_goals exact⟨_,rfl⟩
 obtain⟨o,p⟩:=B;unfold KJ;rw[p]at q ⊢;generalize G1 m.kind=wb at *;generalize Z1 m.kind=Q at *;generalize Zz m.kind=R at *;generalize YW m.kind=Z at *;generalize YX m.kind=sp at *;have l:=zb q;have n:=zb C;have I:=zt w (χ QL 154);have N:=yH w (χ QL 154);have s:(w.alloc (χ QL 154)).heap.size=w.heap.size+1:=sm;have E:=zb ((I.block ob A).trans h);have F:=zb (P9 (w.alloc (χ QL 154)));have L:=zb I;have f:=zb N;go_in;go_wp2_with fail;unfold QL at *;generalize (w.alloc (χ #[σ ⟨#[]⟩,ι κ 0,θ ζ,θ ζ,θ ζ,θ ζ,.nilFunc] 154))=b at *;go_call F as e w1 ⟨rfl,rfl⟩;have r:=zt b (χ Qr 154);have D:=yH b (χ Qr 154);have u:(b.alloc (χ Qr 154)).heap.size=b.heap.size+1:=sm;have H:=zb (TI b ob m (b.alloc (χ Qr 154)) D ((r.block ob om).trans E));have i:=zb D;have d:=zb (zh L r);have k:=zb ((r.block w om).trans f);have y:=zb s;have z:=zb u;clear F r D E f s u;generalize (b.alloc (χ Qr 154))=wB at *;generalize b.heap.size=G at *;go_wp2_with fail;go_call H as e w2 ⟨rfl,b2⟩;rw[uh n];have s:=uh y;have u:=uh z;have K:=(b2.block G om).trans i;obtain⟨S,T,U,V,W,X,Y⟩:=uh l _ _ K;have a:=(b2.block w om).trans k;have c0:w2.cell? w.heap.size=η (σ ⟨#[]⟩):=yG a 0;have c1:w2.cell? ⟨w,1,ν⟩=η (ι κ 0):=yG a 1;have c2:w2.cell? ⟨w,2,ν⟩=η (θ ζ):=yG a 2;have c3:w2.cell? ⟨w,3,ν⟩=η (θ ζ):=yG a 3;have c4:w2.cell? ⟨w,4,ν⟩=η (θ ζ):=yG a 4;have O:w2.cell? ⟨w,5,ν⟩=η (θ ζ):=yG a 5;have P:w2.cell? ⟨w,6,ν⟩=η .nilFunc:=yG a 6;have fz:=yJ a;have x:=zb a;have v:=zb (zh d b2);clear H d i k K a b2 s u l n h1 h2;clear J;go_wp2;refine bodyPost_ret (Qh rfl _ _ w 154 #[_,_,_,_,_,_,_] (0,0) _ _ rfl rfl (Z3 x [_,_,_,_,_,_,_] rfl) underlying154 rfl kr) rfl ?_;exact⟨rfl,Zd v (ye _) [_,_,_,_,_,_,_] 0⟩
theorem zdb(ob:Nat)(m:zk)(w:Wo)(h:w.heap[ob]?=η (YY m))(hno:¬ (1<=m.kind/\m.kind<=6)):
  δ prog 83 #[.func (Fn.func 90) #[] #[ob]] w fun e w'=>e=ε (τ #[.agg QL,θ ζ])/\Below w w w':=by
 have p:ob<w.heap.size:=(yC.1 h).1;have q:JI m.kind= -1:=by unfold JI;rw[yf hno]
 have l:=zb q;have x:=zt w (χ QL 154);have B:=yH w (χ QL 154);have r:(w.alloc (χ QL 154)).heap.size=w.heap.size+1:=sm;have u:=zb ((x.block ob p).trans h);have v:=zb (P9 (w.alloc (χ QL 154)));have z:=zb x;have d:=zb B;unfold QL at *;go_in;go_wp2_with fail;generalize (w.alloc (χ #[σ ⟨#[]⟩,ι κ 0,θ ζ,θ ζ,θ ζ,θ ζ,.nilFunc] 154))=b at *;go_call v as e w1 ⟨rfl,rfl⟩;have f:=zt b (χ Qr 154);have y:=yH b (χ Qr 154);have s:(b.alloc (χ Qr 154)).heap.size=b.heap.size+1:=sm;have A:=zb (TI b ob m (b.alloc (χ Qr 154)) y ((f.block ob om).trans u));have g:=zb (zh z f);have k:=zb ((f.block w om).trans d);have n:=zb r;have o:=zb s;clear v f y u d r s;generalize (b.alloc (χ Qr 154))=E at *;generalize b.heap.size=G at *;go_wp2_with fail;go_call A as e w2 ⟨rfl,b2⟩;rw[uh l];have r:=uh n;have s:=uh o;have a:=(b2.block w om).trans k;have c0:w2.cell? w.heap.size=η (σ ⟨#[]⟩):=yG a 0;have c1:w2.cell? ⟨w,1,ν⟩=η (ι κ 0):=yG a 1;have c2:w2.cell? ⟨w,2,ν⟩=η (θ ζ):=yG a 2;have c3:w2.cell? ⟨w,3,ν⟩=η (θ ζ):=yG a 3;have c4:w2.cell? ⟨w,4,ν⟩=η (θ ζ):=yG a 4;have C:w2.cell? ⟨w,5,ν⟩=η (θ ζ):=yG a 5;have D:w2.cell? ⟨w,6,ν⟩=η .nilFunc:=yG a 6;have fz:=yJ a;have j:=zb a;have i:=zb (zh g b2);go_wp2;refine bodyPost_ret (Qh rfl _ _ w 154 #[_,_,_,_,_,_,_] (0,0) _ _ rfl rfl (Z3 j [_,_,_,_,_,_,_] rfl) underlying154 rfl kr) rfl ?_;exact⟨rfl,Zd i (ye _) [_,_,_,_,_,_,_] 0⟩
abbrev qz(m:zk):Array ω:=#[ι κ m.kind,σ m.path,σ m.src,σ m.val]
def YF:zk:=⟨0,⟨#[]⟩,⟨#[]⟩,⟨#[]⟩⟩
def qd(w:Wo)(g:Nat)(m:zk):Prop:=w.heap[g]?=η (χ (qz m) 82 (0,0))
theorem qd.lt(h:qd w g m):g<w.heap.size:=(yC.1 h).1
theorem qd.below(h:qd w g m)(hb:Below w w w'):qd w' g m:=(hb.block g h.lt).trans h
theorem qd.c(h:qd w g m):w.cell? g=η (ι κ m.kind)/\w.cell? ⟨g,1,ν⟩=η m.path/\w.cell? ⟨g,2,ν⟩=η m.src/\w.cell? ⟨g,3,ν⟩=η m.val:=⟨yG h 0,yG h 1,yG h 2,yG h 3⟩
theorem qd.fz(h:qd w g m)(j:Nat):w.frozen? ⟨g,j,ν⟩=ζ:=yJ h j
theorem qd.s0(h:qd w g m)(z:Int):qd (w.setCell g (ι κ z)) g ⟨z,m.path,m.src,m.val⟩:=heap_setCell_same w g 0 _ _ _ h
theorem qd.s1(h:qd w g m)(z:Bs):qd (w.setCell ⟨g,1,ν⟩ z) g ⟨m.kind,z,m.src,m.val⟩:=heap_setCell_same w g 1 _ _ _ h
theorem qd.s2(h:qd w g m)(z:Bs):qd (w.setCell ⟨g,2,ν⟩ z) g ⟨m.kind,m.path,z,m.val⟩:=heap_setCell_same w g 2 _ _ _ h
theorem qd.s3(h:qd w g m)(z:Bs):qd (w.setCell ⟨g,3,ν⟩ z) g ⟨m.kind,m.path,m.src,z⟩:=heap_setCell_same w g 3 _ _ _ h
def OO(v:JV)(w:Wo)(e:Ending)(w':Wo):Prop:=Bw w w'/\∃ m:zk,e=ε (τ #[.agg (qz m),θ (ZX v)])/\(ZX v=ξ->m=qD v)
theorem zdc(h:zz u)(h0:0<(ze (ct u)).size):((((ze (ct u))[0]).toNat:Int) !=123)=!(kd u ==6):=by
 obtain⟨c,r,e,f⟩:=Uc h;have d:((ze (ct u))[0]).toNat=c.toNat:=by
  rw[← Zx _ 0 h0,e];exact (VX (c:=c) (r:=r)).2
 rw[d,← f];unfold fb;by_cases b:c.toNat=123
 .rw[b];rfl
 .have a:((c.toNat:Int) !=123)=ξ:=so;rw[a];symm;rw[Bool.not_eq_true',yd]
  repeat (first |(split;omega) | split)
  all_goals omega
theorem TJ(hok:zz v)(htw:zF v=ζ)(key:List UInt8):((Zk v key).getD []).length<=(ct v).length:=by
 unfold Zk
 cases h:zK v key with
 | none=>exact yu _
 | some u=>
  obtain⟨_,_,a,_⟩:=GJ h hok htw;show ((Gh u).getD []).length<=_
  cases u with
  | str l=>
   have d:=UX l;have b:ct (.str l)=quoted l:=rfl;rw[b]at a;show l.length<=_
   omega
  | _=>exact yu _
theorem zdd(v:JV)(hok:zz v)(htw:zF v=ζ)(hl:(ct v).length<=1000000)(hg:∀ u,zK v JR=η u->ZR (ze (ct u))=ξ)(w:Wo):
  δ prog 65 #[σ (ze (ct v))] w (OO v w):=by
 have h0:=RY hok;have h0I:(0:Int)<((ze (ct v)).size:Int):=om;have hfo:=zdc hok h0;have kR:=yH w (χ #[ι κ 0,σ ⟨#[]⟩,σ ⟨#[]⟩,σ ⟨#[]⟩] 82);have hR:=zt w (χ #[ι κ 0,σ ⟨#[]⟩,σ ⟨#[]⟩,σ ⟨#[]⟩] 82);by_cases h6:kd v=6
 .obtain⟨m,rfl⟩:∃ m,v= .obj m:=by cases v<;>first | exact⟨_,rfl⟩ |(simp[kd]at h6)
  rw[show (!(kd (.obj m) ==6))=ζ from rfl]at hfo;have HPT:=zb fun w=>Ww (.obj m) hok w hl;have HMB:Hid (∀ (key:List UInt8) {B:Nat} (pv:ω) (w:Wo),PR w B pv (zl (.obj m))->δ prog 125 #[pv,(ze key)] w fun e w'=>e=ε (τ #[σ (ze ((Zk (.obj m) key).getD [])),θ (Zk (.obj m) key).isSome])/\Below w w w'):=fun key B pv w h=>zcW m hok htw hl key pv w h;have HRR:=zb hR;have HKR:=zb kR;clear hR kR h6;go_in;go_wp2_with fail;generalize hwR:(w.alloc (χ #[ι κ 0,σ ⟨#[]⟩,σ ⟨#[]⟩,σ ⟨#[]⟩] 82))=wR at *;have hzR:wR.heap.size=w.heap.size+1:=by rw[← hwR];simp
  have HZR:=zb hzR;clear hwR hzR;go_call uh HPT _ as e w1 ⟨pv,rfl,p1,b1⟩;obtain⟨xa,xc,rfl⟩:∃ xa xc,pv=ς xa (zl (.obj m)).length xc:=by
   rcases p1.2 with ⟨hv,h0⟩ |⟨g,cap,cur,hv,_⟩
   .exact⟨ν,0,by rw[hv,h0]⟩
   .exact⟨_,_,hv⟩
  have HP1:=zb p1;have HM2:=zb (uh HMB Vr _ w1 p1);have HB1:=zb b1;clear HPT p1 b1 hfo;go_wp2_with fail;go_call HM2 as e w2 ⟨rfl,b2⟩;have HB2:=zb (zh HB1 b2);have U:=zb (HP1.below b2);have hO:=zt w2 (χ #[ι κ 0,σ ⟨#[]⟩,σ ⟨#[]⟩,σ ⟨#[]⟩] 82);have kO:=yH w2 (χ #[ι κ 0,σ ⟨#[]⟩,σ ⟨#[]⟩,σ ⟨#[]⟩] 82);have zO:(w2.alloc (χ #[ι κ 0,σ ⟨#[]⟩,σ ⟨#[]⟩,σ ⟨#[]⟩] 82)).heap.size=w2.heap.size+1:=sm;have HO:=zb hO;have HKO:=zb kO;have HZO:=zb zO;have hKr:0<=qO (.obj m)/\qO (.obj m)<=6:=by
   unfold qO;split
   .exact RF _
   .omega
  have HKD:Hid ((Zk (.obj m) Vr).isSome=ξ->∃ t,ze ((Zk (.obj m) Vr).getD [])=ze t/\qO (.obj m)=qy t):=fun h=>by
   obtain⟨t,ht⟩:=Option.isSome_iff_exists.1 h;exact⟨t,by rw[ht];rfl,by unfold qO;rw[ht]⟩
  have HKN:Hid ((Zk (.obj m) Vr).isSome=ζ->qO (.obj m)=0):=fun h=>by
   have ht:Zk (.obj m) Vr=ν:=by simpa using h
   unfold qO;rw[ht]
  clear HM2 b2 HB1 HP1 hO kO zO;generalize ze ((Zk (.obj m) Vr).getD [])=wd0 at *;generalize (Zk (.obj m) Vr).isSome=ok0 at *;obtain⟨K,hK⟩:∃ K,qO (.obj m)=K:=⟨_,rfl⟩;have HK:=zb hK;rw[hK]at HKD HKN hKr;obtain⟨hK0,hK6⟩:=hKr;clear hK;go_wp2;go_loopw [8] (fun kk wr=>∃ k:Nat,1<=k/\k<=7/\kk=ι κ k/\qd wr w2 ⟨if K<k then K else 0,⟨#[]⟩,⟨#[]⟩,⟨#[]⟩⟩/\Below w2 w2 wr) (fun kk _=>7 - (intOf kk).toNat)
  case atStart=>exact⟨1,om,om,rfl,by rw[show (if K<((1:Nat):Int)then K else 0)=0 by split<;>omega];exact uh HKO,HO⟩
  case round=>
   obtain⟨k,hk1,hk7,rfl,z,hb⟩:=hrel;have F:=zb z;have G:=zb hb;have hwz:=hb.size;have hlt2:=z.lt;have c0:wr.cell? w2.heap.size=η (ι κ (if K<k then K else 0)):=z.c.1;have fz:=z.fz 0;clear hb z;by_cases hk6:k<=6
   .have hk6I:(k:Int)<=6:=om
    cases ok0 with
    | false=>
     have aa:=uh HKN rfl;have O:Hid ((if K<((k+1:Nat):Int)then K else 0)=(if K<(k:Int)then K else 0)):=by show _=_;rw[aa];split<;>split<;>rfl
     clear aa c0 fz;go_wp2;go_roundw
     case rel=>exact⟨k+1,om,om,by go_num,by rw[uh O];exact uh F,G⟩
     case measure=>simp[intOf];omega
    | true=>
     obtain⟨t,rfl,hKt⟩:=uh HKD rfl;have HW:=zb (zbo (k:Int) wr);have ab:((ze (ZV (k:Int))).toList ==(ze t).toList)=((k:Int) ==K):=by rw[Xu,hKt];exact MZ om om
     clear hKt;by_cases P:(k:Int)=K
     .have e1:((k:Int) ==K)=ξ:=by rw[yD];exact P
      rw[e1]at ab;have O:Hid ((if K<((k+1:Nat):Int)then K else 0)=(k:Int)):=zb (by rw[yg om,P]);have HBS:=zb (F.s0 (k:Int));clear e1 P;generalize ze (ZV (k:Int))=wd at *;generalize ze t=ts at *;go_wp2_with fail;go_call HW as e w3 ⟨rfl,rfl⟩;clear HW;go_wp2;go_roundw
      case rel=>exact⟨k+1,om,om,by go_num,by rw[uh O];exact uh HBS,G.setCell (p:=w2.heap.size) (ye _) _⟩
      case measure=>simp[intOf];omega
     .have e1:((k:Int) ==K)=ζ:=by rw[yd];exact P
      rw[e1]at ab;have O:Hid ((if K<((k+1:Nat):Int)then K else 0)=(if K<(k:Int)then K else 0)):=by show _=_;split<;>split<;>omega
      clear e1 P;generalize ze (ZV (k:Int))=wd at *;generalize ze t=ts at *;go_wp2_with fail;go_call HW as e w3 ⟨rfl,rfl⟩;clear HW;go_wp2;go_roundw
      case rel=>exact⟨k+1,om,om,by go_num,by rw[uh O];exact uh F,G⟩
      case measure=>simp[intOf];omega
   .have hk7':k=7:=om;subst hk7';have e7:(if K<((7:Nat):Int)then K else 0)=K:=yg om;rw[e7]at F c0;have HM3:=zb (uh HMB Q9 _ wr (U.below G));have E:Hid (∀ wx,Below w2 w2 wx->qd wx w YF/\Below w w wx):=fun wx hx=>by
     have hz:=HB2.size;have hzr:=uh HZR;refine⟨(hx.block w om).trans ((HB2.block w om).trans HKR),?_⟩;exact HRR.trans ((HB2.mono om).trans (hx.mono om))
    have HDK:Hid (K=0->ZX (.obj m)=ζ):=fun h=>by unfold ZX;rw[uh HK,h];rfl
    have HDP:Hid ((Zk (.obj m) Q9).isSome=ζ->ZX (.obj m)=ζ):=fun h=>by unfold ZX;rw[h];simp
    have HPP:Hid ((Zk (.obj m) Q9).isSome=ξ->(Zk (.obj m) Q9).isSome=ξ):=id;have L:Hid ((Zk (.obj m) Q9).isSome=ξ->K≠0->(Z1 K=ξ->(Zk (.obj m) Ja).isSome=ξ)->(Zz K=ξ->∃ u,zK (.obj m) JR=η u/\ZR (ze (ct u))=ξ)->ZD (qD (.obj m))=ZX (.obj m)):=fun Z h2 h3 h4=>by
     have e:=uh HK;exact zcn (by rw[e];exact h2) Z (by rw[e];exact h3) (by rw[e];exact h4)
    have Q:(ze ((Zk (.obj m) Q9).getD [])).size<=1000000:=by rw[zL];have:=TJ hok htw Q9;omega
    have V:=zb Q;clear e7 Q HPP;obtain⟨o,W⟩:∃ o,ze ((Zk (.obj m) Q9).getD [])=o:=⟨_,rfl⟩;obtain⟨th,X⟩:∃ th,(Zk (.obj m) Q9).isSome=th:=⟨_,rfl⟩;rw[W,X]at HM3;rw[X]at HDP L;rw[W]at V;have HPPE:=zb W;have HTH:=zb X;clear W X;go_wp2_with fail;go_call HM3 as e w4 ⟨rfl,b4⟩;have b24:=zh G b4;have o4:=F.below b4;have d0:=o4.c.1;simp only at d0;have f1:=o4.fz 1;have HB4:=zb b24;have HO4:=zb o4;clear HM3 b4 b24 o4 c0 fz F G;by_cases H:K=0
    .have q:=zb (uh HDK H);obtain⟨a,b⟩:=uh E w4 HB4;have r0:=a.c;have rz:=a.fz;have i:=zb a;have f:=zb b;subst H;clear a b f1;go_wp2;refine bodyPost_ret (Qh rfl _ _ w 82 #[_,_,_,_] (0,0) _ _ rfl rfl (Z3 i [_,_,_,_] rfl) underlying82 rfl kr) rfl ?_;exact⟨Zd f (ye _) [_,_,_,_] 0,YF,by rw[uh q];rfl,fun h=>by rw[uh q]at h;cases h⟩
    .have tK:(K ==0)=ζ:=by rw[yd];exact H
     cases th with
     | false=>
      have q:=zb (uh HDP rfl);obtain⟨a,b⟩:=uh E w4 HB4;have r0:=a.c;have rz:=a.fz;have i:=zb a;have f:=zb b;clear a b f1;go_wp2;refine bodyPost_ret (Qh rfl _ _ w 82 #[_,_,_,_] (0,0) _ _ rfl rfl (Z3 i [_,_,_,_] rfl) underlying82 rfl kr) rfl ?_;exact⟨Zd f (ye _) [_,_,_,_] 0,YF,by rw[uh q];rfl,fun h=>by rw[uh q]at h;cases h⟩
     | true=>
      have o5:=HO4.s1 o;have C:=zb (HB4.setCell (p:=⟨w2,1,ν⟩) (ye _) o);have HHF:=zb (Oc K (w4.setCell ⟨w2,1,ν⟩ o));have D:=zb o5;have g0:=o5.c.1;simp only at g0;have d1:=HO4.c.2.1;simp only at d1;clear o5;go_wp2_with fail;generalize hw5:w4.setCell ⟨w2,1,ν⟩ o=R at *;clear hw5;go_call HHF as e w5' ⟨rfl,rfl⟩;have J:Hid (qD (.obj m)=⟨K,o,if Z1 K then ze ((Zk (.obj m) Ja).getD [])else ⟨#[]⟩,if Zz K then ze (((zK (.obj m) JR).map ct).getD [])else ⟨#[]⟩⟩):=by
       show _=_
       unfold qD;rw[uh HK,uh HPPE]
      have HHV:=fun wx=>Ra K wx;have d:=zb HHV;clear HHF HHV d0 d1 f1
      cases hF:Z1 K with
      | true=>
       have S:Zz K=ζ:=by
        unfold Z1 at hF;unfold Zz;simp only[Bool.or_eq_true,yD]at hF;rcases hF with h | h<;>rw[h]<;>rfl
       have HMF:=zb (uh HMB Ja _ R (U.below C));have HDN:Hid ((Zk (.obj m) Ja).isSome=ζ->ZX (.obj m)=ζ):=fun h=>by unfold ZX;rw[uh HK,hF,h];simp
       have HFL:Hid ((ze ((Zk (.obj m) Ja).getD [])).size<=1000000):=by show _<=_;rw[zL];have:=TJ hok htw Ja;omega
       have HVAL:Hid (ze ((Zk (.obj m) Ja).getD [])=ze ((Zk (.obj m) Ja).getD [])):=rfl;obtain⟨I,hff⟩:∃ I,ze ((Zk (.obj m) Ja).getD [])=I:=⟨_,rfl⟩;obtain⟨hs,hhs⟩:∃ hs,(Zk (.obj m) Ja).isSome=hs:=⟨_,rfl⟩;rw[hff,hhs]at HMF;rw[hhs]at HDN L;rw[hff]at HFL J;rw[S]at d;clear hff hhs HVAL;go_wp2_with fail;go_call HMF as e w6 ⟨rfl,b6⟩;have HB6:=zb (zh C b6);have o6:=D.below b6;have HO6:=zb o6;have k0:=o6.c;have fz:=o6.fz 2;clear HMF b6 o6 D C g0
       cases hs with
       | false=>
        have q:=zb (uh HDN rfl);clear k0 fz;obtain⟨a,b⟩:=uh E w6 HB6;have r0:=a.c;have rz:=a.fz;have i:=zb a;have f:=zb b;clear a b;go_wp2;refine bodyPost_ret (Qh rfl _ _ w 82 #[_,_,_,_] (0,0) _ _ rfl rfl (Z3 i [_,_,_,_] rfl) underlying82 rfl kr) rfl ?_;exact⟨Zd f (ye _) [_,_,_,_] 0,YF,by rw[uh q];rfl,fun h=>by rw[uh q]at h;cases h⟩
       | true=>
        have o7:=HO6.s2 I;have HB7:=zb (HB6.setCell (p:=⟨w2,2,ν⟩) (ye _) I);have n:=zb (uh d (w6.setCell ⟨w2,2,ν⟩ I));have M:=zb o7;have g7:=o7.c.1;simp only at g7 k0;clear o7 d HDN;go_wp2_with fail;generalize hw7:w6.setCell ⟨w2,2,ν⟩ (.string I)=Y at *;clear hw7;go_call n as e w7' ⟨rfl,rfl⟩;clear n k0 fz;have s:Hid ((⟨K,o,I,⟨#[]⟩⟩:zk)=qD (.obj m)):=by
         show _=_
         rw[uh J];simp only[hF,S,if_true,Ν,if_false]
        have N:Hid (ZD (⟨K,o,I,⟨#[]⟩⟩:zk)=ZX (.obj m)):=by show _=_;rw[uh s];exact uh L (by first | rfl | trivial) H (fun _=>by first | rfl | trivial) (fun h=>by rw[S]at h;cases h)
        have x:=zb (XP (⟨K,o,I,⟨#[]⟩⟩:zk) Y.drew (by show o.size<=_;have:=uh V;omega) (by show I.size<=_;have:=uh HFL;omega) (by show (0:Nat)<=_;omega));have y:Below Y Y Y.drew:=(yI _ _).drew;obtain⟨x0,x1,x2,x3⟩:=M.c;simp only at x0 x1 x2 x3;generalize ZD (⟨K,o,I,⟨#[]⟩⟩:zk)=z9 at *;clear g7 HB6 HO6;go_wp2_with fail;go_region_law (
                go_simp;go_call x as e w9 ⟨rfl,b9⟩;have r:=zh y b9;obtain⟨y0,y1,y2,y3⟩:=(M.below r).c;simp only at y0 y1 y2 y3;obtain⟨a,b⟩:=uh E w9 (zh HB7 r);have r0:=a.c;have rz:=a.fz)
        all_goals (
         have i:=zb a;have f:=zb b;clear a b b9 r y x x0 x1 x2 x3 y0 y1 y2 y3;go_wp2;refine bodyPost_ret (Qh rfl _ _ w 82 #[_,_,_,_] (0,0) _ _ rfl rfl (Z3 i [_,_,_,_] rfl) underlying82 rfl kr) rfl ?_;exact⟨Zd f (ye _) [_,_,_,_] 0,(⟨K,o,I,⟨#[]⟩⟩:zk),by rw[← uh N];rfl,fun _=>uh s⟩)
      | false=>
       cases S:Zz K with
       | false=>
        rw[S]at d;have n:=zb (uh d R);clear d;go_wp2_with fail;go_call n as e w5' ⟨rfl,rfl⟩;clear n;have s:Hid ((⟨K,o,⟨#[]⟩,⟨#[]⟩⟩:zk)=qD (.obj m)):=by
         show _=_
         rw[uh J];simp only[hF,S,Ν,if_false]
        have N:Hid (ZD (⟨K,o,⟨#[]⟩,⟨#[]⟩⟩:zk)=ZX (.obj m)):=by show _=_;rw[uh s];exact uh L (by first | rfl | trivial) H (fun h=>by rw[hF]at h;cases h) (fun h=>by rw[S]at h;cases h)
        have x:=zb (XP (⟨K,o,⟨#[]⟩,⟨#[]⟩⟩:zk) R.drew (by show o.size<=_;have:=uh V;omega) (by show (0:Nat)<=_;omega) (by show (0:Nat)<=_;omega));have y:Below R R R.drew:=(yI _ _).drew;obtain⟨x0,x1,x2,x3⟩:=D.c;simp only at x0 x1 x2 x3;generalize ZD (⟨K,o,⟨#[]⟩,⟨#[]⟩⟩:zk)=z9 at *;clear g0;go_wp2_with fail;go_region_law (
                go_simp;go_call x as e w9 ⟨rfl,b9⟩;have r:=zh y b9;obtain⟨y0,y1,y2,y3⟩:=(D.below r).c;simp only at y0 y1 y2 y3;obtain⟨a,b⟩:=uh E w9 (zh C r);have r0:=a.c;have rz:=a.fz)
        all_goals (
         have i:=zb a;have f:=zb b;clear a b b9 r y x x0 x1 x2 x3 y0 y1 y2 y3;go_wp2;refine bodyPost_ret (Qh rfl _ _ w 82 #[_,_,_,_] (0,0) _ _ rfl rfl (Z3 i [_,_,_,_] rfl) underlying82 rfl kr) rfl ?_;exact⟨Zd f (ye _) [_,_,_,_] 0,(⟨K,o,⟨#[]⟩,⟨#[]⟩⟩:zk),by rw[← uh N];rfl,fun _=>uh s⟩)
       | true=>
        rw[S]at d;have n:=zb (uh d R);have hpl:=Wx hok hl;have p5:=U.below C;have HFD:=zb (Pt _ _ (zl (.obj m)) JR R p5 om);have HCC:Hid (∀ j (hj:j<(zl (.obj m)).length),∃ g,xa=η ⟨g,0,ν⟩/\g<w2.heap.size/\R.cell? ⟨g,j*2+1,ν⟩=η (σ (ze (zl (.obj m))[j].2))):=fun j hj=>by
         obtain⟨g,cap,hv,_,hg2,_⟩:=U.cells j hj;injection hv with hv _ _;obtain⟨g',cap',A,_,_,_,hc⟩:=p5.cells j hj;injection A with A _ _;rw[hv]at A;injection A with A;injection A with A;subst A;exact⟨g,hv,hg2,hc⟩
        have HVN:Hid ((∀ j (hj:j<(zl (.obj m)).length),(zl (.obj m))[j].1≠JR)->ZX (.obj m)=ζ):=fun h=>by unfold ZX;rw[uh HK,S,Pp h];simp
        have HVY:Hid (∀ j (hj:j<(zl (.obj m)).length),(zl (.obj m))[j].1=JR->∃ u,(zl (.obj m))[j].2=ct u/\zK (.obj m) JR=η u/\ZR (ze (ct u))=ξ/\(ct u).length<=1000000):=fun j hj hk=>by
         obtain⟨u,Z,h2⟩:=Po hok htw (fun ⟨l,e⟩=>by cases e) hj hk;obtain⟨_,_,a3,_⟩:=GJ Z hok htw;exact⟨u,h2,Z,hg u Z,om⟩
        clear d p5;generalize zl (.obj m)=ps at *;go_wp2_with fail;go_call n as e w5' ⟨rfl,rfl⟩;clear n;go_wp2_with fail;go_call HFD as e w5' ⟨rfl,⟨rfl,hk⟩ |⟨j,hj,rfl,hk⟩⟩
        .have q:=zb (uh HVN hk);clear HFD HCC HVN HVY hk g0;obtain⟨a,b⟩:=uh E R C;have r0:=a.c;have rz:=a.fz;have i:=zb a;have f:=zb b;clear a b;go_wp2;refine bodyPost_ret (Qh rfl _ _ w 82 #[_,_,_,_] (0,0) _ _ rfl rfl (Z3 i [_,_,_,_] rfl) underlying82 rfl kr) rfl ?_;exact⟨Zd f (ye _) [_,_,_,_] 0,YF,by rw[uh q];rfl,fun h=>by rw[uh q]at h;cases h⟩
        .obtain⟨u,Z,hcu,hgu,hlu⟩:=uh HVY j hj hk;obtain⟨g,rfl,hg2,hcc⟩:=uh HCC j hj;rw[Z]at hcc;have hjI:(j:Int)<(ps.length:Int):=om;have HHU:Hid (ze (((zK (.obj m) JR).map ct).getD [])=ze (ct u)):=by show _=_;rw[hcu];rfl
         rw[uh HHU]at J;have HVX:Hid (∃ u,zK (.obj m) JR=η u/\ZR (ze (ct u))=ξ):=⟨u,hcu,hgu⟩;have HLU:Hid ((ze (ct u)).size<=1000000):=by show _<=_;rw[zL];exact hlu
         have o7:=D.s3 (ze (ct u));have HB7:=zb (C.setCell (p:=⟨w2,3,ν⟩) (ye _) (σ (ze (ct u))));have M:=zb o7;have k0:=D.c;have fz:=D.fz 3;simp only at k0;clear HFD HCC HVN HVY hk Z hcu hgu hlu o7 HHU hg;generalize ze (ct u)=vv at *;go_wp2_with fail;generalize hw7:R.setCell ⟨w2,3,ν⟩ (.string vv)=Y at *;clear hw7;have s:Hid ((⟨K,o,⟨#[]⟩,vv⟩:zk)=qD (.obj m)):=by
          show _=_
          rw[uh J];simp only[hF,S,if_true,Ν,if_false]
         have N:Hid (ZD (⟨K,o,⟨#[]⟩,vv⟩:zk)=ZX (.obj m)):=by show _=_;rw[uh s];exact uh L (by first | rfl | trivial) H (fun h=>by rw[hF]at h;cases h) (fun _=>uh HVX)
         have x:=zb (XP (⟨K,o,⟨#[]⟩,vv⟩:zk) Y.drew (by show o.size<=_;have:=uh V;omega) (by show (0:Nat)<=_;omega) (by show vv.size<=_;have:=uh HLU;omega));have y:Below Y Y Y.drew:=(yI _ _).drew;obtain⟨x0,x1,x2,x3⟩:=M.c;simp only at x0 x1 x2 x3;generalize ZD (⟨K,o,⟨#[]⟩,vv⟩:zk)=z9 at *;clear g0 k0 fz hcc;go_wp2_with fail;go_region_law (
                 go_simp;go_call x as e w9 ⟨rfl,b9⟩;have r:=zh y b9;obtain⟨y0,y1,y2,y3⟩:=(M.below r).c;simp only at y0 y1 y2 y3;obtain⟨a,b⟩:=uh E w9 (zh HB7 r);have r0:=a.c;have rz:=a.fz)
         all_goals (
          have i:=zb a;have f:=zb b;clear a b b9 r y x x0 x1 x2 x3 y0 y1 y2 y3;go_wp2;refine bodyPost_ret (Qh rfl _ _ w 82 #[_,_,_,_] (0,0) _ _ rfl rfl (Z3 i [_,_,_,_] rfl) underlying82 rfl kr) rfl ?_;exact⟨Zd f (ye _) [_,_,_,_] 0,(⟨K,o,⟨#[]⟩,vv⟩:zk),by rw[← uh N];rfl,fun _=>uh s⟩)
 .have hno:(!(kd v ==6))=ξ:=by simp[h6]
  rw[hno]at hfo;have HD:=zb (zcl h6);have HK:=zb kR;have HB:=zb hR;have c0:=(YD kR).1;have fz:=yJ kR;clear hok htw hl hg hno h6 kR hR;generalize ze (ct v)=T at *;go_in;go_wp2;refine bodyPost_ret (Qh rfl _ _ w 82 #[_,_,_,_] (0,0) _ _ rfl rfl HK underlying82 rfl kr) rfl ?_;exact⟨HB,YF,by rw[uh HD];rfl,fun h=>by rw[uh HD]at h;cases h⟩
theorem Fd(a b:List (List UInt8)):qe a b=a.isPrefixOf b:=by
 rw[Bool.eq_iff_iff,Η];unfold qe;rw[decide_eq_true_iff];constructor
 .rintro⟨g,f⟩;refine⟨b.drop a.length,?_⟩;refine List.ext_getElem? fun j=>?_;by_cases d:j<a.length
  .rw[Ι d];have:=f j d;rw[yy d,yy om];simpa [List.getD,d,show j<b.length by omega]using this
  .rw[List.getElem?_append_right om,List.getElem?_drop];congr 1;omega
 .rintro⟨r,rfl⟩;refine⟨sm,fun j d=>?_⟩;simp[List.getD,Ι d]
theorem zde{a b:List (List UInt8)}(h1:qe a b=ξ)(h2:qe b a=ξ):a=b:=by
 rw[Fd,Η]at h1 h2;exact h1.eq_of_length (Nat.le_antisymm h1.length_le h2.length_le)
theorem TK(a:List (List UInt8)):qe a a=ξ:=by
 rw[Fd,Η];exact List.prefix_refl a
theorem zdf(sv su:Bs)(a:Option Addr)(cap:Nat)(w:Wo):
  δ prog 115 #[sv,ς a 0 cap,su] w fun e w'=>e=ε (τ #[su,θ ξ])/\Below w w w':=by
 go_in;go_wp2;go_ret2;exact⟨rfl,yI _ _⟩
theorem Se(v u:JV)(ts:List (List UInt8))(a:Option Addr)(g off cap:Nat)(w:Wo)(hv:zx v)(hu:zx u)(hl:(ct v).length<=100000)(hul:(ct u).length<=100000)(hts:∀ x∈ts,x.length<=1048576)(hn:ts.length<=1048577)(hcap:ts.length<=cap)(hss:SS w a g off (ts.map zG)):
  δ prog 115 #[σ (ze (ct v)),ς a ts.length cap,σ (ze (ct u))] w fun e w'=>e=ε (X9 (qV v ts u))/\Below w w w':=by
 rcases Κ ts with rfl |⟨d,t,rfl⟩
 .exact zdf _ _ a cap w
 .rw[Μ]at *;have b:(d++[t]).length=d.length+1:=sm;rw[b]at hn hcap ⊢;exact zcP v u d t a g off cap w hv hu hl hul hts om hcap hss
theorem zdg{c:JV}{xs:List (List UInt8)}{t:List UInt8}(h:zM v (xs++[t])=η c):∃ hm,zM v xs=η hm/\zK hm t=η c/\qZ v (xs++[t])=η (qf v xs (Qx hm t)):=by
 rw[XF]at h
 cases hg:zM v xs with
 | none=>rw[hg]at h;cases h
 | some hm=>
  rw[hg]at h;have a:zM hm [t]=η c:=h;rw[Vx]at a
  cases hc:zK hm t with
  | none=>rw[hc]at a;cases a
  | some x=>
   rw[hc]at a;have:x=c:=by have b:zM x []=η c:=a;rw[WH]at b;injection b
   subst this;refine⟨hm,rfl,hc,?_⟩;unfold qZ qI Vf QX;rw[yf sm,List.dropLast_concat,hg];simp[hc]
theorem TL(v c:JV)(ts:List (List UInt8))(a:Option Addr)(g off cap:Nat)(w:Wo)(hne:ts≠[])(hv:zx v)(hg:zM v ts=η c)(hl:(ct v).length<=100000)(hts:∀ x∈ts,x.length<=1048576)(hn:ts.length<=1048577)(hcap:ts.length<=cap)(hss:SS w a g off (ts.map zG)):
  ∃ r,qZ v ts=η r/\zx r/\(ct r).length<=(ct v).length/\δ prog 117 #[σ (ze (ct v)),ς a ts.length cap] w fun e w'=>e=ε (σ (ze (ct r)))/\Below w w w':=by
 rcases Κ ts with rfl |⟨d,t,rfl⟩
 .exact absurd rfl hne
 .rw[Μ]at *;have b:(d++[t]).length=d.length+1:=sm;obtain⟨j,f,h,i⟩:=zdg hg;have k:=Gk (u:=Qx j t) hv f;have l:=RT h;refine⟨_,i,KE hv i,om,?_⟩;rw[b]at hn hcap ⊢;exact zcO v j c d t a g off cap w hv f h hl hts om hcap hss
def KK(o:zk)(u:JV):qj:=⟨o.kind,(zH o.path.data.toList).getD [],(zH o.src.data.toList).getD [],u⟩
def KL:Nat⊕JV->ω
 | .inl c=>.tuple #[σ ⟨#[]⟩,ι κ (c:Int)]
 | .inr r=>.tuple #[σ (ze (ct r)),ι κ 0]
theorem OP(s:Bs)(hs:s.size<=1048576):((zH s.data.toList).getD []).length<=1048577/\∀ x∈(zH s.data.toList).getD [],x.length<=1048576:=by
 have d:=Zo s;have a:=PO s.data.toList
 cases hp:zH s.data.toList with
 | none=>simp
 | some ts=>
  rw[hp]at a;simp only[Option.getD_some]at a ⊢;have b:=LY hp;exact⟨om,fun x hx=>by have:=b x hx;omega⟩
theorem OT.all{v:ω}{ts:List (List UInt8)}(h:OT w B v ts):∃ a g cap,v=ς a ts.length cap/\SS w a g 0 (ts.map zG)/\ts.length<=cap:=by
 obtain⟨a,g,cap,rfl,i,_⟩:=h.shape;refine⟨a,g,cap,rfl,i,?_⟩;rcases h.2 with ⟨d,k⟩ |⟨j,b,f,d,_,_,l,_⟩
 .omega
 .injection d with _ _ e;omega
theorem zdh{ts:List (List UInt8)}(h:zM v ts=ν):qZ v ts=ν:=by
 rcases Κ ts with rfl |⟨d,t,rfl⟩
 .unfold qZ;rw[yg rfl]
 .rw[Μ]at *;rw[XF]at h;unfold qZ qI Vf QX;rw[yf sm,List.dropLast_concat]
  cases hg:zM v d with
  | none=>rfl
  | some hm=>
   rw[hg]at h;have a:zM hm [t]=ν:=h;rw[Vx]at a
   cases hc:zK hm t with
   | none=>simp[hc]
   | some x=>rw[hc]at a;have b:zM x []=ν:=a;rw[WH]at b;cases b
structure DW(w0 w:Wo)(A:Nat)(o:zk)(ps fs:List (List UInt8))(B1 B2:Nat)(a1 a2:Option Addr)(g1 g2 cap1 cap2:Nat):Prop where
 op:qd w A o
 s1:SS w a1 g1 0 (ps.map zG)
 s2:SS w a2 g2 0 (fs.map zG)
 t1:OT w B1 (ς a1 ps.length cap1) ps
 t2:OT w B2 (ς a2 fs.length cap2) fs
 bl:Bw w0 w
theorem DW.next{w0:Wo}{A B1 B2 g1 g2 cap1 cap2:Nat}{ps fs:List (List UInt8)}{a1 a2:Option Addr}(h:DW w0 w A o ps fs B1 B2 a1 a2 g1 g2 cap1 cap2)(hb:Below w w w'):DW w0 w' A o ps fs B1 B2 a1 a2 g1 g2 cap1 cap2:=
 ⟨h.op.below hb,h.s1.below hb,h.s2.below hb,Zh h.t1 hb,Zh h.t2 hb,zh h.bl hb⟩
theorem TM(v u:JV)(o:zk)(w:Wo)(hv:zx v)(hl:(ct v).length<=100000)(hp:o.path.size<=1048576)(hs:o.src.size<=1048576)(hk1:1<=o.kind)(hk6:o.kind<=6)(hval:Zz o.kind=ξ->o.val=ze (ct u)/\zx u/\(ct u).length<=100000):
  δ prog 58 #[σ (ze (ct v)),.agg (qz o)] w fun e w'=>e=ε (KL (ZS v (KK o u)))/\Below w w w':=by
 obtain⟨i,j⟩:=OP o.path hp;obtain⟨p,q⟩:=OP o.src hs;have hX:KK o u=⟨o.kind,(zH o.path.data.toList).getD [],(zH o.src.data.toList).getD [],u⟩:=rfl;have kA:qd (w.alloc (χ (qz o) 82)) w o:=yH w (χ (qz o) 82);have bA:=ZO w (χ (qz o) 82);have HT1:=zb (WE o.path (w.alloc (χ (qz o) 82)) hp);have HT2:=zb fun wx=>WE o.src wx hs;have HOA:=zb kA;have HBA:=zb bA;have hc:=kA.c;generalize (zH o.path.data.toList).isSome=ok1 at *;generalize (zH o.src.data.toList).isSome=ok2 at *;generalize (zH o.path.data.toList).getD []=d at *;generalize (zH o.src.data.toList).getD []=B at *;have K:=zb fun (ts:List (List UInt8)) (a:Option Addr) (g cap:Nat) (wx:Wo) (ht:ts=d∨ts=B) (h:SS wx a g 0 (ts.map zG))=>PU v hv.ok hv.tw om a g 0 cap ts wx h (by rcases ht with rfl | rfl<;>assumption) (by rcases ht with rfl | rfl<;>assumption);have Q:Hid (∀ (x y:List (List UInt8)) (wx:Wo) (a b:ω) (B1 B2:Nat),(x=B/\y=d)∨(x=d/\y=B)->OT wx B1 a x->OT wx B2 b y->δ prog 116 #[a,b] wx fun e w'=>e=ε (θ (qe x y))/\Below wx wx w'):=fun x y wx a b B1 B2 hq h1 h2=>(Rv a b x y wx h1 h2 (by rcases hq with ⟨rfl,rfl⟩ |⟨rfl,rfl⟩<;>assumption) (by rcases hq with ⟨rfl,rfl⟩ |⟨rfl,rfl⟩<;>assumption)).mono (by rintro e w' ⟨rfl,n,rfl⟩;exact⟨rfl,XO wx n _⟩);obtain⟨gx,gb,hgr,F,G⟩:∃ (gx:Bs) (gb:Bool),Ga v d= .tuple #[gx,θ gb]/\(zM v d=ν->gb=ζ)/\(∀ c,zM v d=η c->gx=ze (ct c)/\gb=ξ):=by
  cases h:zM v d with
  | none=>exact⟨_,_,X8 h,fun _=>rfl,fun c h=>by cases h⟩
  | some x=>exact⟨_,_,KI h,fun h=>(by cases h),fun c hc=>by injection hc with hc;subst hc;exact⟨rfl,rfl⟩⟩
 have HG:Hid (∀ (a:Option Addr) (g cap:Nat) (wx:Wo),SS wx a g 0 (d.map zG)->δ prog 114 #[σ (ze (ct v)),ς a d.length cap] wx fun e w'=>e=ε (τ #[gx,θ gb])/\Below wx wx w'):=fun a g cap wx h=>by have:=uh K d a g cap wx (.inl rfl) h;rw[hgr]at this;exact this
 obtain⟨R,Y⟩:∃ D,ZS v (KK o u)=D:=⟨_,rfl⟩;rw[Y];rw[hX]at Y;have S:=zb Y;have HFA:Hid (zx v/\(ct v).length<=100000/\d.length<=1048577/\(∀ x∈d,x.length<=1048576)/\B.length<=1048577/\(∀ x∈B,x.length<=1048576)/\(Zz o.kind=ξ->o.val=ze (ct u)/\zx u/\(ct u).length<=100000)/\1<=o.kind/\o.kind<=6/\(zM v d=ν->gb=ζ)/\∀ c,zM v d=η c->gx=ze (ct c)/\gb=ξ):=⟨hv,hl,i,j,p,q,hval,hk1,hk6,F,G⟩;clear hX Y hv hl hp hs i j p q hval hk1 hk6 F G hgr kA bA;go_in;go_wp2_with fail;generalize (w.alloc (χ (qz o) 82))=wA at *;go_call HT1 as e w1 ⟨v1,rfl,o1,b1⟩;have aj:=zb (HOA.below b1);obtain⟨p10,p11,p12,p13⟩:=aj.c;obtain⟨T,U,A,rfl,ss1,E⟩:=OT.all o1;have aa:=zb o1;have ad:=zb ss1;have HB1:=zb (zh HBA b1);have af:=zb (uh HT2 w1);clear HT1 HT2 o1 ss1 b1 HOA HBA hc;go_wp2_with fail;go_call af as e w2 ⟨v2,rfl,o2,b2⟩;obtain⟨a2,g2,O,rfl,ss2,hcap2⟩:=OT.all o2;have W:Hid (DW w w2 w o d B _ _ T a2 U g2 A O):=⟨aj.below b2,ad.below b2,ss2,Zh aa b2,o2,zh HB1 b2⟩;obtain⟨q10,q11,q12,q13⟩:=W.op.c;have HG2:=zb (uh HG T U A w2 W.s1);clear af o2 ss2 b2 aj HB1 HG ad aa p10 p11 p12 p13;go_wp2_with fail;go_call HG2 as e w3 ⟨rfl,b3⟩;have f:=zb (W.next b3);obtain⟨r10,r11,r12,r13⟩:=f.op.c;clear HG2 b3 W q10 q11 q12 q13;obtain⟨hv,hl,i,j,p,q,hval,hk1,hk6,F,G⟩:=uh HFA;clear HFA;rcases (show o.kind=1∨o.kind=4∨o.kind=5∨(o.kind=2∨o.kind=3∨o.kind=6) by omega)with l | l | l | l
 .obtain⟨e1,e2,e3⟩:=hval (by rw[l];rfl);have M:=zb (Se v u d T U 0 A w3 hv e2 hl e3 j i E f.s1);rw[← e1]at M;have k:Hid (R=Z9 3 (qV v d u)):=by show _=_;rw[← uh S];unfold ZS;simp only;rw[yg l]
  clear hv hl i j p q hval hk1 hk6 e1 e2 e3 F G K Q
  cases hpv:qV v d u
  all_goals (
   rw[hpv]at M k;simp only[X9]at M;clear hpv;go_wp2_with fail;go_call M as e w4 ⟨rfl,b4⟩;have J:=zb (zh f.bl b4);clear M b4;go_wp2;go_ret2;exact⟨by rw[uh k];rfl,J⟩)
 .have s:=zb (uh K B a2 g2 O w3 (.inr rfl) f.s2)
  cases hg:zM v B with
  | none=>
   rw[X8 hg]at s;have k:Hid (R= .inl 3):=by show _=_;rw[← uh S];unfold ZS;simp only;rw[l,yf dc,yf dc,yf dc,yg rfl,hg]
   clear hv hl i j p q hval hk1 hk6 F G K Q hg;go_wp2_with fail;go_call s as e w4 ⟨rfl,b4⟩;have J:=zb (zh f.bl b4);clear s b4;go_wp2;go_ret2;exact⟨by rw[uh k];rfl,J⟩
  | some m=>
   rw[KI hg]at s;have k:Hid (R=if B=d then .inr v else if B.isPrefixOf d then .inl 6 else match qZ v B with | none=>.inl 3 | some r=>Z9 3 (qV r d m)):=by show _=_;rw[← uh S];unfold ZS;simp only;rw[l,yf dc,yf dc,yf dc,yg rfl,hg];rfl
   have HM:Hid (zx m/\(ct m).length<=100000):=⟨hv.get hg,by have:=VC hv hg;omega⟩;have X:=zb fun (hne:B≠[]) wx (h:SS wx a2 g2 0 (B.map zG))=>TL v m B a2 g2 0 O wx hne hv hg hl q p hcap2 h;have N:=zb fun (r:JV) (wx:Wo) (hr:zx r) (hrl:(ct r).length<=(ct v).length) (h:SS wx T U 0 (d.map zG))=>Se r m d T U 0 A wx hr (uh HM).1 om (uh HM).2 j i E h;clear hv hl i j p q hval hk1 hk6 F G K hg HM;generalize ze (ct m)=sm at *;go_wp2_with fail;go_call s as e w4 ⟨rfl,b4⟩;have z:=zb (f.next b4);obtain⟨s10,s11,s12,s13⟩:=z.op.c;have P:=zb (uh Q B d w4 _ _ _ _ (.inl ⟨rfl,rfl⟩) z.t2 z.t1);clear s b4 f r10 r11 r12 r13
   cases hpre:qe B d with
   | true=>
    rw[hpre]at P;go_wp2_with fail;go_call P as e w5 ⟨rfl,b5⟩;have H:=zb (z.next b5);have I:=zb (uh Q d B w5 _ _ _ _ (.inr ⟨rfl,rfl⟩) H.t1 H.t2);clear P b5 z
    cases hq:qe d B with
    | true=>
     rw[hq]at I;rw[yg (zde hpre hq)]at k;clear hpre hq Q X N;go_wp2_with fail;go_call I as e w6 ⟨rfl,b6⟩;have HB6:=zb (zh H.bl b6);clear I b6;go_wp2;go_ret2;exact⟨by rw[uh k];rfl,HB6⟩
    | false=>
     rw[hq]at I;rw[yf (fun e=>by rw[e,TK]at hq;cases hq),yg (by rw[← Fd];exact hpre)]at k;go_wp2_with fail;go_call I as e w6 ⟨rfl,b6⟩;have L:=zb (H.next b6);have ak:=zb (uh Q B d w6 _ _ _ _ (.inl ⟨rfl,rfl⟩) L.t2 L.t1);rw[hpre]at ak;clear I b6 H hpre hq Q X N;go_wp2_with fail;go_call ak as e w7 ⟨rfl,b7⟩;have ah:=zb (zh L.bl b7);clear ak b7;go_wp2;go_ret2;exact⟨by rw[uh k];rfl,ah⟩
   | false=>
    rw[hpre]at P;rw[yf (fun e=>by rw[e,TK]at hpre;cases hpre),yf (by rw[← Fd,hpre];simp)]at k;go_wp2_with fail;go_call P as e w5 ⟨rfl,b5⟩;have H:=zb (z.next b5);have I:=zb (uh Q B d w5 _ _ _ _ (.inl ⟨rfl,rfl⟩) H.t2 H.t1);rw[hpre]at I;have ag:B≠[]:=fun e=>by rw[e,Fd]at hpre;simp at hpre
    have Z:=zb (uh X ag);clear P b5 z X ag hpre Q;go_wp2_with fail;go_call I as e w6 ⟨rfl,b6⟩;have L:=zb (H.next b6);obtain⟨r,hr,hrg,hrl,C⟩:=uh Z w6 L.s2;have V:=zb C;rw[hr]at k;have ab:=zb fun wx (h:SS wx T U 0 (d.map zG))=>uh N r wx hrg hrl h;clear Z N hr hrg hrl C I b6 H;go_wp2_with fail;go_call V as e w7 ⟨rfl,b7⟩;have ah:=zb (zh L.bl b7);have M:=zb (uh ab w7 (L.s1.below b7));clear V b7 ab
    cases hpv:qV r d m
    all_goals (
     rw[hpv]at M k;simp only[X9]at M;clear hpv;go_wp2_with fail;go_call M as e w9 ⟨rfl,b9⟩;have ai:=zb (zh ah b9);clear M b9;go_wp2;go_ret2;exact⟨by rw[uh k];rfl,ai⟩)
 .have s:=zb (uh K B a2 g2 O w3 (.inr rfl) f.s2)
  cases hg:zM v B with
  | none=>
   rw[X8 hg]at s;have k:Hid (R= .inl 3):=by show _=_;rw[← uh S];unfold ZS;simp only;rw[l,yf dc,yf dc,yf dc,yf dc,yg rfl,hg]
   clear hv hl i j p q hval hk1 hk6 F G K Q hg;go_wp2_with fail;go_call s as e w4 ⟨rfl,b4⟩;have J:=zb (zh f.bl b4);clear s b4;go_wp2;go_ret2;exact⟨by rw[uh k];rfl,J⟩
  | some m=>
   rw[KI hg]at s;have k:Hid (R=Z9 3 (qV v d m)):=by show _=_;rw[← uh S];unfold ZS;simp only;rw[l,yf dc,yf dc,yf dc,yf dc,yg rfl,hg]
   have hlm:=VC hv hg;have N:=zb fun wx (h:SS wx T U 0 (d.map zG))=>Se v m d T U 0 A wx hv (hv.get hg) hl om j i E h;clear hv hl i j p q hval hk1 hk6 F G K Q hg hlm;generalize ze (ct m)=sm at *;go_wp2_with fail;go_call s as e w4 ⟨rfl,b4⟩;have z:=zb (f.next b4);obtain⟨s10,s11,s12,s13⟩:=z.op.c;have M:=zb (uh N w4 z.s1);clear s b4 f N r10 r11 r12 r13
   cases hpv:qV v d m
   all_goals (
    rw[hpv]at M k;simp only[X9]at M;clear hpv;go_wp2_with fail;go_call M as e w9 ⟨rfl,b9⟩;have ai:=zb (zh z.bl b9);clear M b9;go_wp2;go_ret2;exact⟨by rw[uh k];rfl,ai⟩)
 .clear Q K
  cases hg:zM v d with
  | none=>
   obtain rfl:=F hg;have k:Hid (R= .inl 3):=by
    show _=_
    rw[← uh S];unfold ZS;simp only;rcases l with l | l | l
    .rw[l,yf dc,yg rfl,zdh hg];rfl
    .rw[l,yf dc,yf dc,yg rfl];unfold qI;rw[hg];rfl
    .rw[l,yf dc,yf dc,yf dc,yf dc,yf dc,hg]
   clear hv hl i j p q hval hk1 hk6 F G hg;rcases l with l | l | l
   all_goals (
    go_wp2;go_ret2;exact⟨by rw[uh k];rfl,f.bl⟩)
  | some c=>
   obtain⟨rfl,rfl⟩:=G c hg;clear F G;rcases l with l | l | l
   .by_cases h0:d=[]
    .subst h0;have k:Hid (R= .inl 3):=by show _=_;rw[← uh S];unfold ZS;simp only;rw[l,yf dc,yg rfl];rfl
     clear hv hl i j p q hval hk1 hk6 hg;go_wp2;go_ret2;exact⟨by rw[uh k];rfl,f.bl⟩
    .have hpos:¬ d.length=0:=fun h=>h0 (yO h);have hposI:((d.length:Int) ==0)=ζ:=by rw[yd];omega
     obtain⟨r,hr,-,-,C⟩:=TL v c d T U 0 A w3 h0 hv hg hl j i E f.s1;have V:=zb C;have k:Hid (R= .inr r):=by show _=_;rw[← uh S];unfold ZS;simp only;rw[l,yf dc,yg rfl,hr];rfl
     clear hv hl i j p q hval hk1 hk6 hg h0 hpos hr C;generalize ze (ct c)=sc at *;go_wp2_with fail;go_call V as e w4 ⟨rfl,b4⟩;have J:=zb (zh f.bl b4);clear V b4;go_wp2;go_ret2;exact⟨by rw[uh k];rfl,J⟩
   .obtain⟨e1,e2,e3⟩:=hval (by rw[l];rfl);have hsl:=Gk (u:=u) hv hg;have V:=zb (X7 d v u c T U 0 A w3 hv e2 hg hl om j i E f.s1);rw[← e1]at V;have k:Hid (R= .inr (qf v d u)):=by show _=_;rw[← uh S];unfold ZS;simp only;rw[l,yf dc,yf dc,yg rfl];unfold qI;rw[hg];rfl
    clear hv hl i j p q hval hk1 hk6 hg hsl e1 e2 e3;generalize ze (ct c)=sc at *;go_wp2_with fail;go_call V as e w4 ⟨rfl,b4⟩;have J:=zb (zh f.bl b4);clear V b4;go_wp2;go_ret2;exact⟨by rw[uh k];rfl,J⟩
   .have hse:=Xu (ct c) (ct u);rw[← (hval (by rw[l];rfl)).1]at hse;have k:Hid (R=if ct c=ct u then .inr v else .inl 5):=by show _=_;rw[← uh S];unfold ZS;simp only;rw[l,yf dc,yf dc,yf dc,yf dc,yf dc,hg]
    clear hv hl i j p q hval hk1 hk6 hg;by_cases he:ct c=ct u
    .rw[yD.2 he]at hse;rw[yg he]at k;clear he;generalize ze (ct c)=sc at *;go_wp2;go_ret2;exact⟨by rw[uh k];rfl,f.bl⟩
    .rw[yd.2 he]at hse;rw[yf he]at k;clear he;generalize ze (ct c)=sc at *;go_wp2;go_ret2;exact⟨by rw[uh k];rfl,f.bl⟩
theorem DS.set(h:DS B rb w w1)(hr:rb<g)(hg:w.heap.size<=g)(z:ω):DS B rb w (w1.setCell ⟨g,i,ν⟩ z):=by
 have a:B<=rb:=by obtain⟨_,_,_,_,_,_,_,a,_⟩:=h.1;exact a
 exact⟨h.1.grown (PL w1 g i z) (fun e=>by injection e with e;omega) (fun k e=>by injection e with e;omega),WC h.2 (PL w1 g i z) fun j e=>by injection e with e;omega⟩
structure JW(B rb g4 g6:Nat)(w wx:Wo)(o:zk):Prop where
 ds:DS B rb w wx
 op:qd wx g6 o
 r4:qd wx g4 ⟨0,⟨#[]⟩,⟨#[]⟩,⟨#[]⟩⟩
 lt:rb<g4
 l6:g4<g6
 eq:w.heap.size=g4
section
variable {B rb g4 g6:Nat} {w w1 w2:Wo} {o:zk}
theorem JW.below(h:JW B rb g4 g6 w w1 o)(hb:Below w1 w1 w2):JW B rb g4 g6 w w2 o:=⟨h.ds.below hb,h.op.below hb,h.r4.below hb,h.lt,h.l6,h.eq⟩
theorem JW.step(h:JW B rb g4 g6 w w1 o)(r:YU w2 B rb)(g:w1.grownBy w2 (η rb)):JW B rb g4 g6 w w2 o:=
 ⟨h.ds.step r g,(g.block g6 h.op.lt fun e=>by injection e with e;have:=h.lt;have:=h.l6;omega).trans h.op,(g.block g4 h.r4.lt fun e=>by injection e with e;have:=h.lt;omega).trans h.r4,h.lt,h.l6,h.eq⟩
theorem JW.oth(h:JW B rb g4 g6 w w1 o)(i:Nat)(z:ω):DS B rb w (w1.setCell ⟨g6,i,ν⟩ z)/\qd (w1.setCell ⟨g6,i,ν⟩ z) g4 ⟨0,⟨#[]⟩,⟨#[]⟩,⟨#[]⟩⟩:=
 ⟨h.ds.set (by have:=h.lt;have:=h.l6;omega) (by have:=h.eq;have:=h.l6;omega) z,(Ζ _ _ _ _ (by have:=h.l6;show g4≠g6;omega)).trans h.r4⟩
theorem JW.s1(h:JW B rb g4 g6 w w1 o)(z:Bs):JW B rb g4 g6 w (w1.setCell ⟨g6,1,ν⟩ z) ⟨o.kind,z,o.src,o.val⟩:=⟨(h.oth 1 _).1,h.op.s1 z,(h.oth 1 _).2,h.lt,h.l6,h.eq⟩
theorem JW.s2(h:JW B rb g4 g6 w w1 o)(z:Bs):JW B rb g4 g6 w (w1.setCell ⟨g6,2,ν⟩ z) ⟨o.kind,o.path,z,o.val⟩:=⟨(h.oth 2 _).1,h.op.s2 z,(h.oth 2 _).2,h.lt,h.l6,h.eq⟩
theorem JW.s3(h:JW B rb g4 g6 w w1 o)(z:Bs):JW B rb g4 g6 w (w1.setCell ⟨g6,3,ν⟩ z) ⟨o.kind,o.path,o.src,z⟩:=⟨(h.oth 3 _).1,h.op.s3 z,(h.oth 3 _).2,h.lt,h.l6,h.eq⟩
end
structure OQ(o:zk):Prop where
 k1:1<=o.kind
 k6:o.kind<=6
 path:o.path.size<=40100
 src:o.src.size<=40100
 val:Zz o.kind=ξ->∃ u:JV,o.val=ze (ct u)/\zx u/\(ct u).length<=20000
 no:Zz o.kind=ζ->o.val=⟨#[]⟩
def gk(x:Nat):Int:=1+(x:Int) % 6
def VD(v:JV)(q:List UInt8):Bs×List UInt8:=Gn v (gk (nx q).1 ==1 || Z1 (gk (nx q).1)) (nx q).2
def YZ(v:JV)(q:List UInt8):Bs×List UInt8:=if Z1 (gk (nx q).1)=ξ then Gn v ζ (VD v q).2 else (⟨#[]⟩,(VD v q).2)
def Vg(v:JV)(q:List UInt8):Bs×List UInt8:=if Zz (gk (nx q).1)=ξ then (ze (ct (Gj (YZ v q).2).1),(Gj (YZ v q).2).2)else (⟨#[]⟩,(YZ v q).2)
def WI(v:JV)(q:List UInt8):Bs:=if (gk (nx q).1 ==6 && decide ((nx q).1<200))=ξ then (match zM v ((zH (VD v q).1.data.toList).getD [])with
 | some u=>ze (ct u)
 | none=>(Vg v q).1)else (Vg v q).1
def WJ(v:JV)(q:List UInt8):zk×List UInt8:=(⟨gk (nx q).1,(VD v q).1,(YZ v q).1,WI v q⟩,(Vg v q).2)
theorem TN(hd:U6 v)(hv:zx v)(hl:(ct v).length<=20000)(q:List UInt8):OQ (WJ v q).1:=by
 have f:1<=gk (nx q).1/\gk (nx q).1<=6:=by unfold gk;omega
 have a:Z7 (Gj (YZ v q).2).1:=Tc Tb;have d:Zz (gk (nx q).1)=ξ->∃ u:JV,(Vg v q).1=ze (ct u)/\zx u/\(ct u).length<=20000:=fun h=>⟨_,by unfold Vg;rw[yg h],a.t,a.len⟩;have g:Zz (gk (nx q).1)=ζ->(Vg v q).1=⟨#[]⟩:=fun h=>by unfold Vg;rw[yf (by rw[h];decide)]
 refine⟨f.1,f.2,RW hd _ _,?_,fun h=>?_,fun h=>?_⟩
 .show (YZ v q).1.size<=_
  unfold YZ;split
  .exact RW hd _ _
  .show (⟨#[]⟩:Bs).size<=_;decide
 .show ∃ u:JV,WI v q=_/\_
  unfold WI;split
  .cases hg:zM v ((zH (VD v q).1.data.toList).getD [])with
   | none=>exact d h
   | some u=>exact⟨u,rfl,hv.get hg,yQ (VC hv hg) hl⟩
  .exact d h
 .show WI v q=_
  unfold WI;rw[yf ?_]
  .exact g h
  .intro b;rw[Bool.and_eq_true]at b;have e:=eq_of_beq b.1;have h:Zz (gk (nx q).1)=ζ:=h;rw[e]at h
   cases h
theorem DX.set(h:DX B rb w q w1)(hr:rb<g)(hg:w.heap.size<=g)(z:ω):DX B rb w q (w1.setCell ⟨g,i,ν⟩ z):=by
 have a:=h.rd.ge;exact⟨h.rd.grown (PL w1 g i z) (fun e=>by injection e with e;omega) (fun k e=>by injection e with e;omega),WC h.gr (PL w1 g i z) fun j e=>by injection e with e;omega⟩
structure QM(B rb g4 g6:Nat)(w wx:Wo)(q:List UInt8)(o:zk):Prop where
 ds:DX B rb w q wx
 op:qd wx g6 o
 r4:qd wx g4 ⟨0,⟨#[]⟩,⟨#[]⟩,⟨#[]⟩⟩
 lt:rb<g4
 l6:g4<g6
 eq:w.heap.size=g4
section
variable {B rb g4 g6:Nat} {w w1 w2:Wo} {q r:List UInt8} {o:zk}
theorem QM.below(h:QM B rb g4 g6 w w1 q o)(hb:Below w1 w1 w2):QM B rb g4 g6 w w2 q o:=⟨h.ds.below hb,h.op.below hb,h.r4.below hb,h.lt,h.l6,h.eq⟩
theorem QM.step(h:QM B rb g4 g6 w w1 q o)(d:DX B rb w1 r w2):QM B rb g4 g6 w w2 r o:=
 ⟨h.ds.step d,(d.gr.block g6 h.op.lt fun e=>by injection e with e;have:=h.lt;have:=h.l6;omega).trans h.op,(d.gr.block g4 h.r4.lt fun e=>by injection e with e;have:=h.lt;omega).trans h.r4,h.lt,h.l6,h.eq⟩
theorem QM.oth(h:QM B rb g4 g6 w w1 q o)(i:Nat)(z:ω):DX B rb w q (w1.setCell ⟨g6,i,ν⟩ z)/\qd (w1.setCell ⟨g6,i,ν⟩ z) g4 ⟨0,⟨#[]⟩,⟨#[]⟩,⟨#[]⟩⟩:=
 ⟨h.ds.set (by have:=h.lt;have:=h.l6;omega) (by have:=h.eq;have:=h.l6;omega) z,(Ζ _ _ _ _ (by have:=h.l6;show g4≠g6;omega)).trans h.r4⟩
theorem QM.s1(h:QM B rb g4 g6 w w1 q o)(z:Bs):QM B rb g4 g6 w (w1.setCell ⟨g6,1,ν⟩ z) q ⟨o.kind,z,o.src,o.val⟩:=⟨(h.oth 1 _).1,h.op.s1 z,(h.oth 1 _).2,h.lt,h.l6,h.eq⟩
theorem QM.s2(h:QM B rb g4 g6 w w1 q o)(z:Bs):QM B rb g4 g6 w (w1.setCell ⟨g6,2,ν⟩ z) q ⟨o.kind,o.path,z,o.val⟩:=⟨(h.oth 2 _).1,h.op.s2 z,(h.oth 2 _).2,h.lt,h.l6,h.eq⟩
theorem QM.s3(h:QM B rb g4 g6 w w1 q o)(z:Bs):QM B rb g4 g6 w (w1.setCell ⟨g6,3,ν⟩ z) q ⟨o.kind,o.path,o.src,z⟩:=⟨(h.oth 3 _).1,h.op.s3 z,(h.oth 3 _).2,h.lt,h.l6,h.eq⟩
end
theorem zdi(B rb:Nat)(v:JV)(q0:List UInt8)(w:Wo)(h:ZJ w B rb q0)(hd:U6 v)(hv:zx v)(hl:(ct v).length<=20000):
  δ prog 57 #[rb,σ (ze (ct v))] w fun e w'=>e=ε (.agg (qz (WJ v q0).1))/\DX B rb w (WJ v q0).2 w':=by
 have hA:=ZO w (χ (qz ⟨0,⟨#[]⟩,⟨#[]⟩,⟨#[]⟩⟩) 82);have kA:qd (w.alloc (χ (qz ⟨0,⟨#[]⟩,⟨#[]⟩,⟨#[]⟩⟩) 82)) w ⟨0,⟨#[]⟩,⟨#[]⟩,⟨#[]⟩⟩:=yH w _;have HX:=zb (Q6 B rb q0 _ ((DX.refl h).below hA).rd);have HA:=zb hA;have H:=zb kA;have m:=h.lt;have S:=zb (DX.refl h);have C:=zb fun (b:Bool) (q:List UInt8) (wx:Wo) (hr:ZJ wx B rb q)=>zcU B rb v b q wx hr hd;have HGL:=zb (RW hd);have P:=zb fun (q:List UInt8) (wx:Wo) (hr:ZJ wx B rb q)=>zcv B rb q wx hr;have G:=zb fun (ts:List (List UInt8)) (r:ω) (B1:Nat) wx (ho:OT wx B1 r ts) (h1:ts.length<=1048577) (E:(∀ t∈ts,t.length<=1048576))=>zkw v hv.ok hv.tw om r ts wx ho h1 E;have hx:=QS q0;have eP:VD v q0=Gn v (gk (nx q0).1 ==1 || Z1 (gk (nx q0).1)) (nx q0).2:=rfl;have eS:YZ v q0=if Z1 (gk (nx q0).1)=ξ then Gn v ζ (VD v q0).2 else (⟨#[]⟩,(VD v q0).2):=rfl
 have eV:Vg v q0=if Zz (gk (nx q0).1)=ξ then (ze (ct (Gj (YZ v q0).2).1),(Gj (YZ v q0).2).2)else (⟨#[]⟩,(YZ v q0).2):=rfl
 have eZ:WI v q0=if (gk (nx q0).1 ==6 && decide ((nx q0).1<200))=ξ then (match zM v ((zH (VD v q0).1.data.toList).getD [])with | some u=>ze (ct u) | none=>(Vg v q0).1)else (Vg v q0).1:=rfl
 show δ prog 57 #[rb,σ (ze (ct v))] w fun e w'=>e=ε (.agg (qz ⟨gk (nx q0).1,(VD v q0).1,(YZ v q0).1,WI v q0⟩))/\DX B rb w (Vg v q0).2 w'
 have U:1+((nx q0).1:Int) % 6=gk (nx q0).1:=rfl;generalize VD v q0=j at *;generalize YZ v q0=f at *;generalize Vg v q0=n at *;generalize WI v q0=ZZ at *;generalize (nx q0).1=x at *;generalize (nx q0).2=q1 at *;generalize gk x=K at *;have hK1:=U;have hKb:1<=K/\K<=6:=om;have EP:=zb eP;have ES:=zb eS;have EV:=zb eV;have EZ:=zb eZ;have hpz:j.1.size<=40100:=by rw[eP];exact uh HGL _ _
 clear hA kA hd hv h hl eP eS eV eZ U;go_in;go_wp2_with fail;go_call HX as e w1 ⟨rfl,Z⟩;have k1:qd w1 w ⟨0,⟨#[]⟩,⟨#[]⟩,⟨#[]⟩⟩:=(Z.gr.block w H.lt fun e=>by injection e with e;omega).trans H;have hz1:=k1.lt;have M:=ZO w1 (χ (qz ⟨K,⟨#[]⟩,⟨#[]⟩,⟨#[]⟩⟩) 82);have i:Hid (QM B rb w w1 w (w1.alloc (χ (qz ⟨K,⟨#[]⟩,⟨#[]⟩,⟨#[]⟩⟩) 82)) q1 ⟨K,⟨#[]⟩,⟨#[]⟩,⟨#[]⟩⟩):=
  ⟨(((S.below HA).step Z)).below M,yH w1 _,k1.below M,m,hz1,rfl⟩
 clear HX HA H Z k1 M S;go_upto_region 3 with fail;generalize w1.heap.size=L at *;generalize w1.alloc _=w2 at *;go_cut []from 17 to 28 (fun wx=>QM B rb w L w wx j.2 ⟨K,j.1,⟨#[]⟩,⟨#[]⟩⟩)
 case first=>
  obtain⟨c0,c1,-,-⟩:=i.op.c;by_cases hk:K=1
  case' pos=>
   have t1:(K ==1)=ξ:=by simp[hk]
   have g:=zb (uh C ξ q1 _ i.ds.rd);have O:=uh EP;rw[t1,Bool.true_or]at O;rw[← O]at g;clear hk O;go_wp2_with fail
  case' neg=>
   have t1:(K ==1)=ζ:=by simp[hk]
   have HF:=zb (Oc K w2);have g:=zb (uh C (Z1 K) q1 _ i.ds.rd);have O:=uh EP;rw[t1,Bool.false_or]at O;rw[← O]at g;clear hk O;go_wp2_with fail;go_call HF as e w2' ⟨rfl,rfl⟩;clear HF;go_wp2_with fail
  all_goals
   go_call g as e w3 ⟨rfl,o⟩;have ZG:=zb (i.step o);obtain⟨-,dd1,-,-⟩:=ZG.op.c;have f3:=ZG.op.fz 1;have d:=zb (ZG.s1 j.1);clear g o;generalize j.1=tb at *;go_wp2;go_meet
   case rel=>exact d
 have i:=zb hcut;obtain⟨c0,-,-,-⟩:=hcut.op.c;clear hcut;go_wp2_with fail;go_call Oc K _ as e w3 ⟨rfl,rfl⟩;go_upto_if 31 with fail;go_cut []from 29 to 35 (fun wx=>QM B rb w L w wx f.2 ⟨K,j.1,f.1,⟨#[]⟩⟩)
 case first=>
  have k:=uh ES
  cases hf:Z1 K with
  | false=>
   rw[hf,yf dc]at k;have d:Hid (QM B rb w L w wc f.2 ⟨K,j.1,f.1,⟨#[]⟩⟩):=by rw[k];exact i
   clear hf k;go_wp2;go_meet
   case rel=>exact d
  | true=>
   rw[hf,yg rfl]at k;have g:=zb (uh C ζ j.2 _ i.ds.rd);rw[← k]at g;clear hf k;go_wp2_with fail;go_call g as e w3 ⟨rfl,o⟩;have ZG:=zb (i.step o);obtain⟨-,-,d2,-⟩:=ZG.op.c;have f3:=ZG.op.fz 2;have d:=zb (ZG.s2 f.1);clear g o;generalize f.1=tb at *;go_wp2;go_meet
   case rel=>exact d
 have i:=zb hcut;clear c0;obtain⟨c0,-,-,-⟩:=hcut.op.c;clear hcut C;go_wp2_with fail;go_call Ra K _ as e w3 ⟨rfl,rfl⟩;go_upto_if 38 with fail;go_cut []from 36 to 41 (fun wx=>QM B rb w L w wx n.2 ⟨K,j.1,f.1,n.1⟩)
 case first=>
  have k:=uh EV
  cases hf:Zz K with
  | false=>
   rw[hf,yf dc]at k;have d:Hid (QM B rb w L w wc n.2 ⟨K,j.1,f.1,n.1⟩):=by rw[k];exact i
   clear hf k;go_wp2;go_meet
   case rel=>exact d
  | true=>
   rw[hf,yg rfl]at k;have g:=zb (uh P f.2 _ i.ds.rd);have h1:ze (ct (Gj f.2).1)=n.1:=by rw[k]
   have E:(Gj f.2).2=n.2:=by rw[k]
   rw[h1,E]at g;clear hf k h1 E;go_wp2_with fail;go_call g as e w3 ⟨rfl,o⟩;have ZG:=zb (i.step o);obtain⟨-,-,-,d2⟩:=ZG.op.c;have f3:=ZG.op.fz 3;have d:=zb (ZG.s3 n.1);clear g o;generalize n.1=tb at *;go_wp2;go_meet
   case rel=>exact d
 have i:=zb hcut;clear c0;obtain⟨c0,c1,-,c3⟩:=hcut.op.c;clear hcut P EP ES EV;have I:=zb fun wz=>WE j.1 wz (show j.1.size<=1048576 by omega);obtain⟨W,X⟩:=OP j.1 om;have Q:=zb W;have R:=zb X;clear W X;generalize hp1:j.1=p at *;generalize n.1=z at *;generalize hv2:n.2=q4 at *;generalize hs1:f.1=s at *;have HP1:=zb hp1;have HV2:=zb hv2;have HS1:=zb hs1;clear hp1 hv2 hs1;generalize (zH p.data.toList).isSome=ok1 at *;generalize (zH p.data.toList).getD []=ps at *;obtain⟨b6,V⟩:∃ b:Bool,(K ==6)=b:=⟨_,rfl⟩;obtain⟨Y,N⟩:∃ b:Bool,decide (x<200)=b:=⟨_,rfl⟩;have a:=uh EZ;rw[V,N]at a;have J:=zb a;have F:=zb N;clear EZ a N;go_upto_region 8 with fail;go_cut [48]from 42 to 48 (fun y wx=>y=θ (b6 && Y)/\wc=wx)
 case first=>
  cases b6 with
  | false=>
   go_wp2;go_meet
   case rel=>exact⟨rfl,rfl⟩
  | true=>
   by_cases E:x<200
   .have e2:((x:Int)<200)=True:=eq_true om;obtain rfl:true=Y:=by rw[← uh F];simp[E]
    clear E;go_wp2;go_meet
    case rel=>exact⟨rfl,rfl⟩
   .have e2:((x:Int)<200)=False:=yR om;obtain rfl:false=Y:=by rw[← uh F];simp[E]
    clear E;go_wp2;go_meet
    case rel=>exact⟨rfl,rfl⟩
 obtain⟨rfl,rfl⟩:=hcut;clear V F;generalize (b6 && Y)=b at *;go_upto_if 48 with fail;go_cut []from 49 to 63 (fun wx=>QM B rb w L w wx q4 ⟨K,p,s,ZZ⟩)
 case first=>
  have a:=uh J
  cases b with
  | false=>
   rw[yf dc]at a;subst a;go_wp2;go_meet
   case rel=>exact i
  | true=>
   rw[yg rfl]at a;have T:=zb (uh I wc);have D:=zb a;clear I a J;go_wp2_with fail;go_call T as e w4 ⟨r4,rfl,o4,b4⟩;have d:=zb (i.below b4);have g:=zb (uh G ps r4 _ w4 o4 Q R);clear T o4 b4 G
   cases hg:zM v ps with
   | none=>
    rw[X8 hg]at g;have a:=uh D;rw[hg]at a;subst a;clear hg D;go_wp2_with fail;go_call g as e w5 ⟨rfl,b5⟩;have l:=zb (d.below b5);clear g b5;go_wp2;go_meet
    case rel=>exact l
   | some u=>
    rw[KI hg]at g;have a:=uh D;rw[hg]at a;simp only at a;rw[← a]at g;clear hg D a;go_wp2_with fail;go_call g as e w5 ⟨rfl,b5⟩;have l:=zb (d.below b5);obtain⟨-,-,-,o⟩:=l.op.c;have f3:=l.op.fz 3;clear g b5;go_wp2;go_meet
    case rel=>exact l.s3 ZZ
 have A:=hcut;obtain⟨d0,Z,d2,o⟩:=A.op.c;obtain⟨e0,e1,e2,e3⟩:=A.r4.c;have f0:=A.r4.fz 0;have f1:=A.r4.fz 1;have f2:=A.r4.fz 2;have f3:=A.r4.fz 3;have HR4:=zb A.r4;have HD:=zb A.ds;have hne:¬ L=w.heap.size:=by have:=A.l6;omega
 clear A hcut i J I Q R G c0 c1 c3;go_wp2;refine bodyPost_ret (results_cell_row rfl _ _ w 82 #[_,_,_,_] (0,0) _ rfl (Z3 HR4 [_,_,_,_] rfl) underlying82 rfl kr) rfl ?_;exact by rw[uh HP1,uh HV2,uh HS1];exact⟨rfl,(((HD.set m (ye _) _).set m (ye _) _).set m (ye _) _).set m (ye _) _⟩
theorem Sf:(prog.info? 82).map (fun i=>(i.zero,i.size,i.bytes))=η (η (γ #[ι κ 0,Β,Β,Β]),4,56):=by kernel_rfl
def zX(w:Wo)(B:Nat)(v:ω)(ms:List zk):Prop:=w.ownsRow B 82 4 v ms.length (ms.flatMap Jn)
theorem zX.step{v:ω}(h:w.ownsRow B 82 4 v (ms.length+1) (ms.flatMap Jn++Jn m)):zX w B v (ms++[m]):=by
 unfold zX;rw[yh,List.flatMap_append,List.flatMap_singleton];exact h
theorem zX.orow{v:ω}(h:zX w B v ms):zw Qq w v ms v.ownBlock.toList/\ZQ B v.ownBlock.toList:=by
 refine⟨⟨ms.map fun m=>(Jn m,[]),sm,fun j p x hp hx=>?_,?_,?_⟩,?_⟩
 .rw[List.getElem?_map,hx]at hp;injection hp with hp;subst hp;exact⟨rfl,rfl⟩
 .have e:(ms.map fun m=>((Jn m,[]):List ω×List Nat)).flatMap (·.1)=ms.flatMap Jn:=by rw[List.flatMap_map]
  rw[e];exact qH h (yu _)
 .have e:(ms.map fun m=>((Jn m,[]):List ω×List Nat)).flatMap (·.2)=[]:=by rw[List.flatMap_map];simp
  rw[e,yT]
 .refine⟨?_,fun b hb=>(h.lt b (by simpa using hb)).1⟩
  cases v.ownBlock<;>simp
theorem Sg(w:Wo)(m:zk):∀ j u,(Jn m)[j]?=η u->(w.alloc (χ (qz m) 82)).cell? ((w:Addr).add j)=η u:=Fa w (Jn m) 82
theorem Sh(m:zk):∀ u∈Jn m,u.oneCell'=ξ:=by
 intro u a;simp only[Jn,List.mem_cons,List.not_mem_nil,or_false]at a;rcases a with rfl | rfl | rfl | rfl<;>rfl
theorem zdj(h:zz u)(h0:0<(ze (ct u)).size):((((ze (ct u))[0]).toNat:Int) !=91)=!(kd u ==5):=by
 obtain⟨c,r,e,f⟩:=Uc h;have d:((ze (ct u))[0]).toNat=c.toNat:=by
  rw[← Zx _ 0 h0,e];exact (VX (c:=c) (r:=r)).2
 rw[d,← f];unfold fb;by_cases b:c.toNat=91
 .rw[b];rfl
 .have a:((c.toNat:Int) !=91)=ξ:=so;rw[a];symm;rw[Bool.not_eq_true',yd]
  repeat (first |(split;omega) | split)
  all_goals omega
theorem zdk(l:JL):(zl (.arr l)).length=l.toL.length/\∀ j (h:j<(zl (.arr l)).length) (h':j<l.toL.length),(zl (.arr l))[j].2=ct l.toL[j]:=by
 have a:(zl (.arr l)).length=l.toL.length:=by
  show (qY 0 (zu l)).length=_
  rw[Wu,Qd,yl]
 refine⟨a,fun j h h'=>?_⟩;have e:=FR (zu l) 0 j h;show ((qY 0 (zu l))[j]'h).2=_
 rw[e];simp only[Qd,List.getElem_map]
theorem zdl(s:Bs)(w:Wo)(hs:s.size<=33554432):
  δ prog 27 #[s] w fun e w'=>∃ v,e=ε (τ #[v,ι κ (ZL s).2.1,ι κ (ZL s).2.2])/\zX w' w v (ZL s).1/\Below w w w':=by
 obtain⟨i0,U,hz0,hz1,hz2⟩:=info_parts Sf;have hA:=zt w (χ #[] 82);have F:Hid (zX (w.alloc (χ #[] 82)) w (ς (η w) 0 0) []):=Fb w 82 4;have n:Hid (∀ wx,δ prog 63 #[s] wx fun e w'=>e=ε (qk s)/\Below wx wx w'):=fun wx=>XN s wx hs;have X:=zb hA
 cases hr:Zn s with
 | inl c=>
  have J:=XD hr;have Z:Hid (qk s= .tuple #[σ ⟨#[]⟩,ι κ (c:Int)]):=by show _=_;unfold qk;rw[hr]
  have HR:Hid (ZL s=([],1,0)):=by show _=_;unfold ZL;rw[hr]
  rw[uh Z]at n;have t2:((c:Int) !=0)=ξ:=so;have t3:¬ (c:Int)=0:=om;have t4:¬ c=0:=om;go_in;go_wp2_with fail;go_call uh n _ as e w2 ⟨rfl,b2⟩;have f:=zb (zh X b2);have o:Hid (zX w2 w (ς (η w) 0 0) []):=Zh F b2;go_wp2;go_ret3;exact⟨_,by rw[uh HR];rfl,by rw[uh HR];exact uh o,f⟩
 | inr a=>
  have p:=Z7.of hr;have Z:Hid (qk s= .tuple #[σ (ze (ct a)),ι κ 0]):=by show _=_;unfold qk;rw[hr]
  rw[uh Z]at n;have h0:=RY p.ok;have h0I:(0:Int)<((ze (ct a)).size:Int):=om;have Q:=zdj p.ok h0;by_cases h5:kd a=5
  .obtain⟨l,rfl⟩:∃ l,a= .arr l:=by cases a<;>first | exact⟨_,rfl⟩ |(simp[kd]at h5)
   rw[show (!(kd (.arr l) ==5))=ζ from rfl]at Q;have HPT:Hid (∀ w,δ prog 64 #[σ (ze (ct (.arr l)))] w fun e w'=>∃ r,e=ε r/\PR w' w r (zl (.arr l))/\Below w w w'):=fun w=>Ww (.arr l) p.ok w (by have:=p.len;omega);obtain⟨hpl,hpt⟩:=zdk l;have aa:Hid (∀ j (h:j<l.toL.length) (wx:Wo),δ prog 65 #[σ (ze (ct l.toL[j]))] wx (OO l.toL[j] wx)):=fun j h wx=>by
    have W:=p.item (yt h);exact zdd _ W.ok W.tw (by have:=W.len;omega) (fun u J=>(W.child J).good) wx
   have N:=zb hpt;have HR0:Hid (100<l.toL.length->ZL s=([],3,100)):=fun h=>by unfold ZL;rw[hr];simp only;rw[yg h]
   have HR1:Hid (¬ 100<l.toL.length->∀ i (U:i<l.toL.length),ZX l.toL[i]=ζ->(∀ j (h:j<l.toL.length),j<i->ZX l.toL[j]=ξ)->ZL s=([],4,(i:Int))):=fun h i U H hg=>by
    have hf:l.toL.findIdx? (fun v=>!ZX v)=η i:=by
     rw[List.findIdx?_eq_some_iff_getElem];exact⟨U,by simp[H],fun j V=>by simp[hg j om V]⟩
    unfold ZL;rw[hr];simp only;rw[yf h,hf]
   have HR2:Hid (¬ 100<l.toL.length->(∀ j (h:j<l.toL.length),ZX l.toL[j]=ξ)->ZL s=(l.toL.map qD,0,0)):=fun h hg=>by
    have hf:l.toL.findIdx? (fun v=>!ZX v)=ν:=by
     rw[Ξ];intro x hx;obtain⟨j,V,rfl⟩:=yY.1 hx;simp[hg j V]
    unfold ZL;rw[hr];simp only;rw[yf h,hf]
   generalize zl (.arr l)=R at *;generalize l.toL=d at *;go_in;go_wp2_with fail;go_call uh n _ as e w2 ⟨rfl,b2⟩;have f:=zb (zh X b2);have o:Hid (zX w2 w (ς (η w) 0 0) []):=Zh F b2;have HP3:=zb (uh HPT w2);go_wp2_with fail;go_call HP3 as e w3 ⟨pv,rfl,p3,b3⟩;obtain⟨xa,xc,rfl⟩:∃ xa xc,pv=ς xa R.length xc:=by
    rcases p3.2 with ⟨I,h0⟩ |⟨g,cap,cur,I,_⟩
    .exact⟨ν,0,by rw[I,h0]⟩
    .exact⟨_,_,I⟩
   have q:=zb (zh f b3);have K:Hid (zX w3 w (ς (η ⟨w,0,ν⟩) 0 0) []):=Zh o b3;have M:=zb p3;by_cases h100:100<R.length
   .have t1:(100:Int)<(R.length:Int):=om;have HR:=zb (uh HR0 om);go_wp2;go_ret3;exact⟨_,by rw[uh HR];rfl,by rw[uh HR];exact uh K,q⟩
   .have t1:¬ (100:Int)<(R.length:Int):=om;have hA4:=zt w3 (χ #[] 82);have ad:Hid (zX (w3.alloc (χ #[] 82)) w3 (ς (η ⟨w3,0,ν⟩) 0 0) []):=Fb w3 82 4;have Y:=zb hA4;rw[hpl]at M;have O:Hid (∀ k (h:k<d.length) (wx:Wo),Below w3 w3 wx->∃ g,xa=η ⟨g,0,ν⟩/\wx.cell? ⟨g,k*2+1,ν⟩=η (σ (ze (ct d[k])))):=fun k h wx hx=>by
     have hk:k<R.length:=om;obtain⟨g,cap,I,_,_,_,J⟩:=(M.below hx).cells k hk;injection I with I _ _;rw[uh N k hk h]at J;exact⟨g,I,J⟩
    have hx100:d.length<=100:=om;go_wp2;generalize hw4:w3.alloc (χ #[] 82)=w4 at *;go_loopw [9,10] (fun lv i wr=>∃ k:Nat,k<=d.length/\i=ι κ k/\zX wr w3 lv ((d.take k).map qD)/\Below w3 w3 wr/\∀ j (h:j<d.length),j<k->ZX d[j]=ξ) (fun _ i _=>d.length - (intOf i).toNat)
    case atStart=>exact⟨0,yu _,rfl,ad,Y,fun j _ h=>om⟩
    case round=>
     obtain⟨k,hk,rfl,ho,H,B⟩:=hrel;have HO:=zb ho;have E:=zb H;have z:=zb B;have hbz:=H.size;by_cases y:k<d.length
     .have hltI:(k:Int)<(d.length:Int):=om;obtain⟨g,rfl,J⟩:=uh O k y wr H;have HD:=zb (uh aa k y wr);have HST:Hid ((d.take (k+1)).map qD=(d.take k).map qD++[qD d[k]]):=by
       show _=_
       rw[yz y,yx];rfl
      have hal:((d.take k).map qD).length<=100:=by rw[yl,ym];omega
      go_wp2_with fail;go_call HD as e w5 ⟨b5,mo,rfl,hmo⟩;have P:=zh E b5
      cases hok:ZX d[k]with
      | false=>
       have HR:=zb (uh HR1 om k y hok z);have S:=zt w5 (χ (qz mo) 82);have af:Hid (zX (w5.alloc (χ (qz mo) 82)) w (ς (η w) 0 0) []):=Zh K (zh P S);have m:=zb (zh q (zh P S));go_wp2;go_ret3;exact⟨_,by rw[uh HR];rfl,by rw[uh HR];exact uh af,m⟩
      | true=>
       obtain rfl:=hmo hok;have C:Hid (∀ j (h:j<d.length),j<k+1->ZX d[j]=ξ):=fun j h V=>by
        by_cases e:j=k
        .subst e;exact hok
        .exact uh z j h om
       generalize qD d[k]=mo at *;generalize (d.take k).map qD=A at *;have S:=zt w5 (χ (qz mo) 82);have hM:=zt (w5.alloc (χ (qz mo) 82)) (χ (qz mo) 82);have zN:(w5.alloc (χ (qz mo) 82)).heap.size=w5.heap.size+1:=sm;have lM:=Sg (w5.alloc (χ (qz mo) 82)) mo;rw[zN]at lM;have bN:=zh b5 (zh S hM);have L:Hid (zX _ w3 u9 A):=Zh HO bN;have D:=zb (zh E bN);have ab:=zb lM;go_wp2_with (at_builtin;refine wpList_append_own _ rfl (.tmp 52) (.tmp 54) 28 rfl w3 82 i0 (γ #[ι κ 0,Β,σ Β,σ Β]) 4 56 underlying28 U hz0 hz1 hz2 rfl dc _ _ _ rfl L ⟨w5.heap.size+1,0,ν⟩ 1 1 (Jn mo) rfl rfl (uh ab) (Sh mo) (by unfold maxLen;omega) (by omega) D.size ?_);generalize ((w5.alloc (χ (qz mo) 82)).alloc (χ (qz mo) 82))=wM at *;intro l6 w6 o6 g6 gx6;have G:Hid (zX w6 w3 l6 (A++[mo])):=zX.step o6;have m:=zb (D.grown g6 D.size (fun b H=>(L.lt b H).1));go_wp2;go_roundw
       case rel=>exact⟨k+1,om,by go_num,by rw[uh HST];exact uh G,m,C⟩
       case measure=>simp[intOf];omega
     .have hkn:k=d.length:=om;subst hkn;rw[List.take_length]at HO;have HR:=zb (uh HR2 om (fun j h=>B j h h));have G:Hid (zX wr w u9 (d.map qD)):=qH HO q.size;have m:=zb (zh q E);go_wp2;go_ret3;exact⟨_,by rw[uh HR];rfl,by rw[uh HR];exact uh G,m⟩
  .have hno:(!(kd a ==5))=ξ:=by simp[h5]
   rw[hno]at Q;have HR:Hid (ZL s=([],2,0)):=by show _=_;unfold ZL;rw[hr];cases a<;>first | rfl | exact absurd rfl h5
   generalize ze (ct a)=T at *;go_in;go_wp2_with fail;go_call uh n _ as e w2 ⟨rfl,b2⟩;have f:=zb (zh X b2);have o:Hid (zX w2 w (ς (η w) 0 0) []):=Zh F b2;go_wp2;go_ret3;exact⟨_,by rw[uh HR];rfl,by rw[uh HR];exact uh o,f⟩
def YG(m:zk):JV:=match Zn m.val with
 | .inr u=>u
 | .inl _=>.nul
def qJ(m:zk):qj:=KK m (YG m)
def ZK(s:Bs)(ms:List zk):Bs×Int×Int:=match Zn s with
 | .inl _=>(⟨#[]⟩,1,0)
 | .inr v=>if 0<=qn ms then (⟨#[]⟩,2,qn ms)else match Qy v (ms.map qJ) 0 with
  | .inl ci=>(⟨#[]⟩,(ci.1:Int),(ci.2:Int))
  | .inr r=>(ze (ct r),0,0)
theorem Si(h:ZD m=ξ):1<=m.kind/\m.kind<=6/\(Zz m.kind=ξ->Zn m.val= .inr (YG m)/\m.val=ze (ct (YG m))/\Z7 (YG m)):=by
 unfold ZD at h;simp only[Bool.and_eq_true,decide_eq_true_eq]at h;refine⟨h.1.1.1.1,h.1.1.1.2,fun hv=>?_⟩;have b:=h.2;rw[yg hv,Ob]at b;obtain⟨u,a,d⟩:=b;have e:YG m=u:=by unfold YG;rw[a]
 rw[e];exact⟨a,d.symm,Z7.of a⟩
theorem Sj(h:¬ 0<=qn ms):ms.length<=100/\∀ m∈ms,ZD m=ξ:=by
 unfold qn at h;split at h
 .exact absurd om h
 .rename_i hl;split at h
  .rename_i i _;exact absurd om h
  .rename_i hf;rw[Ξ]at hf;exact⟨om,fun m hm=>by have:=hf m hm;simpa using this⟩
theorem UB(v:JV):YE v=ξ↔zJ v<=100/\zn v<=3000/\(ct v).length<=20000:=by
 unfold YE;simp[and_assoc]
theorem zx.lim(h:zx v)(hl:YE v=ξ):Z7 v:=by
 obtain⟨a,b,c⟩:=(UB v).1 hl;exact⟨h.rd,h.big,a,b,h.tw,h.ok,c⟩
theorem KM{r:JV}{ts:List (List UInt8)}(hv:zx v)(h:qV v ts u=η r):(ct r).length<=(ct v).length+(ct u).length+6*(QX ts).length+4:=by
 unfold qV at h;split at h
 .injection h with h;subst h;omega
 .unfold qI at h;obtain⟨x,hx,rfl⟩:=yA.1 h;obtain⟨y,a,b⟩:=Ε.1 hx;have d:=Tx (hv.get a) b;have f:=Gk (u:=x) hv a;omega
theorem Fe{r:JV}{ts:List (List UInt8)}(hv:zx v)(h:qZ v ts=η r):(ct r).length<=(ct v).length:=by
 unfold qZ at h;split at h
 .cases h
 .unfold qI at h;obtain⟨x,hx,rfl⟩:=yA.1 h;obtain⟨y,d,a⟩:=Ε.1 hx;unfold Vf at a;obtain⟨c,b,rfl⟩:=yA.1 a;have f:=RT b;have g:=Gk (u:=Qx y (QX ts)) hv d;omega
theorem TO{ts:List (List UInt8)}(h:∀ x∈ts,x.length<=n):(QX ts).length<=n:=by
 unfold QX
 cases hl:ts.getLast? with
 | none=>simp
 | some x=>exact h x (List.mem_of_getLast? hl)
theorem TP{r:JV}{o:qj}(hv:zx v)(h:ZS v o= .inr r)(hp:∀ x∈o.path,x.length<=1048576):(ct r).length<=(ct v).length+max (ct v).length (ct o.val).length+6*1048576+4:=by
 have b:=TO hp;unfold ZS at h;split at h
 .have:=KM hv (Jh h);omega
 .split at h
  .have:=Fe hv (Jh h);omega
  .split at h
   .have a:=Jh h;unfold qI at a;obtain⟨x,hx,rfl⟩:=yA.1 a;obtain⟨y,g,hp⟩:=Ε.1 hx;injection hp with hp;subst hp;have f:=Gk (u:=o.val) hv g;omega
   .split at h
    .split at h
     .cases h
     .rename_i m hm;have d:=VC hv hm;split at h
      .injection h with h;subst h;omega
      .split at h
       .cases h
       .split at h
        .cases h
        .rename_i x hx;have a:=KM (KE hv hx) (Jh h);have f:=Fe hv hx;omega
    .split at h
     .split at h
      .cases h
      .rename_i m hm;have d:=VC hv hm;have a:=KM hv (Jh h);omega
     .split at h
      .cases h
      .split at h
       .injection h with h;subst h;omega
       .cases h
theorem OR:∀ (n:Nat) (v:JV),zJ v<=n->zz v->zn v<=(ct v).length
 | 0,v,h,_=>by have:=(YP v).2;omega
 | n+1,v,h,hok=>by
  cases v with
  | arr l=>
   rw[zz,OE]at hok;have a:=XH (.arr l);have b:((ZB (.arr l)).map fun q=>zn q.2).sum=(l.toL.map zn).sum:=by
    show ((QR 0 l.toL).map fun q=>zn q.2).sum=_
    rw[show (fun q:List UInt8×JV=>zn q.2)=zn∘(·.2)from rfl,← List.map_map,Pr]
   have d:(l.toL.map zn).sum<=(l.toL.map fun v=>(ct v).length).sum:=X6 _ _ _ fun u hu=>OR n u (by
    have:=FT l.toL u hu;rw[zJ,UY]at h;omega) (hok u hu)
   rw[X5];unfold hold;omega
  | obj m=>
   rw[zz,OG]at hok;have a:=XH (.obj m);have b:((ZB (.obj m)).map fun q=>zn q.2).sum=(m.toL.map fun q=>zn q.2).sum:=((FS m.toL).map _).sum_nat;have d:(m.toL.map fun q=>zn q.2).sum<=(m.toL.map qr).sum:=X6 _ _ _ fun q hq=>by
    have:=OR n q.2 (by
     have:=FT (m.toL.map (·.2)) q.2 (yP.2 ⟨q,hq,rfl⟩);rw[zJ,Wr]at h;omega) (hok q hq).2
    unfold qr;omega
   rw[Y6];unfold hold;omega
  | _=>
   have:=PV hok;rw[zL]at this;simp only[zn];omega
def Wa(v:JV)(xs:List qj)(k:Nat)(u:JV):Prop:=Qy v xs 0=Qy u (xs.drop k) k/\Z7 u
theorem TQ{r:JV}(h:Wa v xs k u)(hk:k<xs.length)(hd:ZS u xs[k]= .inr r)(hr:zx r)(hl:YE r=ξ):Wa v xs (k+1) r:=by
 refine⟨?_,hr.lim hl⟩;rw[h.1,Δ hk,Qy,hd];simp only;rw[yg hl]
theorem TR{c:Nat}(h:Wa v xs k u)(hk:k<xs.length)(hd:ZS u xs[k]= .inl c):Qy v xs 0= .inl (c,k):=by
 rw[h.1,Δ hk,Qy,hd]
theorem Sk{r:JV}(h:Wa v xs k u)(hk:k<xs.length)(hd:ZS u xs[k]= .inr r)(hl:YE r=ζ):Qy v xs 0= .inl (7,k):=by
 rw[h.1,Δ hk,Qy,hd];simp only;rw[hl];rfl
theorem TS(h:Wa v xs k u)(hk:¬ k<xs.length):Qy v xs 0= .inr u:=by
 rw[h.1,List.drop_of_length_le om,Qy]
theorem OU{o:qj}{c:Nat}(h:ZS v o= .inl c):c≠0:=by
 have a:∀ {x:Option JV},Z9 3 x= .inl c->c≠0:=fun {x} h=>by
  cases x with
  | none=>injection h with h;omega
  | some y=>cases h
 unfold ZS at h
 repeat' split at h
 all_goals first | exact a h |(injection h with h;omega) | cases h
theorem zdm:zx .nul:=⟨by rw[Z0];trivial,rfl,rfl,by rw[zz];trivial⟩
theorem Sm(m:zk):zx (YG m)/\(ct (YG m)).length<=20000:=by
 unfold YG
 cases h:Zn m.val with
 | inl c=>exact⟨zdm,by show (ct .nul).length<=20000;decide⟩
 | inr u=>have:=Z7.of h;exact⟨this.t,this.len⟩
theorem zdn{r:JV}(hl:(ct r).length<=20000):YE r=decide (zJ r<=100/\zn r<=3000):=by
 rw[Bool.eq_iff_iff,UB,decide_eq_true_iff];constructor
 .rintro⟨a,b,_⟩;exact⟨a,b⟩
 .rintro⟨a,b⟩;exact⟨a,b,hl⟩
theorem zdo{r:JV}(hl:¬ (ct r).length<=20000):YE r=ζ:=by
 cases h:YE r with
 | false=>rfl
 | true=>exact absurd ((UB r).1 h).2.2 hl
theorem TU(s:Bs)(val:ω)(ms:List zk)(bl:List Nat)(w:Wo)(hrow:zw Qq w val ms bl)(hin:XQ ms)(hs:s.size<=1048576):
  δ prog 28 #[s,val] w fun e w'=>e=ε (τ #[σ (ZK s ms).1,ι κ (ZK s ms).2.1,ι κ (ZK s ms).2.2])/\Below w w w':=by
 have A:=zb (XN s w om);obtain⟨xa,xc,rfl,h1,V⟩:=hrow.form
 cases hr:Zn s with
 | inl c=>
  have hc:=XD hr;have HR:Hid (ZK s ms=(⟨#[]⟩,1,0)):=by show _=_;unfold ZK;rw[hr]
  have e:qk s= .tuple #[σ ⟨#[]⟩,ι κ (c:Int)]:=by unfold qk;rw[hr]
  rw[e]at A;have t2:((c:Int) !=0)=ξ:=so;go_in;go_wp2_with fail;go_call A as e w1 ⟨rfl,b1⟩;have y:=zb b1;go_wp2;go_ret3;exact⟨by rw[uh HR];rfl,y⟩
 | inr v=>
  have hg:=Z7.of hr;have e:qk s= .tuple #[σ (ze (ct v)),ι κ 0]:=by unfold qk;rw[hr]
  rw[e]at A;have O:=zb fun wx (hx:Below w w wx)=>zbn _ ms bl wx (hrow.below hx) hin;by_cases x:0<=qn ms
  .have HR:Hid (ZK s ms=(⟨#[]⟩,2,qn ms)):=by show _=_;unfold ZK;rw[hr];simp only;rw[yg x]
   generalize qn ms=z at *;generalize ze (ct v)=sv at *;go_in;go_wp2_with fail;go_call A as e w1 ⟨rfl,b1⟩;have K:=zb (uh O w1 b1);have y:=zb b1;go_wp2_with fail;go_call K as e w2 ⟨rfl,b2⟩;have J:=zb (zh y b2);go_wp2;go_ret3;exact⟨by rw[uh HR];rfl,J⟩
  .obtain⟨hl100,M⟩:=Sj x;have j:Hid (∀ c k,Qy v (ms.map qJ) 0= .inl (c,k)->ZK s ms=(⟨#[]⟩,(c:Int),(k:Int))):=fun c k h=>by unfold ZK;rw[hr];simp only;rw[yf x,h]
   have D:Hid (∀ r,Qy v (ms.map qJ) 0= .inr r->ZK s ms=(ze (ct r),0,0)):=fun r h=>by unfold ZK;rw[hr];simp only;rw[yf x,h]
   have B:Hid (∀ (k:Nat) (P:k<ms.length) (u:JV) (wx:Wo),Z7 u->δ prog 58 #[σ (ze (ct u)),.agg (qz ms[k])] wx fun e w'=>e=ε (KL (ZS u (qJ ms[k])))/\Below wx wx w'):=fun k P u wx hu=>by
    obtain⟨a,b,c⟩:=Si (M _ (yt P));obtain⟨i1,i2,i3⟩:=hin _ (yt P);exact TM u (YG ms[k]) ms[k] wx hu.t (by have:=hu.len;omega) i1 i2 a b (fun hv=>by
     obtain⟨_,q2,q3⟩:=c hv;exact⟨q2,q3.t,by have:=q3.len;omega⟩)
   have C:Hid (∀ (k:Nat) (P:k<ms.length) (u r:JV),Z7 u->ZS u (qJ ms[k])= .inr r->zx r/\(ct r).length<=20000000):=fun k P u r hu hd=>by
    obtain⟨hvg,hvl⟩:=Sm ms[k];obtain⟨i1,i2,i3⟩:=hin _ (yt P);have h1:=X0 (o:=qJ ms[k]) hu.t hvg hd;have h2:=TP (o:=qJ ms[k]) hu.t hd (OP ms[k].path i1).2;have h3:=hu.len;have h4:(ct (qJ ms[k]).val).length<=20000:=hvl;exact⟨h1,om⟩
   have X:=zb hrow;have F:(ms.map qJ).length=ms.length:=yl _;have Z:=zb V;have S:Hid (Wa v (ms.map qJ) 0 v):=⟨rfl,hg⟩;have hbI:=x;clear hr e hg hrow hin hs h1 V M x;generalize qn ms=z at *;go_in;go_wp2_with fail;go_call A as e w1 ⟨rfl,b1⟩;have K:=zb (uh O w1 b1);have y:=zb b1;clear A b1 O;go_wp2_with fail;go_call K as e w2 ⟨rfl,b2⟩;have J:=zb (zh y b2);clear K b2 y;go_wp2;go_loopw [7,10] (fun tv i wr=>∃ (k:Nat) (u:JV),k<=ms.length/\i=ι κ (k:Int)/\tv=σ (ze (ct u))/\Wa v (ms.map qJ) k u/\Below w w wr) (fun _ i _=>ms.length - (intOf i).toNat)
   case atStart=>exact⟨0,v,yu _,rfl,rfl,S,J⟩
   case round=>
    obtain⟨k,u,P,rfl,rfl,d,x⟩:=hrel;have HRUN:=zb d;have H:=zb x;clear S J;by_cases L:k<ms.length
    .have U:(k:Int)<(ms.length:Int):=om;obtain⟨g,rfl⟩:=uh Z om;obtain⟨vs,ib,hE,l,_⟩:=(X.below x).at (yy L);obtain⟨rfl,_⟩:=hE;have c0:wr.cell? ⟨g,k*4,ν⟩=η (ι κ ms[k].kind):=(l 0 _ rfl).1;have c1:wr.cell? ⟨g,k*4+1,ν⟩=η (.string ms[k].path):=(l 1 _ rfl).1;have c2:wr.cell? ⟨g,k*4+2,ν⟩=η (.string ms[k].src):=(l 2 _ rfl).1;have c3:wr.cell? ⟨g,k*4+3,ν⟩=η (.string ms[k].val):=(l 3 _ rfl).1;have G:=zb (uh B k L u wr d.2);have p:(ms.map qJ)[k]'(by rw[F];exact L)=qJ ms[k]:=sm;have m:k<(ms.map qJ).length:=om
     cases hdo:ZS u (qJ ms[k])with
     | inl c=>
      rw[hdo]at G;rw[show KL (.inl c)= .tuple #[σ ⟨#[]⟩,ι κ (c:Int)]from rfl]at G;have hc0:=OU hdo
      have f:=zb (uh j c k (TR d m (by rw[p];exact hdo)));have t2:((c:Int) !=0)=ξ:=so;clear l d x hdo B C j D p m F hc0;go_wp2_with fail;go_call G as e w3 ⟨rfl,b3⟩;have q:=zb (zh H b3);clear G b3 c0 c1 c2 c3;go_wp2;go_ret3;exact⟨by rw[uh f];rfl,q⟩
     | inr r=>
      rw[hdo]at G;rw[show KL (.inr r)= .tuple #[σ (ze (ct r)),ι κ 0]from rfl]at G;obtain⟨E,Q⟩:=uh C k L u r d.2 hdo
      by_cases n:(ct r).length<=20000
      .have tl:¬ (20000:Int)<((ze (ct r)).size:Int):=by rw[zL];omega
       have T:=OR (zJ r) r (ye _) E.ok;have R:Hid (∀ wx,δ prog 60 #[σ (ze (ct r))] wx fun e w'=>e=ε (θ (YE r))/\Below wx wx w'):=fun wx=>by
        have:=Lu r E.ok wx om om;rw[zdn n];exact this
       cases hlim:YE r with
       | true=>
        rw[hlim]at R;have W:=zb (TQ d m (by rw[p];exact hdo) E hlim);clear l d x hdo B C j D p m F E Q n T hlim;generalize hsr:ze (ct r)=sr at *;have Y:=zb hsr;clear hsr;go_wp2_with fail;go_call G as e w3 ⟨rfl,b3⟩;have q:=zb (zh H b3);have I:=zb (uh R w3);clear G R b3 c0 c1 c2 c3;go_wp2_with fail;go_call I as e w4 ⟨rfl,b4⟩;have N:=zb (zh q b4);clear I b4;go_wp2;go_roundw
        case rel=>exact⟨k+1,r,om,by go_num,by rw[uh Y],W,N⟩
        case measure=>simp[intOf];omega
       | false=>
        rw[hlim]at R;have f:=zb (uh j 7 k (Sk d m (by rw[p];exact hdo) hlim));clear l d x hdo B C j D p m F E Q n T hlim;generalize ze (ct r)=sr at *;go_wp2_with fail;go_call G as e w3 ⟨rfl,b3⟩;have q:=zb (zh H b3);have I:=zb (uh R w3);clear G R b3 c0 c1 c2 c3;go_wp2_with fail;go_call I as e w4 ⟨rfl,b4⟩;have N:=zb (zh q b4);clear I b4;go_wp2;go_ret3;exact⟨by rw[uh f];rfl,N⟩
      .have tl:(20000:Int)<((ze (ct r)).size:Int):=by rw[zL];omega
       have f:=zb (uh j 7 k (Sk d m (by rw[p];exact hdo) (zdo n)));clear l d x hdo B C j D p m F E Q n;generalize ze (ct r)=sr at *;go_wp2_with fail;go_call G as e w3 ⟨rfl,b3⟩;have q:=zb (zh H b3);clear G b3 c0 c1 c2 c3;go_wp2;go_ret3;exact⟨by rw[uh f];rfl,q⟩
    .have U:¬ (k:Int)<(ms.length:Int):=om;have f:=zb (uh D u (TS d om));clear d x B C j D F;go_wp2;go_ret3;exact⟨by rw[uh f];rfl,H⟩
structure JX(v:JV):Prop where
 doc:U6 v
 gd:zx v
 len:(ct v).length<=20000
theorem JX.of(h:Zn s= .inr v):JX v:=⟨ziG h,(Z7.of h).t,(Z7.of h).len⟩
structure WK(ms:List zk):Prop where
 ok:∀ m∈ms,ZD m=ξ
 dr:∀ m∈ms,OQ m
theorem WK.snoc(h:WK ms)(h1:ZD m=ξ)(h2:OQ m):WK (ms++[m]):=
 ⟨fun x hx=>by
         rcases Α.1 hx with hx | hx
         .exact h.ok x hx
         .rw[List.mem_singleton]at hx;rw[hx];exact h1,
  fun x hx=>by
          rcases Α.1 hx with hx | hx
          .exact h.dr x hx
          .rw[List.mem_singleton]at hx;rw[hx];exact h2⟩
structure UC(B rb:Nat)(w wr:Wo)(r:ω)(ms:List zk):Prop where
 ds:DS B rb w wr
 row:zX wr w.heap.size r ms
 lt:rb<w.heap.size
theorem UC.below(h:UC B rb w w1 r ms)(hb:Below w1 w1 w2):UC B rb w w2 r ms:=⟨h.ds.below hb,Zh h.row hb,h.lt⟩
theorem UC.step(h:UC B rb w w1 r ms)(d:DS B rb w1 w2):UC B rb w w2 r ms:=⟨h.ds.step d.1 d.2,Km h.row d.2 fun k e=>by injection e with e;have:=h.lt;omega,h.lt⟩
structure KN(B rb g:Nat)(w wr:Wo)(r:ω)(ms:List zk)(o:zk):Prop where
 gs:UC B rb w wr r ms
 op:qd wr g o
 ge:w.heap.size<=g
theorem KN.below(h:KN B rb g w w1 r ms o)(hb:Below w1 w1 w2):KN B rb g w w2 r ms o:=⟨h.gs.below hb,h.op.below hb,h.ge⟩
theorem KN.step(h:KN B rb g w w1 r ms o)(d:DS B rb w1 w2):KN B rb g w w2 r ms o:=
 ⟨h.gs.step d,(d.2.block g h.op.lt fun e=>by injection e with e;have:=h.ge;have:=h.gs.lt;omega).trans h.op,h.ge⟩
theorem zdp{r:JV}{o:qj}{N:Nat}(hv:zx v)(h:ZS v o= .inr r)(hp:∀ x∈o.path,x.length<=N):(ct r).length<=(ct v).length+max (ct v).length (ct o.val).length+6*N+4:=by
 have b:=TO hp;unfold ZS at h;split at h
 .have:=KM hv (Jh h);omega
 .split at h
  .have:=Fe hv (Jh h);omega
  .split at h
   .have a:=Jh h;unfold qI at a;obtain⟨x,hx,rfl⟩:=yA.1 a;obtain⟨y,g,hp⟩:=Ε.1 hx;injection hp with hp;subst hp;have f:=Gk (u:=o.val) hv g;omega
   .split at h
    .split at h
     .cases h
     .rename_i m hm;have d:=VC hv hm;split at h
      .injection h with h;subst h;omega
      .split at h
       .cases h
       .split at h
        .cases h
        .rename_i x hx;have a:=KM (KE hv hx) (Jh h);have f:=Fe hv hx;omega
    .split at h
     .split at h
      .cases h
      .rename_i m hm;have d:=VC hv hm;have a:=KM hv (Jh h);omega
     .split at h
      .cases h
      .split at h
       .injection h with h;subst h;omega
       .cases h
theorem zdq(s:Bs):∀ x∈(zH s.data.toList).getD [],x.length<=s.size:=by
 have a:=Zo s
 cases hp:zH s.data.toList with
 | none=>simp
 | some ts=>intro x hx;have:=LY hp x hx;omega
noncomputable def uO(o:zk):JV:=by
 classical
 exact if h:∃ u:JV,o.val=ze (ct u)/\zx u/\(ct u).length<=20000 then h.choose else .num [48]
theorem TW(o:zk):zx (uO o)/\(ct (uO o)).length<=20000/\((∃ u:JV,o.val=ze (ct u)/\zx u/\(ct u).length<=20000)->o.val=ze (ct (uO o))):=by
 classical
 unfold uO;by_cases h:∃ u:JV,o.val=ze (ct u)/\zx u/\(ct u).length<=20000
 .simp only[dif_pos h];exact⟨h.choose_spec.2.1,h.choose_spec.2.2,fun _=>h.choose_spec.1⟩
 .simp only[dif_neg h];exact⟨(Z7.of Tb).t,dc,fun k=>absurd k h⟩
def Gp(o:zk)(D:Nat⊕JV):Bool:=!ZD o ||(match D with | .inl _=>ζ | .inr r=>!(decide (zJ r<=100/\zn r<=3000)) || decide (2000<(ct r).length))
def Wc(D:Nat⊕JV)(q:List UInt8):Bool×List UInt8:=match D with | .inl _=>((((nx q).1:Int) % 8 !=7),(nx q).2) | .inr _=>(ζ,q)
def Ff(D:Nat⊕JV)(V:JV):JV:=match D with | .inl _=>V | .inr r=>nv r
noncomputable def dT(V:JV)(o:zk):Nat⊕JV:=ZS V (KK o (uO o))
noncomputable def KO(V:JV)(ms:List zk)(o:zk)(q:List UInt8):JV×List zk×List UInt8:=
 if Gp o (dT V o)=ξ then (V,ms,q)else if (Wc (dT V o) q).1=ξ then (V,ms,(Wc (dT V o) q).2)else (Ff (dT V o) V,ms++[o],(Wc (dT V o) q).2)
noncomputable def Gq(n:Nat):Nat->Nat->JV×List zk×List UInt8->List zk×List UInt8
 | 0,_,s=>s.2
 | m+1,k,s=>if k<n∨40<s.2.2.length then Gq n m (k+1) (KO s.1 s.2.1 (WJ s.1 s.2.2).1 (WJ s.1 s.2.2).2)else s.2
noncomputable def Y0(V:JV)(most:Nat)(q:List UInt8):List zk×List UInt8:=Gq (1+(nx q).1 % 3) most 0 (V,[],(nx q).2)
theorem TX{V:JV}(hV:JX V)(hM:WK ms)(ho:OQ o):JX (KO V ms o q).1/\WK (KO V ms o q).2.1/\(KO V ms o q).2.1.length<=ms.length+1:=by
 unfold KO;split
 .exact⟨hV,hM,Nat.le_succ _⟩
 .rename_i a;have a:Gp o (dT V o)=ζ:=by simpa using a
  unfold Gp at a;rw[Bool.or_eq_false_iff]at a;have d:ZD o=ξ:=by simpa using a.1
  split
  .exact⟨hV,hM,Nat.le_succ _⟩
  .refine⟨?_,hM.snoc d ho,sm⟩;show JX (Ff (dT V o) V)
   unfold Ff
   cases hD:dT V o with
   | inl c=>exact hV
   | inr r=>
    rw[hD]at a;have f:=a.2;simp only[Bool.or_eq_false_iff,Bool.not_eq_false',decide_eq_true_eq,decide_eq_false_iff_not]at f;have b:=X0 hV.gd (TW o).1 hD;have e:=zao b.rd b.big b.tw;rw[yf om,yf om]at e;exact JX.of e
theorem TY:∀ (n m k:Nat) (s:JV×List zk×List UInt8),JX s.1->WK s.2.1->WK (Gq n m k s).1/\(Gq n m k s).1.length<=s.2.1.length+m
 | n,0,k,s,_,hM=>⟨hM,ye _⟩
 | n,m+1,k,s,hV,hM=>by
  rw[Gq];split
  .obtain⟨h1,h2,h3⟩:=TX (q:=(WJ s.1 s.2.2).2) hV hM (TN hV.doc hV.gd hV.len s.2.2);obtain⟨a,b⟩:=TY n m (k+1) _ h1 h2;exact⟨a,om⟩
  .exact⟨hM,Nat.le_add_right _ _⟩
structure Gr(B rb:Nat)(w wr:Wo)(q:List UInt8)(r:ω)(ms:List zk):Prop where
 ds:DX B rb w q wr
 row:zX wr w.heap.size r ms
 lt:rb<w.heap.size
theorem Gr.below(h:Gr B rb w w1 q r ms)(hb:Below w1 w1 w2):Gr B rb w w2 q r ms:=⟨h.ds.below hb,Zh h.row hb,h.lt⟩
theorem Gr.step(h:Gr B rb w w1 q r ms)(d:DX B rb w1 q' w2):Gr B rb w w2 q' r ms:=⟨h.ds.step d,Km h.row d.gr fun k e=>by injection e with e;have:=h.lt;omega,h.lt⟩
structure Gs(B rb g:Nat)(w wr:Wo)(q:List UInt8)(r:ω)(ms:List zk)(o:zk):Prop where
 gs:Gr B rb w wr q r ms
 op:qd wr g o
 ge:w.heap.size<=g
theorem Gs.below(h:Gs B rb g w w1 q r ms o)(hb:Below w1 w1 w2):Gs B rb g w w2 q r ms o:=⟨h.gs.below hb,h.op.below hb,h.ge⟩
theorem Gs.step(h:Gs B rb g w w1 q r ms o)(d:DX B rb w1 q' w2):Gs B rb g w w2 q' r ms o:=
 ⟨h.gs.step d,(d.gr.block g h.op.lt fun e=>by injection e with e;have:=h.ge;have:=h.gs.lt;omega).trans h.op,h.ge⟩
theorem zdr(B rb:Nat)(v:JV)(most:Nat)(q0:List UInt8)(w:Wo)(h:ZJ w B rb q0)(hd:JX v)(hm:most<=100):
  δ prog 22 #[rb,σ (ze (ct v)),ι κ (most:Int)] w fun e w'=>∃ r,e=ε r/\zX w' w r (Y0 v most q0).1/\DX B rb w (Y0 v most q0).2 w':=by
 obtain⟨i0,hi,hz0,hz1,hz2⟩:=info_parts Sf;have hA:=ZO w (χ #[] 82);have hrb:=h.lt;have hBr:=h.ge;have Y:Hid (Gr B rb w (w.alloc (χ #[] 82)) q0 (ς (η w) 0 0) []):=⟨(DX.refl h).below hA,Fb w 82 4,hrb⟩;have HX0:=zb fun wx (s:ZJ wx B rb q0)=>Q6 B rb q0 wx s;have HX:=zb fun q wx (s:ZJ wx B rb q)=>Q6 B rb q wx s;have HL:=zb fun q wx (s:ZJ wx B rb q)=>zaP B rb q wx s;have G:=zb fun (V:JV) (q:List UInt8) wx (hV:JX V) (s:ZJ wx B rb q)=>zdi B rb V q wx s hV.doc hV.gd hV.len;have HV0:=zb hd;have hx:=QS q0;unfold Y0;clear hA h hd;generalize (nx q0).1=x at *;generalize (nx q0).2=q1 at *;obtain⟨n,hn⟩:∃ n:Nat,n=1+x % 3:=⟨_,rfl⟩;rw[← hn];generalize hRR:Gq n most 0 (v,[],q1)=RR at *;have HRR:=zb hRR;have hnI:1+(x:Int) % 3=(n:Int):=om;have hnb:n<=3:=om;clear hRR hn;go_in;go_wp2_with fail;go_call uh HX0 _ Y.ds.rd as e w1 ⟨rfl,d1⟩;have HS1:=zb (Y.step d1);clear d1 Y HX0;go_wp2_with fail;go_loopw [1,7,9] (fun vv r i wr=>∃ (V:JV) (F:List zk) (k:Nat) (q:List UInt8),vv=σ (ze (ct V))/\i=ι κ (k:Int)/\k<=most/\F.length<=k/\Hid (JX V)/\Hid (Gr B rb w wr q r F)/\Hid (Gq n (most - k) k (V,F,q)=RR)) (fun _ _ i _=>most - (intOf i).toNat)
 case atStart=>exact⟨v,[],0,q1,rfl,rfl,yu _,yu _,HV0,HS1,HRR⟩
 case round=>
  obtain⟨V,F,k,q,rfl,rfl,hk,hml,H,J,HR⟩:=hrel;clear HV0 HS1 HRR;obtain⟨b,l⟩:∃ b:Bool,decide (k<most/\(k<n∨40<q.length))=b:=⟨_,rfl⟩;have HB:=zb l;clear l;go_upto_region 4 with fail;go_cut [30]from 18 to 30 (fun y wx=>y=θ b/\Gr B rb w wx q u7 F)
  case first=>
   have l:=uh HB;by_cases h1:k<most
   .have e1:(k:Int)<(most:Int):=om;by_cases h2:k<n
    .have e2:(k:Int)<(n:Int):=om;obtain rfl:true=b:=by rw[← l];simp[h1,h2]
     clear l;go_wp2;go_meet
     case rel=>exact⟨rfl,J⟩
    .have e2:¬ (k:Int)<(n:Int):=om;have M:=zb (uh HL q _ J.ds.rd);have hql:=J.ds.rd.len;by_cases h3:40<q.length
     .have e3:(40:Int)<(q.length:Int):=om;obtain rfl:true=b:=by rw[← l];simp[h1,h3]
      clear l h3;generalize q.length=ql at *;go_wp2_with fail;go_call M as e w2 ⟨rfl,d2⟩;have E:=zb (J.step d2);clear M d2;go_wp2;go_meet
      case rel=>exact⟨rfl,E⟩
     .have e3:¬ (40:Int)<(q.length:Int):=om;obtain rfl:false=b:=by rw[← l];simp[h1,h2,h3]
      have e4:decide ((40:Int)<(q.length:Int))=ζ:=so;clear l h3;generalize q.length=ql at *;go_wp2_with fail;go_call M as e w2 ⟨rfl,d2⟩;have E:=zb (J.step d2);clear M d2;go_wp2;go_meet
      case rel=>exact⟨by first | rfl | rw[e4],E⟩
   .have e1:¬ (k:Int)<(most:Int):=om;obtain rfl:false=b:=by rw[← l];simp[h1]
    clear l;go_wp2;go_meet
    case rel=>exact⟨rfl,J⟩
  obtain⟨rfl,hS⟩:=hcut;have J:=zb hS;clear hS
  cases b with
  | false=>
   have hE:(F,q)=RR:=by
    have l:=of_decide_eq_false HB;have s:=uh HR;by_cases h1:k<most
    .rw[show most - k=(most - (k+1))+1 by omega,Gq,yf (fun h=>l ⟨h1,h⟩)]at s;exact s
    .rw[show most - k=0 by omega,Gq]at s;exact s
   have HE:=zb hE;clear HL HX G hE;go_wp2;go_ret;exact⟨u7,rfl,by rw[← uh HE];exact J.row,by rw[← uh HE];exact J.ds⟩
  | true=>
   have l:=of_decide_eq_true HB;have hkm:=l.1;have s:=uh HR;rw[show most - k=(most - (k+1))+1 by omega,Gq,yg l.2]at s;simp only at s;have d:=zb s;have M:=zb (uh G V q _ H J.ds.rd);have L:=TN H.doc H.gd H.len q;clear l s HB HR;generalize (WJ V q).1=o at *;generalize (WJ V q).2=u at *;go_wp2_with fail;go_call M as e w2 ⟨rfl,d2⟩;have hS2:=J.step d2;have I:Hid (Gs B rb w2 w (w2.alloc (χ (qz o) 82)) u u7 F o):=⟨hS2.below (ZO w2 _),yH w2 _,hS2.ds.size⟩;obtain⟨gu,lu,hu0⟩:=TW o;have hu:=fun (h:Zz o.kind=ξ)=>hu0 (L.val h);have O:=zb fun wx=>TM V (uO o) o wx H.gd (by have:=H.len;omega) (by have:=L.path;omega) (by have:=L.src;omega) L.k1 L.k6 fun h=>⟨hu h,gu,om⟩;have hov:o.val.size<=1048576:=by
    cases hv:Zz o.kind with
    | true=>rw[hu hv,zL];omega
    | false=>rw[L.no hv];decide
   have f:=zb (TX (q:=u) H (show WK []from ⟨sm,sm⟩) L);have hop:=L.path;have hos:=L.src;change Hid (∀ wx,δ _ _ _ wx fun e w'=>e=ε (KL (dT V o))/\_)at O;have p:Hid (∀ r,dT V o= .inr r->zx r/\(ct r).length<=600000):=fun r T=>by
    refine⟨X0 H.gd gu T,?_⟩;have h1:=zdp (N:=40100) H.gd T (fun x hx=>yQ (zdq o.path x hx) L.path);have h2:=H.len;have h3:(ct (KK o (uO o)).val).length<=20000:=lu;omega
   have j:Hid (∀ c,dT V o= .inl c->¬ (c:Int)=0):=fun c T=>by have:=OU T;omega
   unfold KO at d f;generalize dT V o=D at *;obtain⟨A,C,hDR⟩:∃ (A:Bs) (C:Int),KL D= .tuple #[A,ι κ C]:=by cases D<;>exact⟨_,_,rfl⟩
   rw[hDR]at O;have a:=zb hDR;clear M d2 hS2 gu lu hu hu0 L J hDR;go_wp2_with fail;generalize w2.heap.size=g at *;generalize w2.alloc _=w3 at *;go_call uh O _ as e w4 ⟨rfl,b4⟩;have U:=zb (I.below b4);have W:=zb (XP o w4 om om hov);clear O b4 I;obtain⟨c0,c1,c2,c3⟩:=U.op.c;go_upto_region 8 with fail;go_cut [58]from 42 to 58 (fun y wx=>y=θ (Gp o D)/\Gs B rb g w wx u u7 F o)
   case first=>
    go_wp2_with fail;go_call W as e w5 ⟨rfl,b5⟩;have P:=zb (U.below b5);clear W b5 HL HX G d f
    cases hok:ZD o with
    | false=>
     have m:Hid (Gp o D=ξ):=by show _=_;unfold Gp;rw[hok];rfl
     clear hok;go_wp2;go_meet
     case rel=>exact⟨by rw[uh m],P⟩
    | true=>
     have HK:=zb hok;clear hok
     cases D with
     | inr r=>
      obtain⟨gr,lr⟩:=uh p r rfl;have hd:=uh a;injection hd with hd;simp only[Array.mk.injEq,List.cons.injEq,Value.string.injEq,Value.int.injEq,true_and,and_true]at hd;obtain⟨rfl,rfl⟩:=hd;have hcn:=OR (zJ r) r (ye _) gr.ok;have HW:=zb (Lu r gr.ok w5 om om);obtain⟨qq,hq⟩:∃ q,decide (zJ r<=100/\zn r<=3000)=q:=⟨_,rfl⟩;rw[hq]at HW;have hz:(ze (ct r)).size=(ct r).length:=zL _;have m:Hid (Gp o (.inr r)=(!qq || decide (2000<(ct r).length))):=by show (!ZD o ||(!decide (zJ r<=100/\zn r<=3000) || decide (2000<(ct r).length)))=_;rw[uh HK,hq];rfl
      clear hq hcn gr lr p j a;go_wp2_with fail;go_call HW as e w6 ⟨rfl,b6⟩;have z:=zb (P.below b6);clear HW b6 P
      cases qq with
      | false=>
       go_wp2;go_meet
       case rel=>exact⟨by rw[uh m];rfl,z⟩
      | true=>
       by_cases hl:(ct r).length<=2000
       .have e2:((2000:Int)<((ze (ct r)).size:Int))=False:=yR om;have hs:=uh m;rw[yk om]at hs;have E:=zb hs;clear hl hz hs m;go_wp2;go_meet
        case rel=>exact⟨by rw[uh E];rfl,z⟩
       .have e2:((2000:Int)<((ze (ct r)).size:Int))=True:=eq_true om;have hs:=uh m;rw[yj om]at hs;have E:=zb hs;clear hl hz hs m;go_wp2;go_meet
        case rel=>exact⟨by rw[uh E];rfl,z⟩
     | inl c=>
      have K:=uh j c rfl;have hd:=uh a;injection hd with hd;simp only[Array.mk.injEq,List.cons.injEq,Value.string.injEq,Value.int.injEq,true_and,and_true]at hd;obtain⟨rfl,rfl⟩:=hd;have e0:((c:Int) ==0)=ζ:=by simpa using K
      have e1:=yR K;have m:Hid (Gp o (.inl c)=ζ):=by show _=_;unfold Gp;rw[uh HK];rfl
      clear K p j a;go_wp2;go_meet
      case rel=>exact⟨by rw[uh m],P⟩
   obtain⟨rfl,R⟩:=hcut;have I:=zb R;clear R W U c0 c1 c2 c3
   cases hsk:Gp o D with
   | true=>
    rw[hsk,yg rfl]at d;clear HL HX G hsk;go_wp2;go_roundw
    case rel=>exact⟨V,F,k+1,u,rfl,by go_num,om,om,H,I.gs,d⟩
    case measure=>simp[intOf];omega
   | false=>
    rw[hsk,yf dc]at d f;clear hsk;go_upto_region 9 with fail;go_cut [66]from 59 to 66 (fun y wx=>y=θ (Wc D u).1/\Gs B rb g w wx (Wc D u).2 u7 F o)
    case first=>
     cases D with
     | inr r=>
      have hd:=uh a;injection hd with hd;simp only[Array.mk.injEq,List.cons.injEq,Value.string.injEq,Value.int.injEq,true_and,and_true]at hd;obtain⟨rfl,rfl⟩:=hd;clear p j a d f;go_wp2;go_meet
      case rel=>exact⟨rfl,I⟩
     | inl c=>
      have K:=uh j c rfl;have hd:=uh a;injection hd with hd;simp only[Array.mk.injEq,List.cons.injEq,Value.string.injEq,Value.int.injEq,true_and,and_true]at hd;obtain⟨rfl,rfl⟩:=hd;have e0:((c:Int) !=0)=ξ:=by simpa using K
      have e1:=yR K;have M:=zb (uh HX u _ I.gs.ds.rd);have hy:=QS u;obtain⟨bb,hbb⟩:∃ bb:Bool,(((nx u).1:Int) % 8 !=7)=bb:=⟨_,rfl⟩;have HBB:Hid (Wc (.inl c) u=(bb,(nx u).2)):=by show (_,_)=_;rw[hbb]
      generalize (nx u).1=y at *;generalize (nx u).2=q3 at *;clear K p j a d f;go_wp2_with fail;go_call M as e w6 ⟨rfl,d6⟩;have z:=zb (I.step d6);clear M d6;go_wp2;go_meet
      case rel=>exact⟨by rw[uh HBB],by rw[uh HBB];exact uh z⟩
    obtain⟨rfl,R⟩:=hcut;have I:=zb R;clear R
    cases hrd:(Wc D u).1 with
    | true=>
     rw[hrd,yg rfl]at d;clear HL HX G hrd;go_wp2;go_roundw
     case rel=>exact⟨V,F,k+1,(Wc D u).2,rfl,by go_num,om,om,H,I.gs,d⟩
     case measure=>simp[intOf];omega
    | false=>
     rw[hrd,yf dc]at d f;clear HL HX G hrd;generalize (Wc D u).2=q4 at *;have Z:=zb (uh f).1;clear f;go_upto_if 68 with fail;go_cut [1]from 67 to 69 (fun y wx=>y=σ (ze (ct (Ff D V)))/\Gs B rb g w wx q4 u7 F o)
     case first=>
      cases D with
      | inr r=>
       have hd:=uh a;injection hd with hd;simp only[Array.mk.injEq,List.cons.injEq,Value.string.injEq,Value.int.injEq,true_and,and_true]at hd;obtain⟨rfl,rfl⟩:=hd;have HNV:Hid (ze (ct (nv r))=ze (ct r)):=zb (by rw[(U9 r).ct]);clear p j a d Z;go_wp2;go_meet
       case rel=>exact⟨by show _=Value.string (ze (ct (nv r)));rw[uh HNV],I⟩
      | inl c=>
       have K:=uh j c rfl;have hd:=uh a;injection hd with hd;simp only[Array.mk.injEq,List.cons.injEq,Value.string.injEq,Value.int.injEq,true_and,and_true]at hd;obtain⟨rfl,rfl⟩:=hd;have e0:((c:Int) ==0)=ζ:=by simpa using K
       have e1:=yR K;clear K p j a d Z;go_wp2;go_meet
       case rel=>exact⟨rfl,I⟩
     obtain⟨rfl,R⟩:=hcut;obtain⟨c0,c1,c2,c3⟩:=R.op.c;have Q:=R.below (ZO wc (χ (qz o) 82));have lM:=Sg wc o;have HMM:=zb Q;have X:=zb Q.gs.row;have HLM:=zb lM;have HGE:=zb Q.gs.ds.size;clear R Q lM I H p j a;generalize Ff D V=V' at *;go_wp2_with (at_builtin;refine wpList_append_own _ rfl (.tmp 70) (.tmp 72) 28 rfl w 82 i0 (γ #[ι κ 0,Β,Β,Β]) 4 56 underlying28 hi hz0 hz1 hz2 rfl dc _ _ _ rfl X wc 1 1 (Jn o) rfl rfl HLM (Sh o) mo om HGE ?_);generalize wc.alloc _=wM at *;intro l6 w6 o6 g6 gx6;clear gx6;have z:=zb (zX.step o6);have T:=HMM.gs.ds;have S:=fun b l=>(X.lt b l).1;have HDD:Hid (DX B rb w q4 w6):=⟨T.rd.grown g6 (fun e=>by have:=S rb e.symm;omega) (fun b l=>by have:=S b l;omega),WC T.gr g6 S⟩;have hml2:(F++[o]).length<=k+1:=so;clear o6 g6 HMM X HLM HGE T S;go_wp2;go_roundw
     case rel=>exact⟨V',F++[o],k+1,q4,rfl,by go_num,om,hml2,Z,⟨HDD,z,hrb⟩,d⟩
     case measure=>simp[intOf];omega
def OV(k:Nat):List UInt8:=([10,9,32,13,32,32]:List UInt8).take (k % 7)
def OX(c:Nat):Bool:=c ==91 || c ==93 || c ==123 || c ==125 || c ==44 || c ==58
def Ym(s:Bs):Nat->Nat->List UInt8->List UInt8->List UInt8×List UInt8
 | 0,_,acc,q=>(acc,q)
 | f+1,i,acc,q=>if i<s.size then
   (if bt s i=34 then (match ZT s i with | none=>(s.data.toList,q) | some p=>Ym s f p.2 (acc++(s.extract i p.2).data.toList) q)
   else Ym s f (i+1) (acc++(if OX (bt s i)then OV (nx q).1++[Θ (bt s i),32]else [Θ (bt s i)])) (nx q).2)
  else (acc,q)
structure VE(B rb:Nat)(w wr:Wo)(q:List UInt8)(r:ω)(acc:List UInt8):Prop where
 ds:DX B rb w q wr
 row:wr.ownsRow w.heap.size 5 1 r (Γ acc).length (Γ acc)
 lt:rb<w.heap.size
theorem VE.below(h:VE B rb w w1 q r acc)(hb:Below w1 w1 w2):VE B rb w w2 q r acc:=⟨h.ds.below hb,Zh h.row hb,h.lt⟩
theorem VE.step(h:VE B rb w w1 q r acc)(d:DX B rb w1 q' w2):VE B rb w w2 q' r acc:=⟨h.ds.step d,Km h.row d.gr fun k e=>by injection e with e;have:=h.lt;omega,h.lt⟩
theorem VE.app  {wr:Wo} {el:List UInt8}  (h:VE B rb w wr q r acc) (hl:acc.length+el.length<=40000000)   {o:Oper}   (hg:o.guard=ν) (s x:Operand)
  (ho:o.op= .call {callee:=.builtin .append,args:=#[s,x],argTypes:=#[22,22]}) (hs:a.eval s=r) {cap:Nat} (hx:a.eval x=ς (η g) el.length cap) (hc:∀ j u,(Γ el)[j]?=η u->wr.cell? ((g:Addr).add j)=η u)
  (hK:∀ v' w',VE B rb w w' q v' (acc++el)->wpList prog ops Q rest (a.put o.dst v') w'):wpList prog ops Q (o :: rest) a wr:=by
 obtain⟨p,f,i,l,n⟩:=info_parts Uo;have v:=h.ds.size;refine wpList_append_own _ hg s x 22 ho w 5 p (.int .u8 0) 1 1 underlying22 f i l n rfl dc _ _ _ hs h.row g el.length cap (Γ el) hx (by rw[yL];omega) hc (Kv _) (by rw[yL];unfold maxLen;omega) (by rw[yL];omega) om ?_;intro v' w' d b _;refine hK v' w' ⟨⟨h.ds.rd.grown b (fun e=>by have:=(h.row.lt rb e.symm).1;have:=h.lt;omega) (fun k e=>by have:=(h.row.lt k e).1;have:=h.lt;have:=h.ds.rd.ge;omega),?_⟩,Qk (m:=el) d rfl rfl,h.lt⟩;have G:=h.ds.gr;exact⟨b.os.trans G.os,b.tape.trans G.tape,b.output.trans G.output,yQ G.size b.size,fun k hk hne=>(b.block k (yF hk G.size) (fun e=>by have:=(h.row.lt k e.symm).1;omega)).trans (G.block k hk hne)⟩
theorem zds(B rb:Nat)(s:Bs)(q0:List UInt8)(w:Wo)(h:ZJ w B rb q0)(hs:s.size<=4000000):
  δ prog 55 #[rb,s] w (DT B rb w (Ym s s.size 0 [] q0).1 (Ym s s.size 0 [] q0).2):=by
 have hrb:=h.lt;have U:=zb fun q wx (b:ZJ wx B rb q)=>Q6 B rb q wx b;have v:=zb fun (j:Nat) w (hj:j<=s.size)=>U2 s j w om om;have S:Hid (VE B rb w (w.alloc (χ #[] 5)) q0 (ς (η w) 0 0) []):=⟨(DX.refl h).below (ZO w _),World.ownsRow_lit w #[] 0 (ye _) mo rfl,hrb⟩;clear h;generalize hRR:Ym s s.size 0 [] q0=RR;have R:=zb hRR;clear hRR;go_in;go_wp2;go_loopw [5,6] (fun r k wr=>∃ (j f:Nat) (a q:List UInt8),k=ι κ (j:Int)/\j<=s.size/\a.length<=8*j/\s.size<=j+f/\Hid (VE B rb w wr q r a)/\Hid (Ym s f j a q=RR)) (fun _ k _=>s.size - (intOf k).toNat)
 case atStart=>exact⟨0,s.size,[],q0,rfl,yu _,sm,om,S,R⟩
 case round=>
  obtain⟨j,f,a,q,rfl,hj,hacc,hf,I,HR⟩:=hrel;clear S R;by_cases Q:j<s.size
  .obtain⟨f,rfl⟩:∃ g,f=g+1:=⟨f - 1,om⟩;have t1:((j:Int)<(s.size:Int))=True:=eq_true om;have i1:(0:Int)<=(j:Int):=om;have i2:(j:Int)<(s.size:Int):=om;have hb:=Zx s j Q;have b:=uh HR;rw[Ym,yg Q]at b;by_cases D:bt s j=34
   .rw[yg D]at b;have C:=zb (uh v j wr om);have Y:((s[j].toNat:Int) ==34)=ξ:=by rw[yD];omega
    cases hq:ZT s j with
    | none=>
     rw[hq]at C b;have m:=zb b;clear hq hb D U v b HR;go_wp2_with fail;go_call C as e w2 ⟨b2,tt,kk,_,_,rfl⟩;have A:=zb (I.below b2);clear C b2 I;go_wp2;go_ret;exact⟨by rw[← uh m];exact congrArg (fun z=>Ending.returned (.string z)) (Od s).symm,by rw[← uh m];exact A.ds⟩
    | some p=>
     obtain⟨sl,n⟩:=p;obtain⟨n1,n2⟩:=Yt hq;rw[hq]at C b;have m:=zb b;clear hq hb D U v b HR;have nI:(n:Int)<=(s.size:Int):=om;have njI:(j:Int)<=(n:Int):=om;go_wp2_with fail;go_call C as e w2 ⟨b2,rfl⟩;have P:(s.extract j n).data.toList.length=n - j:=by rw[Zo];simp;omega
     obtain⟨X,W3,G,d,W,-,-⟩:=zkb w2 (s.extract j n);have ZG:=zb ((I.below b2).below W);have i:=zb d;clear C b2 d W I;generalize (s.extract j n).data.toList=el at *;have HEL:=zb P;have Z:a.length+el.length<=40000000:=om;clear P;go_wp2_with (at_builtin;refine ZG.app Z rfl (.tmp 31) (.tmp 36) rfl rfl rfl i ?_);intro v4 M L;have N:=zb L;have HQ:Hid ((a++el).length<=8*n):=by show _<=_;rw[yh,uh HEL];omega
     clear L G;go_wp2;go_roundw
     all_goals first
      | exact⟨n,f,a++el,q,by go_num,om,HQ,om,N,m⟩
      |(simp[intOf];omega)
   .rw[yf D]at b;have Y:((s[j].toNat:Int) ==34)=ζ:=by rw[yd];omega
    have V:=zb (uh U q wr I.ds.rd);have hx:=QS q;rw[hb]at b;obtain⟨c,O⟩:∃ c,s[j].toNat=c:=⟨_,rfl⟩;have F:c<256:=by rw[← O];exact UInt8.toNat_lt _
    rw[O]at Y b;unfold OV at b;have hx7:((nx q).1:Int) % 7=(((nx q).1 % 7:Nat):Int):=om;have hy6:(nx q).1 % 7<=6:=om;have m:=zb b;clear b HR hb D U v;generalize (nx q).1 % 7=y at *;generalize (nx q).1=x at *;generalize (nx q).2=q2 at *;have hyI:(y:Int)<=6:=om;go_wp2_with fail;go_call V as e w2 ⟨rfl,d2⟩;have A:=zb (I.step d2);clear V d2 I O;by_cases hn:c=91∨c=93∨c=123∨c=125∨c=44∨c=58
    .obtain⟨X,W3,G,d,W,-,-⟩:=Ur w2 (([10,9,32,13,32,32]:List UInt8).take y);have e3:ze (([10,9,32,13,32,32]:List UInt8).take y)=(⟨#[10,9,32,13,32,32]⟩:Bs).extract 0 y:=by
      rcases (show y=0∨y=1∨y=2∨y=3∨y=4∨y=5∨y=6 from by omega)with h | h | h | h | h | h | h<;>subst h<;>rfl
     rw[e3]at G;have P:(([10,9,32,13,32,32]:List UInt8).take y).length<=6:=by rw[ym];exact Nat.min_le_right _ _
     have ZG:=zb (A.below W);have i:=zb d;have E:OX c=ξ:=by rcases hn with rfl | rfl | rfl | rfl | rfl | rfl<;>rfl
     obtain⟨K,J⟩:∃ K:List UInt8,K=[Θ c,32]:=⟨_,rfl⟩;have HC2:Hid (∀ (M:Wo) j u,(Γ K)[j]?=η u->(M.alloc (χ #[.int .u8 (c:Int),.int .u8 32] 5)).cell? ((M:Addr).add j)=η u):=by
      show ∀ (M:Wo) j u,_
      rw[show Γ K=[.int .u8 (c:Int),.int .u8 32]from by simp[J,Γ,Nat.mod_eq_of_lt F]];exact fun M=>Vs _ _ _ _
     have b:=uh m;rw[yg E,← J]at b;have h2:K.length=2:=by rw[J];rfl
     have H:=zb b;have H2:=zb h2;clear m d W A e3 b J E h2;generalize ([10,9,32,13,32,32]:List UInt8).take y=el at *;rcases hn with rfl | rfl | rfl | rfl | rfl | rfl
     all_goals
      go_wp2_with (at_builtin;refine ZG.app (el:=el) om rfl (.tmp 68) (.tmp 70) rfl rfl rfl i ?_);intro v4 M L;have HAL:Hid ((a++el).length<=8*j+6):=by show _<=_;rw[yh];omega
      have HR3:=zb ((congrArg (fun l=>Ym s f (j+1) l q2) (List.append_assoc a el K)).trans H);have hal:=uh HAL;have HQ:Hid (((a++el)++K).length<=8*(j+1)/\(a++el).length+K.length<=40000000):=by show _/\_;rw[yh,uh H2];omega
      generalize a++el=acc4 at *;have T:=zb fun o=>L.below (ZO M o);clear L ZG i G H;go_wp2_with (at_builtin;refine (uh T _).app (uh HQ).2 rfl (.tmp 72) (.tmp 74) rfl rfl (by rw[uh H2];rfl) (uh HC2 _) ?_);intro v6 w6 h6;have HS6:=zb h6;clear h6 T;go_wp2;go_roundw
      all_goals first
       | exact⟨j+1,f,_,q2,by go_num,om,(uh HQ).1,om,HS6,HR3⟩
       |(simp[intOf];omega)
    .have E:OX c=ζ:=by simp only[not_or]at hn;simp[OX,hn]
     obtain⟨g1,g2,g3,g4,g5,g6⟩:((c:Int) ==91)=ζ/\((c:Int) ==93)=ζ/\((c:Int) ==123)=ζ/\((c:Int) ==125)=ζ/\((c:Int) ==44)=ζ/\((c:Int) ==58)=ζ:=by simp only[yd];omega
     have b:=uh m;rw[E]at b;have H:Hid (Ym s f (j+1) (a++[Θ c]) q2=RR):=b;have HC:Hid (∀ j u,(Γ [Θ c])[j]?=η u->(w2.alloc (χ #[.int .u8 (c:Int)] 5)).cell? ((w2:Addr).add j)=η u):=by
      show ∀ j u,_
      rw[show Γ [Θ c]=[.int .u8 (c:Int)]from by simp[Γ,Nat.mod_eq_of_lt F]];exact QU _ _ _
     have ZG:=zb (A.below (ZO w2 (χ #[.int .u8 (c:Int)] 5)));clear hn E b m A;go_wp2_with (at_builtin;refine ZG.app (el:=[Θ c]) so rfl (.tmp 76) (.tmp 78) rfl rfl rfl HC ?_);intro v4 M L;have N:=zb L;clear L ZG HC;go_wp2;go_roundw
     all_goals first
      | exact⟨j+1,f,a++[Θ c],q2,by go_num,om,so,om,N,H⟩
      |(simp[intOf];omega)
  .have t1:((j:Int)<(s.size:Int))=False:=yR om;have b:=uh HR;have hE:(a,q)=RR:=by
    cases f with
    | zero=>exact b
    | succ f=>rw[Ym,yf Q]at b;exact b
   have HE:=zb hE;have G:=Up I.row;clear b hE HR U v;go_wp2;go_ret;exact⟨by rw[← uh HE];rfl,by rw[← uh HE];exact I.ds⟩
def KP(k i:Nat)(t:List UInt8):List UInt8:=if (k+i) % 4=3 then [123,34,110,111,116,101,34,58,91,49,93,44]++t.drop 1 else t
def VF(k:Nat):Nat->List zk->List UInt8->List UInt8
 | _,[],acc=>acc
 | i,m :: r,acc=>VF k (i+1) r ((if i=0 then acc else acc++[44])++KP k i (YC m))
def KQ(ms:List zk)(q:List UInt8):List UInt8×List UInt8:=
 if (nx q).1 % 8=7 then Ym (ze (VF (nx q).1 0 ms [91]++[93])) (VF (nx q).1 0 ms [91]++[93]).length 0 [] (nx q).2 else (VF (nx q).1 0 ms [91]++[93],(nx q).2)
def OY(m:zk):Prop:=m.path.size<=40100/\m.src.size<=40100/\m.val.size<=20000
theorem Sn(k:Nat):∀ (ms:List zk) (i:Nat) (acc:List UInt8),(∀ m∈ms,OY m)->(VF k i ms acc).length<=acc.length+620000*ms.length
 | [],_,_,_=>Nat.le_add_right _ _
 | m :: r,i,acc,h=>by
  have h1:=Sn k r (i+1) ((if i=0 then acc else acc++[44])++KP k i (YC m)) fun x hx=>h x (yw _ hx);have a:=zbp m;obtain⟨b,d,f⟩:=h m yq;have g:(KP k i (YC m)).length<=(YC m).length+12:=by
   unfold KP;split
   .simp
   .exact Nat.le_add_right _ _
  have j:(if i=0 then acc else acc++[44]).length<=acc.length+1:=by split<;>simp
  rw[yh]at h1;rw[VF,yp];unfold Oa at a;omega
theorem DX.kp(h:DX B rb w q w')(hl:∀ b∈bl,b<w.heap.size)(hr:rb ∉ bl):Kp bl w w':=fun b hb=>h.gr.block b (hl b hb) fun e=>by injection e with e;exact hr (e ▸ hb)
theorem zdt(m:zk):YC m=123 ::(YC m).drop 1:=rfl
theorem zdu(B rb:Nat)(v:ω)(ms:List zk)(bl:List Nat)(q0:List UInt8)(w:Wo)(h:ZJ w B rb q0)(ho:zw Qq w v ms bl)(hm:∀ m∈ms,OY m)(hl:ms.length<=4)(hbl:rb ∉ bl):
  δ prog 21 #[rb,v] w (DT B rb w (KQ ms q0).1 (KQ ms q0).2):=by
 have HN:=zb (Q6 B rb q0 w h);have hx:=QS q0;obtain⟨xa,xc,rfl,-,U⟩:=ho.form;have M:=zb U;have HM:=zb hm;have HO:=zb ho;have HTL:=zb (Sn (nx q0).1 ms 0 [91] hm);unfold KQ;clear h ho U hm;generalize (nx q0).1=k at *;generalize (nx q0).2=q1 at *;generalize hTT:VF k 0 ms [91]=W at *;have L:=zb hTT;generalize hGG:(if k % 8=7 then Ym (ze (W++[93])) (W++[93]).length 0 [] q1 else (W++[93],q1))=GG;have F:=zb hGG;clear hTT hGG;go_in;go_wp2_with fail;go_call HN as e w1 ⟨rfl,d1⟩;have Y:=zb d1;have K:=zb (HO.keep (d1.kp HO.lt hbl));clear HN d1 HO;go_wp2_with fail;go_loopw [6,7] (fun s i wr=>∃ (j:Nat) (a:List UInt8),s=σ (ze a)/\i=ι κ (j:Int)/\j<=ms.length/\a.length<=1+620000*j/\Hid (Below w1 w1 wr)/\Hid (VF k j (ms.drop j) a=W)) (fun _ i _=>ms.length - (intOf i).toNat)
 case atStart=>exact⟨0,[91],rfl,rfl,yu _,sm,yI _ _,L⟩
 case round=>
  obtain⟨j,a,rfl,rfl,hj,hacc,G,HR⟩:=hrel;clear L;by_cases R:j<ms.length
  .have S:(j:Int)<(ms.length:Int):=om;obtain⟨g,rfl⟩:=uh M om;obtain⟨vs,ib,hE,O,_⟩:=(K.below G).at (yy R);obtain⟨rfl,_⟩:=hE;have c0:wr.cell? ⟨g,j*4,ν⟩=η (ι κ ms[j].kind):=(O 0 _ rfl).1;have c1:wr.cell? ⟨g,j*4+1,ν⟩=η (.string ms[j].path):=(O 1 _ rfl).1;have c2:wr.cell? ⟨g,j*4+2,ν⟩=η (.string ms[j].src):=(O 2 _ rfl).1;have c3:wr.cell? ⟨g,j*4+3,ν⟩=η (.string ms[j].val):=(O 3 _ rfl).1;obtain⟨l1,l2,l3⟩:=uh HM ms[j] (yt _);have P:=zbp ms[j];unfold Oa at P;have V:=zb (zkK ms[j] wr om om om);have I:=uh HR;rw[Δ R,VF]at I;have n:=zb I;have aa:=zb (zdt ms[j]);have P:(YC ms[j]).length<=610000:=om;generalize YC ms[j]=d at *;generalize ms[j]=m at *;clear O I HR l1 l2 l3;have hj4:(j:Int)<4:=om;have C:((k:Int)+(j:Int)) % 4=(((k+j) % 4:Nat):Int):=om;obtain⟨b,z⟩:∃ l,(if j=0 then a else a++[44])=l:=⟨_,rfl⟩;have hl2:b.length<=a.length+1:=by rw[← z];split<;>simp
   rw[z]at n;have J:=zb z;have h44:ze a++(⟨#[44]⟩:Bs)=ze (a++[44]):=Vn a [44];have hs0:(ze a).size=a.length:=zL a;have z1:(9223372036854775807<a.length+1)=False:=yR om;clear z;have hk4:(k+j) % 4<4:=Nat.mod_lt _ dc;obtain⟨p,o⟩:∃ l,KP k j d=l:=⟨_,rfl⟩;rw[o]at n;have hs1:(ze d).size=d.length:=zL d;have hs2:(ze b).size=b.length:=zL b;have h1:1<=d.length:=by rw[uh aa];simp
   obtain⟨r,D⟩:∃ l,d.drop 1=l:=⟨_,rfl⟩;have T:r.length=d.length - 1:=by rw[← D,yv]
   have hd:(ze d).extract 1 d.length=ze r:=by rw[← Od ((ze d).extract _ _),XV,Zb,D,yr om]
   have hd2:(ze r).size=r.length:=zL r;have H:(⟨#[123,34,110,111,116,101,34,58,91,49,93,44]⟩:Bs)++ze r=ze ([123,34,110,111,116,101,34,58,91,49,93,44]++r):=Vn _ _;unfold KP at o;rw[D]at o;have ho3:p.length<=610012:=by rw[← o];split<;>(try simp)<;>omega
   have z2:(9223372036854775807<12+r.length)=False:=yR om;have z3:(9223372036854775807<b.length+p.length)=False:=yR om;have z4:(9223372036854775807<b.length+(12+r.length))=False:=yR om;have HTD:=zb T;have ho4:(ze p).size=p.length:=zL p;have f:=Vn b p;have x:=zb o;clear o D T;by_cases A:j=0
   .have g0:(0<j)=False:=yR om;obtain rfl:a=b:=by rw[← uh J,yg A]
    clear A;go_wp2_with fail;go_call V as e w2 ⟨rfl,b2⟩;have q:=zb (zh G b2);clear V b2 G;by_cases y:(k+j) % 4=3
    .have g3:((k:Int)+(j:Int)) % 4=3:=om;have N:[123,34,110,111,116,101,34,58,91,49,93,44]++r=p:=by rw[← uh x,yg y]
     rw[N]at H;clear y C N;go_wp2;go_roundw
     all_goals first
      | exact⟨j+1,a++p,by first | rfl | simp only[H,f],by go_num,om,by rw[yh];omega,q,n⟩
      |(simp[intOf];omega)
    .have g3:(((k:Int)+(j:Int)) % 4 ==3)=ζ:=by rw[yd];omega
     obtain rfl:d=p:=by rw[← uh x,yf y]
     clear y C;go_wp2;go_roundw
     all_goals first
      | exact⟨j+1,a++d,by first | rfl | simp only[H,f],by go_num,om,by rw[yh];omega,q,n⟩
      |(simp[intOf];omega)
   .have g0:(0<j)=True:=eq_true om;have ha:a++[44]=b:=by rw[← uh J,yf A]
    rw[ha]at h44;clear A ha;go_wp2_with fail;go_call V as e w2 ⟨rfl,b2⟩;have q:=zb (zh G b2);clear V b2 G;by_cases y:(k+j) % 4=3
    .have g3:((k:Int)+(j:Int)) % 4=3:=om;have N:[123,34,110,111,116,101,34,58,91,49,93,44]++r=p:=by rw[← uh x,yg y]
     rw[N]at H;clear y C N;go_wp2;go_roundw
     all_goals first
      | exact⟨j+1,b++p,by first | rfl | simp only[H,f],by go_num,om,by rw[yh];omega,q,n⟩
      |(simp[intOf];omega)
    .have g3:(((k:Int)+(j:Int)) % 4 ==3)=ζ:=by rw[yd];omega
     obtain rfl:d=p:=by rw[← uh x,yf y]
     clear y C;go_wp2;go_roundw
     all_goals first
      | exact⟨j+1,b++d,by first | rfl | simp only[H,f],by go_num,om,by rw[yh];omega,q,n⟩
      |(simp[intOf];omega)
  .have S:¬ (j:Int)<(ms.length:Int):=om;obtain rfl:j=ms.length:=by omega
   have I:=uh HR;rw[List.drop_length,VF]at I;subst I;have h93:ze a++(⟨#[93]⟩:Bs)=ze (a++[93]):=Vn a [93];have hs0:(ze a).size=a.length:=zL a;have z1:(9223372036854775807<a.length+1)=False:=yR om;have u:=zb (Y.below G);have Q:=uh F;clear HR M HM K HTL;by_cases X:k % 8=7
   .have g7:(k:Int) % 8=7:=om;rw[yg X]at Q;have E:=zb (zds B rb (ze (a++[93])) q1 wr u.rd (by rw[zL,yh,yS];omega));rw[zL,Q]at E;clear X F Q;go_wp2_with fail;go_call E as e w3 ⟨rfl,d3⟩;have Z:=zb (u.step d3);clear E d3 u;go_wp2;go_ret;exact⟨rfl,Z⟩
   .have g7:((k:Int) % 8 ==7)=ζ:=by rw[yd];omega
    rw[yf X]at Q;subst Q;clear X F;go_wp2;go_ret;exact⟨by first | rfl | rw[h93],u⟩
abbrev OZ(t:List UInt8):Obj:=χ #[σ (ze t)] 9 (0,0)
theorem zdv(ob:Nat)(t:List UInt8)(s:List UInt8)(c1 c2 c3 c4 c5 c6:ω)(w:Wo)(h:w.heap[ob]?=η (OZ t)):
  δ prog 84 #[γ #[(ze s),c1,c2,c3,c4,c5,c6],ob] w fun e w'=>e=ε (θ (s ==t))/\Bw w w':=by
 have a:=(yC.1 h).1;have k:∀ o,(w.alloc o).cell? ob=η (ze t):=fun o=>yG (((zt w o).block ob a).trans h) 0;have b:=Xu s t;rw[← b];clear h b;generalize ze s=d at *;generalize ze t=f at *;go_in;go_wp2;go_ret;exact⟨rfl,zt w _⟩
theorem TZ(g ob:Nat)(t:List UInt8)(w:Wo)(hg:w.heap[g]?=η (χ Qr 154 (0,0)))(h:w.heap[ob]?=η (OZ t)):
  δ prog 134 #[ς (η g) 6 6,.func (Fn.func 84) #[] #[ob]] w fun e w'=>e=ε (ι κ (JI (qy t)))/\Bw w w':=by
 have x:=zb hg;have y:=zb h;go_in;go_wp2_with fail;go_loopw [8] (fun i wr=>∃ j:Nat,j<=6/\i=ι κ (j:Int)/\Bw w wr/\∀ n:Nat,n<j->¬ (qy t)=(n:Int)+1) (fun i _=>6 - (intOf i).toNat)
 case atStart=>exact⟨0,om,rfl,yI _ _,fun n m=>om⟩
 case round=>
  obtain⟨j,G,rfl,l,m⟩:=hrel;by_cases u:j<6
  .have hg:=(l.block g (yC.1 x).1).trans x;have A:=(l.block ob (yC.1 y).1).trans y;obtain⟨B,H,I,J,K,L,C⟩:=Sd hg u rfl;have p:=zb (zdv ob t (ZV ((j:Int)+1)) (ι κ ((j:Int)+1)) (θ (Z1 ((j:Int)+1))) (θ (Zz ((j:Int)+1))) (θ (YW ((j:Int)+1))) (θ (YX ((j:Int)+1))) (JU ((j:Int)+1)) wr A);rw[MZ (t:=t) (k:=(j:Int)+1) om om]at p;obtain⟨d,f⟩:∃ d,JU ((j:Int)+1)= .func (Fn.func d) #[] #[]:=by
    unfold JU
    repeat' split
    all_goals exact⟨_,rfl⟩
   rw[f]at p C;unfold G1 at B;generalize ze (ZV ((j:Int)+1))=O at *;generalize Z1 ((j:Int)+1)=F at *;generalize Zz ((j:Int)+1)=o at *;generalize YW ((j:Int)+1)=M at *;generalize YX ((j:Int)+1)=N at *;have z:=zb m;go_wp2_with fail;go_call p as e w1 ⟨rfl,b1⟩;have b:=zb (zh l b1);by_cases s:(j:Int)+1=(qy t)
   .have a:(((j:Int)+1) ==(qy t))=ξ:=by simpa using s
    rw[a];have o:JI (qy t)=(j:Int):=by unfold JI;rw[yg om];omega
    have r:=zb o;go_wp2;go_ret;exact⟨by rw[uh r];rfl,b⟩
   .have a:(((j:Int)+1) ==(qy t))=ζ:=by simpa using s
    rw[a];have q:Hid (∀ n:Nat,n<j+1->¬ (qy t)=(n:Int)+1):=fun n m e=>by
     by_cases v:n=j
     .subst v;exact s e.symm
     .exact uh z n om e
    go_wp2;go_roundw
    case rel=>exact⟨j+1,om,by go_num,b,q⟩
    case measure=>simp[intOf];omega
  .have o:JI (qy t)= -1:=by
    unfold JI;rw[yf];intro ⟨D,E⟩;exact m ((qy t) - 1).toNat om om
   have r:=zb o;go_wp2;go_ret;exact⟨by rw[uh r];rfl,l⟩
theorem zdw(ob:Nat)(t:List UInt8)(w:Wo)(h:w.heap[ob]?=η (OZ t))(h1:1<=(qy t))(h2:(qy t)<=6):
  δ prog 83 #[.func (Fn.func 84) #[] #[ob]] w fun e w'=>e=ε (τ #[.agg (KJ (qy t)),θ ξ])/\Bw w w':=by
 have z:=(yC.1 h).1;obtain⟨j,L,I⟩:∃ j:Nat,j<6/\(qy t)=(j:Int)+1:=⟨((qy t) - 1).toNat,om,om⟩;have B:JI (qy t)=(j:Int):=by unfold JI;rw[yg ⟨h1,h2⟩];omega
 have p:=fun (w:Wo) (g:Nat) (hg:w.heap[g]?=η (χ Qr 154 (0,0)))=>Sd hg L I;have A:∃ n,JU (qy t)= .func (Fn.func n) #[] #[]:=by
  unfold JU
  repeat' split
  all_goals exact⟨_,rfl⟩
 obtain⟨n,o⟩:=A;unfold KJ;rw[o]at p ⊢;generalize G1 (qy t)=wb at *;generalize Z1 (qy t)=Q at *;generalize Zz (qy t)=R at *;generalize YW (qy t)=Z at *;generalize YX (qy t)=sp at *;have l:=zb p;have m:=zb B;have H:=zt w (χ QL 154);have N:=yH w (χ QL 154);have r:(w.alloc (χ QL 154)).heap.size=w.heap.size+1:=sm;have D:=zb ((H.block ob z).trans h);have E:=zb (P9 (w.alloc (χ QL 154)));have K:=zb H;have f:=zb N;go_in;go_wp2_with fail;unfold QL at *;generalize (w.alloc (χ #[σ ⟨#[]⟩,ι κ 0,θ ζ,θ ζ,θ ζ,θ ζ,.nilFunc] 154))=b at *;go_call E as e w1 ⟨rfl,rfl⟩;have q:=zt b (χ Qr 154);have C:=yH b (χ Qr 154);have s:(b.alloc (χ Qr 154)).heap.size=b.heap.size+1:=sm;have F:=zb (TZ b.heap.size ob t (b.alloc (χ Qr 154)) C ((q.block ob om).trans D));have i:=zb C;have d:=zb (zh K q);have k:=zb ((q.block w.heap.size om).trans f);have x:=zb r;have y:=zb s;clear E q C D f r s;generalize (b.alloc (χ Qr 154))=wB at *;generalize b.heap.size=G at *;go_wp2_with fail;go_call F as e w2 ⟨rfl,b2⟩;rw[uh m];have r:=uh x;have s:=uh y;have J:=(b2.block G om).trans i;obtain⟨S,T,U,V,W,X,Y⟩:=uh l _ _ J;have a:=(b2.block w.heap.size om).trans k;have c0:w2.cell? w.heap.size=η (σ ⟨#[]⟩):=yG a 0;have c1:w2.cell? ⟨w.heap.size,1,ν⟩=η (ι κ 0):=yG a 1;have c2:w2.cell? ⟨w.heap.size,2,ν⟩=η (θ ζ):=yG a 2;have c3:w2.cell? ⟨w.heap.size,3,ν⟩=η (θ ζ):=yG a 3;have c4:w2.cell? ⟨w.heap.size,4,ν⟩=η (θ ζ):=yG a 4;have O:w2.cell? ⟨w.heap.size,5,ν⟩=η (θ ζ):=yG a 5;have P:w2.cell? ⟨w.heap.size,6,ν⟩=η .nilFunc:=yG a 6;have fz:=yJ a;have v:=zb a;have u:=zb (zh d b2);clear F d i k J a b2 r s l m h1 h2;clear I;have M:(j:Int)<6:=om;go_wp2;refine bodyPost_ret (Qh rfl _ _ w.heap.size 154 #[_,_,_,_,_,_,_] (0,0) _ _ rfl rfl (Z3 v [_,_,_,_,_,_,_] rfl) underlying154 rfl kr) rfl ?_;exact⟨rfl,Zd u (ye _) [_,_,_,_,_,_,_] 0⟩
theorem zdx(ob:Nat)(t:List UInt8)(w:Wo)(h:w.heap[ob]?=η (OZ t))(hno:¬ (1<=(qy t)/\(qy t)<=6)):
  δ prog 83 #[.func (Fn.func 84) #[] #[ob]] w fun e w'=>e=ε (τ #[.agg QL,θ ζ])/\Bw w w':=by
 have o:=(yC.1 h).1;have p:JI (qy t)= -1:=by unfold JI;rw[yf hno]
 have l:=zb p;have v:=zt w (χ QL 154);have A:=yH w (χ QL 154);have q:(w.alloc (χ QL 154)).heap.size=w.heap.size+1:=sm;have s:=zb ((v.block ob o).trans h);have u:=zb (P9 (w.alloc (χ QL 154)));have y:=zb v;have d:=zb A;unfold QL at *;go_in;go_wp2_with fail;generalize (w.alloc (χ #[σ ⟨#[]⟩,ι κ 0,θ ζ,θ ζ,θ ζ,θ ζ,.nilFunc] 154))=b at *;go_call u as e w1 ⟨rfl,rfl⟩;have f:=zt b (χ Qr 154);have x:=yH b (χ Qr 154);have r:(b.alloc (χ Qr 154)).heap.size=b.heap.size+1:=sm;have z:=zb (TZ b.heap.size ob t (b.alloc (χ Qr 154)) x ((f.block ob om).trans s));have g:=zb (zh y f);have k:=zb ((f.block w.heap.size om).trans d);have m:=zb q;have n:=zb r;clear u f x s d q r;generalize (b.alloc (χ Qr 154))=D at *;generalize b.heap.size=G at *;go_wp2_with fail;go_call z as e w2 ⟨rfl,b2⟩;rw[uh l];have q:=uh m;have r:=uh n;have a:=(b2.block w.heap.size om).trans k;have c0:w2.cell? w.heap.size=η (σ ⟨#[]⟩):=yG a 0;have c1:w2.cell? ⟨w.heap.size,1,ν⟩=η (ι κ 0):=yG a 1;have c2:w2.cell? ⟨w.heap.size,2,ν⟩=η (θ ζ):=yG a 2;have c3:w2.cell? ⟨w.heap.size,3,ν⟩=η (θ ζ):=yG a 3;have c4:w2.cell? ⟨w.heap.size,4,ν⟩=η (θ ζ):=yG a 4;have B:w2.cell? ⟨w.heap.size,5,ν⟩=η (θ ζ):=yG a 5;have C:w2.cell? ⟨w.heap.size,6,ν⟩=η .nilFunc:=yG a 6;have fz:=yJ a;have j:=zb a;have i:=zb (zh g b2);go_wp2;refine bodyPost_ret (Qh rfl _ _ w.heap.size 154 #[_,_,_,_,_,_,_] (0,0) _ _ rfl rfl (Z3 j [_,_,_,_,_,_,_] rfl) underlying154 rfl kr) rfl ?_;exact⟨rfl,Zd i (ye _) [_,_,_,_,_,_,_] 0⟩
