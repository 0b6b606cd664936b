import Derived.Test.YtgoafoojaceadaaGreatDoorBd14
import Derived.Test.YtgoafoojaceadaaGreatDoorBd13
set_option maxRecDepth 100000
set_option maxHeartbeats 8000000
open Go renaming Calls->δ,Value->ω
open Go.Ending renaming returned->ε
open Go.IntKind renaming i64->κ
open Go.Lib renaming alloc_old->Α
open Go.Obj renaming cells->χ
open Go.Value renaming agg->γ,bool->θ,iface->φ,int->ι,pointer->π,slice->ς,string->σ,tuple->τ
open _root_.Bool renaming false->ζ,true->ξ
open _root_.Option renaming none->ν,some->η
namespace Go.Proofs.YtgoafoojaceadaaGreatDoor
open Go.RowKit Go.Proofs.Tryz
abbrev Ql(s:Bs)(w:Wo):Wo:=((w.alloc (χ #[.string s,ι κ 0,θ ζ,θ ζ] 140)).alloc (χ #[π (η ⟨w.heap.size,0,ν⟩)] 136)).alloc (χ #[.nilIface] 65)
variable{w w':Wo}{b g d c B rb i:Nat}{left:Lit->Bool}{k:List UInt8}{f:List UInt8×JV->Nat}{v:JV}{s:Bs}{tb kt:Bool}{S1 S2:Nat->Prop}
theorem zd6(s:Bs)(w:Wo):(Ql s w).heap.size=w.heap.size+3:=by simp
theorem zd7(s:Bs)(w:Wo)(o:Obj):zr w s 0 ζ ζ ((Ql s w).alloc o):=by
 unfold zr;rw[Α _ o _ so,Α _ _ _ so,Α _ _ _ sm];exact yH w _
theorem zd8(s:Bs)(w:Wo)(o:Obj):Qa (w.heap.size+1) 136 w ((Ql s w).alloc o):=by
 unfold Qa;rw[Α _ o _ sm,Α _ _ _ sm];have:=yH (w.alloc (χ #[s,ι κ 0,θ ζ,θ ζ] 140)) (χ #[w] 136);simpa using this
theorem zd9(s:Bs)(w:Wo)(o:Obj):Qa (w.heap.size+1+1) 65 .nilIface ((Ql s w).alloc o):=by
 unfold Qa;rw[Α _ o _ sm];have:=yH ((w.alloc (χ #[s,ι κ 0,θ ζ,θ ζ] 140)).alloc (χ #[w] 136)) (χ #[.nilIface] 65);simpa using this
theorem zea(s:Bs)(w:Wo)(o:Obj):Below w w ((Ql s w).alloc o):=
 ((((yI _ _).alloc (ye _) _).alloc sm _).alloc so _).alloc so _
theorem Bu:∀ args (w:Wo),(callFunc 78 args).run prog w= .ok (.enter 78 args) w:=enters_of func78 kr rfl
theorem Qa.below{t:TypeId}{v:ω}(h:Qa b t v w)(hb:Below w w w'):Qa b t v w':=(hb.block b h.lt).trans h
theorem zr.big(h:zr rb s i tb kt w):w.cell? ⟨rb,2,ν⟩=η (θ tb):=by rw[yG h];rfl
theorem zr.twice(h:zr rb s i tb kt w):w.cell? ⟨rb,3,ν⟩=η (θ kt):=by rw[yG h];rfl
def YH(d c b:Nat):ω:=γ #[ι κ (d:Int),ι κ (c:Int),ι κ (b:Int)]
abbrev qK(d c b:Nat):Obj:=χ #[ι κ (d:Int),ι κ (c:Int),ι κ (b:Int)] 144 (0,0)
def Zp(g d c b:Nat)(w:Wo):Prop:=w.heap[g]?=η (qK d c b)
theorem Zp.c0(h:Zp g d c b w):w.cell? g=η (ι κ (d:Int)):=by rw[yG h];rfl
theorem Zp.c1(h:Zp g d c b w):w.cell? ⟨g,1,ν⟩=η (ι κ (c:Int)):=by rw[yG h];rfl
theorem Zp.c2(h:Zp g d c b w):w.cell? ⟨g,2,ν⟩=η (ι κ (b:Int)):=by rw[yG h];rfl
theorem Zp.fz(h:Zp g d c b w)(k:Nat):w.frozen? ⟨g,k,ν⟩=ζ:=yJ h k
theorem Zp.lt(h:Zp g d c b w):g<w.heap.size:=(yC.1 h).1
theorem Zp.below(h:Zp g d c b w)(hb:Below w w w'):Zp g d c b w':=(hb.block g h.lt).trans h
theorem Zp.alloc(h:Zp g d c b w)(o:Obj):Zp g d c b (w.alloc o):=h.below ((yI _ _).alloc (ye _) o)
theorem Zp.other(h:Zp g d c b w){p:Addr}(hp:g≠p.block)(v:ω):Zp g d c b (w.setCell p v):=(Below.heap_setCell w p v g hp).trans h
theorem Zp.set0(h:Zp g d c b w)(z:Int)(n:Nat)(hz:z=(n:Int)):Zp g n c b (w.setCell g (ι κ z)):=by
 subst hz;exact heap_setCell_same w g 0 _ 144 (ι κ (n:Int)) h
theorem Zp.set1(h:Zp g d c b w)(z:Int)(n:Nat)(hz:z=(n:Int)):Zp g d n b (w.setCell ⟨g,1,ν⟩ (ι κ z)):=by
 subst hz;exact heap_setCell_same w g 1 _ 144 (ι κ (n:Int)) h
theorem Zp.set2(h:Zp g d c b w)(z:Int)(n:Nat)(hz:z=(n:Int)):Zp g d c n (w.setCell ⟨g,2,ν⟩ (ι κ z)):=by
 subst hz;exact heap_setCell_same w g 2 _ 144 (ι κ (n:Int)) h
theorem Zp.put(h:Zp g d c b w)(x y z:Int)(d' c' b':Nat)(hx:x=(d':Int))(hy:y=(c':Int))(hz:z=(b':Int)):
  Zp g d' c' b' (((w.setCell g (ι κ x)).setCell ⟨g,1,ν⟩ (ι κ y)).setCell ⟨g,2,ν⟩ (ι κ z)):=((h.set0 x d' hx).set1 y c' hy).set2 z b' hz
theorem SF(h:Below B w w')(hg:B<=g)(a b c:ω):
  Below B w (((w'.setCell g a).setCell ⟨g,1,ν⟩ b).setCell ⟨g,2,ν⟩ c):=
 ((h.setCell (p:=g) hg _).setCell (p:=⟨g,1,ν⟩) hg _).setCell (p:=⟨g,2,ν⟩) hg _
theorem Nc{fn:Func}(hres:fn.results=#[.cell 2 144]){tmps:Array ω}(hp:tmps.getD 2 undef=π (η g))(h:Zp g d c b w):
  (results fn tmps).run prog w= .ok (YH d c b) w:=
 results_cell_row hres tmps w g 144 _ (0,0) _ hp h underlying144 rfl kr
theorem SG(w:Wo):Zp w 0 0 0 (w.alloc (qK 0 0 0)):=yH w _
theorem UH(w:Wo):Below w w (w.alloc (qK 0 0 0)):=(yI _ _).alloc (ye _) _
theorem zeb (t:TypeId) (p:ω) (tx:List UInt8) (w:Wo)
  (h1:∀ w:Wo,(Instr.typeAssert (φ t p) 65 146 ξ).run prog w= .ok (.tuple #[π ν,θ ζ]) w)
  (h2:∀ w:Wo,(Instr.typeAssert (φ t p) 65 209 ξ).run prog w= .ok (.tuple #[π ν,θ ζ]) w)
  (hc:∀ w1,Below w w w1->δ prog 40 #[φ t p] w1 fun e w'=>e=ε (ze tx)/\Below w1 w1 w'):
  δ prog 81 #[φ t p] w fun e w'=>e=ε (YH 1 1 tx.length)/\Below w w w':=by
 have d:=zb (hc (w.alloc (qK 0 0 0)) (UH w));have g:=zL tx;generalize ze tx=n at *;go_in;go_wp2_with fail;go_call d as e w1 ⟨rfl,b1⟩;have a:=(SG w).below b1;have k:=a.c0;have l:=a.c1;have m:=a.c2;have h:=a.fz 0;have i:=a.fz 1;have j:=a.fz 2;have f:=zb (a.put 1 1 (tx.length:Int) 1 1 tx.length rfl rfl rfl);have b:=zb (SF (zh (UH w) b1) (ye _) (ι κ 1) (ι κ 1) (ι κ (tx.length:Int)));go_wp2;try simp only[Exit.inBlock,Exit.then]
 refine bodyPost_ret (Nc rfl rfl f) rfl ?_;exact⟨rfl,b⟩
open Go.Sort
theorem Bv(n:Nat)(w:Wo)(hn:n<=10000000):
  δ prog 131 #[ι κ (n:Int)] w fun e w'=>e=ε (YH 1 1 (hold n))/\Below w w w':=by
 have b:max (0:Int) ((n:Int) - 1)=((n - 1:Nat):Int):=om;have a:Hid (Zp w 1 1 (hold n) (w.alloc (χ #[ι κ 1,ι κ 1,ι κ (2+((n - 1:Nat):Int))] 144))):=by
  have e:(2+((n - 1:Nat):Int))=((hold n:Nat):Int):=by unfold hold;omega
  rw[e];exact yH w _
 go_in;go_wp2;try simp only[Exit.inBlock,Exit.then]
 refine bodyPost_ret (Nc rfl rfl a) rfl ?_;exact⟨rfl,(yI _ _).alloc (ye _) _⟩
def YI(v:JV):Prop:=∀ (w:Wo) (S:Nat->Prop) (t:TypeId) (p:ω),zi w S v (φ t p)->(∀ k,S k->k<w.heap.size)->JJ w.heap.size w->(ct v).length<=10000000->zn v<=10000000->zJ v<=10000000 ->
 δ prog 81 #[φ t p] w (Rb (YH (zJ v) (zn v) (ct v).length) w)
theorem zec(h:Below w w w'):w.grownBy w' ν:=⟨h.os,h.tape,h.output,h.size,fun k hk _=>h.block k hk⟩
theorem Nd(w:Wo)(p:Addr)(v:ω):w.grownBy (w.setCell p v) (η p.block):=by
 refine⟨(yI 0 w |>.setCell (p:=p) (yu _) v).os,(yI 0 w |>.setCell (p:=p) (yu _) v).tape,(yI 0 w |>.setCell (p:=p) (yu _) v).output,(yI 0 w |>.setCell (p:=p) (yu _) v).size,fun k hk hne=>Below.heap_setCell w p v k (fun e=>hne (by rw[e]))⟩
theorem Bx (sb d c n d1 c1 n1:Nat) (t:TypeId) (p:ω) (w:Wo) (h:Zp sb d c n w) (hd:d<=10000000) (hd1:d1<=10000000) (hc:c<=10000000) (hc1:c1<=10000000) (hn:n<=1000000000) (hn1:n1<=1000000000)
  (hs:δ prog 81 #[φ t p] w fun e w'=>e=ε (YH d1 c1 n1)/\Below w w w'):
  δ prog 132 #[sb,φ t p] w fun e w'=>e=ε (τ #[])/\Zp sb (max d (d1+1)) (c+c1) (n+n1) w'/\w.grownBy w' (η sb):=by
 have D:=zb hs;have H:=zb h;go_in;go_wp2_with fail;go_call D as e w1 ⟨rfl,b1⟩;have q:=H.below b1;have v:=q.lt;have f:=q.alloc (qK d1 c1 n1);have r:Zp w1 d1 c1 n1 (w1.alloc (qK d1 c1 n1)):=yH w1 _;have x:=(zec b1).andThen (World.grownBy_alloc w1 (qK d1 c1 n1) ν) (fun j e=>by cases e);obtain⟨M,E⟩:∃ M,max d (d1+1)=M:=⟨_,rfl⟩;have J:max (d:Int) ((d1:Int)+1)=(M:Int):=om;have C:=zb E;have F:M<=10000001:=om;simp only[YH];go_wp2_with fail;generalize hW:w1.alloc (qK d1 c1 n1)=W at *;have l:W.drew.cell? sb=η (ι κ (d:Int)):=f.c0;have m:W.drew.cell? w1.heap.size=η (ι κ (d1:Int)):=r.c0;have o:W.drew.frozen? sb=ζ:=f.fz 0;have i:Hid (Zp sb M c n (W.setCell sb (ι κ (M:Int))).drew):=Zp.set0 (w:=W) f (M:Int) _ om;have s:Hid (Zp w1 d1 c1 n1 (W.setCell sb (ι κ (M:Int))).drew):=Zp.other (w:=W) r (p:=sb) (by show w1.heap.size≠sb;omega) _;have y:Hid (w.grownBy (W.setCell sb (ι κ (M:Int))).drew (η sb)):=by
  have g:=(World.grownBy.but x (η sb)).andThen (Nd W sb (ι κ (M:Int))) (fun j e=>.inr e);exact⟨g.os,g.tape,g.output,g.size,g.block⟩
 go_region;generalize (W.setCell sb (ι κ (M:Int))).drew=a at *;go_wp2_with fail;have l:a.drew.cell? ⟨sb,1,ν⟩=η (ι κ (c:Int)):=i.c1;have m:a.drew.cell? ⟨w1,1,ν⟩=η (ι κ (c1:Int)):=s.c1;have o:a.drew.frozen? ⟨sb,1,ν⟩=ζ:=i.fz 1;have k:Hid (Zp sb M (c+c1) n (a.setCell ⟨sb,1,ν⟩ (ι κ ((c:Int)+(c1:Int)))).drew):=Zp.set1 (w:=a) i ((c:Int)+(c1:Int)) _ om;have u:Hid (Zp w1 d1 c1 n1 (a.setCell ⟨sb,1,ν⟩ (ι κ ((c:Int)+(c1:Int)))).drew):=Zp.other (w:=a) s (p:=⟨sb,1,ν⟩) (by show w1.heap.size≠sb;omega) _;have z:Hid (w.grownBy (a.setCell ⟨sb,1,ν⟩ (ι κ ((c:Int)+(c1:Int)))).drew (η sb)):=by
  have g:=y.andThen (Nd a ⟨sb,1,ν⟩ (ι κ ((c:Int)+(c1:Int)))) (fun j e=>.inr e);exact⟨g.os,g.tape,g.output,g.size,g.block⟩
 go_region;generalize (a.setCell ⟨sb,1,ν⟩ (ι κ ((c:Int)+(c1:Int)))).drew=b at *;go_wp2_with fail;have l:b.drew.cell? ⟨sb,2,ν⟩=η (ι κ (n:Int)):=k.c2;have m:b.drew.cell? ⟨w1,2,ν⟩=η (ι κ (n1:Int)):=u.c2;have o:b.drew.frozen? ⟨sb,2,ν⟩=ζ:=k.fz 2;have B:Hid (Zp sb M (c+c1) (n+n1) (b.setCell ⟨sb,2,ν⟩ (ι κ ((n:Int)+(n1:Int)))).drew):=Zp.set2 (w:=b) k ((n:Int)+(n1:Int)) _ om;have G:Hid (Zp w1 d1 c1 n1 (b.setCell ⟨sb,2,ν⟩ (ι κ ((n:Int)+(n1:Int)))).drew):=Zp.other (w:=b) u (p:=⟨sb,2,ν⟩) (by show w1.heap.size≠sb;omega) _;have A:Hid (w.grownBy (b.setCell ⟨sb,2,ν⟩ (ι κ ((n:Int)+(n1:Int)))).drew (η sb)):=by
  have g:=z.andThen (Nd b ⟨sb,2,ν⟩ (ι κ ((n:Int)+(n1:Int)))) (fun j e=>.inr e);exact⟨g.os,g.tape,g.output,g.size,g.block⟩
 go_region;generalize (b.setCell ⟨sb,2,ν⟩ (ι κ ((n:Int)+(n1:Int)))).drew=I at *;go_wp2;go_end0;exact⟨rfl,by rw[uh C];exact uh B,A⟩
theorem zed(a:List (List UInt8))(t:List UInt8):nl (a++[t])=nl a+t.length:=by simp[nl]
theorem JJ.more{B':Nat}(h:JJ B w)(hB:B<=B'):JJ B' w:=⟨yF h.1 hB,h.2⟩
theorem zee{sb:Nat}(h:w.grownBy w' (η sb))(hB:B<=sb)(hs:sb<w.heap.size):Below B w w':=
 ⟨h.os,h.tape,h.output,h.size,fun k hk=>h.block k om (by intro e;injection e with e;omega)⟩
theorem zef(l:JL)(hall:∀ v∈l.toL,YI v):YI (.arr l):=by
 intro w S t p h K hP O ag ai;rw[zi]at h;obtain⟨o,sv,b,h,r,L,s,H⟩:=h;injection h with h1 h2;subst h1;subst h2;obtain⟨a,g,x,rfl,m,n⟩:=Gt s;have R:=(Yo l b H).1;have M:w.cell? o=η (ς a b.length x):=by rw[yG L];rfl
 have A:=K _ r;have q:(ct (.arr l)).length=hold b.length+nl (zu l):=by
  show (qg (zu l)).length=_
  have:=Xx (zu l);have e:(zu l).length=b.length:=by rw[Qd,yl,R]
  rw[e]at this;simp[qg];omega
 have E:zn (.arr l)=cl l.toL+1:=by rw[zn,FJ]
 have F:zJ (.arr l)=dl l.toL+1:=by rw[zJ,UY]
 have hxn:b.length<=10000000:=by unfold hold at q;omega
 have HR:Hid (YH (zJ (.arr l)) (zn (.arr l)) (ct (.arr l)).length=YH (dl l.toL+1) (cl l.toL+1) (hold b.length+nl (zu l))):=zb (by rw[E,F,q]);rw[q]at O;rw[E]at ag;rw[F]at ai;have J:Hid (∀ (k:Nat) (G:k<b.length),∃ t p z y I,b[k]=φ t p/\z<=10000000/\y<=10000000/\I<=10000000/\dl (l.toL.take (k+1))=max (dl (l.toL.take k)) z/\cl (l.toL.take (k+1))=cl (l.toL.take k)+y/\nl ((zu l).take (k+1))=nl ((zu l).take k)+I /\
   ∀ wr:Wo,Below w w wr->δ prog 81 #[φ t p] wr fun e w'=>e=ε (YH z y I)/\Below wr wr w'):=by
  intro k G;have d:k<l.toL.length:=om;have hr:=(Yo l b H).2 k G d;obtain⟨t,p,U⟩:=Y1 hr;rw[U]at hr;have d1:=Lf l.toL k d;have c1:zn l.toL[k]<=cl l.toL:=by have:=Wq (l.toL.map zn) k (by simpa using d);simpa [cl]using this
  have n1:(ct l.toL[k]).length<=nl (zu l):=by have:=Wq ((zu l).map List.length) k (by rw[Qd];simpa using d);simpa [nl,Qd]using this
  refine⟨t,p,zJ l.toL[k],zn l.toL[k],(ct l.toL[k]).length,U,om,om,om,?_,?_,?_,fun wr hb'=>?_⟩
  .rw[yz d];exact Am _ _
  .rw[yz d];exact An _ _
  .rw[yz (show k<(zu l).length by rw[Qd,yl];exact d),zed];simp[Qd]
  .have hr':=zi.keep (w':=wr) (S':=S) (fun k G=>hb'.block k (K k G)) (fun _ h=>h) _ _ hr;exact hall _ (yt d) wr S t p hr' (fun k G=>yF (K k G) hb'.size) ((hP.next hb' (ye _)).more hb'.size) om om om
 have V:Hid (∀ k,dl (l.toL.take k)<=dl l.toL/\cl (l.toL.take k)<=cl l.toL/\nl ((zu l).take k)<=nl (zu l)):=fun k=>by
  refine⟨Ao _ _,?_,?_⟩
  .unfold cl;rw[List.map_take];exact N7 _ _
  .unfold nl;rw[List.map_take];exact N7 _ _
 have HE:Hid (l.toL.take b.length=l.toL/\(zu l).take b.length=zu l):=⟨yr om,yr (by rw[Qd,yl];omega)⟩;have HC:Hid (∀ j (hj:j<b.length) (wr:Wo),Below w w wr->wr.cell? ⟨g,j,ν⟩=η b[j]):=fun j hj wr hb'=>by
  have N:=K _ ((m om).2);exact (hb'.cell (p:=⟨g,j,ν⟩) N).trans (n j hj)
 have C:=fun (h:0<b.length)=>(m h).1;have HH:Hid (δ prog 131 #[ι κ (b.length:Int)] (w.alloc (qK 0 0 0)) fun e w'=>e=ε (γ #[ι κ 1,ι κ 1,ι κ ((hold b.length:Nat):Int)])/\Below (w.alloc (qK 0 0 0)).heap.size (w.alloc (qK 0 0 0)) w'):=Bv b.length (w.alloc (qK 0 0 0)) hxn;have t1:∀ w:Wo,(Instr.typeAssert (φ 146 o) 65 146 ξ).run prog w= .ok (.tuple #[o,θ ξ]) w:=fun _=>by kernel_rfl
 have ad:(w.alloc (χ #[ι κ 0,ι κ 0,ι κ 0] 144)).cell? o=η (ς a b.length x):=((UH w).cell (p:=o) A).trans M;have hlt0:w.heap.size<(w.alloc (qK 0 0 0)).heap.size:=sm;generalize hvs:l.toL=f at *;generalize zu l=cs at *;clear s H n m K hP L q E F hall R r M hvs;go_in;go_wp2_with fail;go_call HH as e w1 ⟨rfl,b1⟩;have R1:=(SG w).below b1;have c1:=(b1.cell (p:=o) (by show o<_;omega)).trans ad;have hw1:=b1.size;have B1:=zh (UH w) b1;have c2:(w1.alloc (χ #[ι κ 1,ι κ 1,ι κ ((hold b.length:Nat):Int)] 144)).cell? o=η (ς a b.length x):=((yI w1 w1).alloc (ye _) (qK 1 1 (hold b.length)) |>.cell (p:=o) (by show o<_;omega)).trans c1;have S2:Hid (Zp w1 1 1 (hold b.length) (w1.alloc (qK 1 1 (hold b.length)))):=yH w1 _;have R2:=zb (R1.alloc (qK 1 1 (hold b.length)));have B2:=zb (B1.alloc B1.size (qK 1 1 (hold b.length)));have Q:w1.heap.size<(w1.alloc (qK 1 1 (hold b.length))).heap.size:=sm;have E0:Hid (dl (f.take 0)+1=1/\cl (f.take 0)+1=1/\hold b.length+nl (cs.take 0)=hold b.length):=⟨rfl,rfl,rfl⟩;go_wp2_with fail;go_loopw [26] (fun i wr=>∃ k:Nat,k<=b.length/\i=ι κ k/\Zp w1 (dl (f.take k)+1) (cl (f.take k)+1) (hold b.length+nl (cs.take k)) wr/\(w1.alloc (qK 1 1 (hold b.length))).grownBy wr (η w1)) (fun i _=>b.length - (intOf i).toNat)
 case atStart=>exact⟨0,yu _,rfl,S2,World.grownBy.refl _ _⟩
 case round=>
  obtain⟨k,G,rfl,T,N⟩:=hrel;have Z:=B2.trans (zee N (B:=w.heap.size) om Q);by_cases P:k<b.length
  .have hltI:(k:Int)<(b.length:Int):=om;obtain rfl:=C om;have af:=uh HC k P wr Z;obtain⟨t,p,z,y,I,U,ah,aa,hn1,e1,e2,e3,D⟩:=uh J k P;rw[U]at af;obtain⟨x1,x2,x3⟩:=uh V k;have HI:=zb (Bx w1 _ _ _ z y I t p wr T om ah om aa (by unfold hold;omega) om (D wr Z));have W:=zb e1;have X:=zb e2;have Y:=zb e3;have HG:=zb N;go_wp2_with fail;go_call HI as e w2 ⟨rfl,z2,g2⟩;have G2:=zb (HG.andThen g2 (fun j e=>.inr e));have Z2:Hid (Zp w1 (dl (f.take (k+1))+1) (cl (f.take (k+1))+1) (hold b.length+nl (cs.take (k+1))) w2):=by
    rw[uh W,uh X,uh Y];rw[show max (dl (f.take k)) z+1=max (dl (f.take k)+1) (z+1) by omega,show cl (f.take k)+y+1=cl (f.take k)+1+y by omega,show hold b.length+(nl (cs.take k)+I)=hold b.length+nl (cs.take k)+I by omega];exact z2
   go_wp2;go_roundw
   case rel=>exact⟨k+1,om,by go_num,Z2,G2⟩
   case measure=>simp[intOf];omega
  .have d:k=b.length:=om;subst d;rw[(uh HE).1,(uh HE).2]at T;have z0:=T.c0;have z1:=T.c1;have z2:=T.c2;have u:Zp w 0 0 0 wr:=(N.block w (by have:=R2.lt;omega) (by intro e;injection e with e;omega)).trans R2;have r0:=u.c0;have r1:=u.c1;have r2:=u.c2;have q0:=u.fz 0;have q1:=u.fz 1;have q2:=u.fz 2;have RX:=zb (u.put (((dl f+1:Nat)):Int) ((cl f+1:Nat):Int) ((hold b.length+nl cs:Nat):Int) _ _ _ rfl rfl rfl);have BX:=zb (SF Z (ye _) (ι κ ((dl f+1:Nat):Int)) (ι κ ((cl f+1:Nat):Int)) (ι κ ((hold b.length+nl cs:Nat):Int)));generalize dl f+1=DD at *;generalize cl f+1=CC at *;generalize hold b.length+nl cs=NN at *;go_wp2;refine bodyPost_ret (Nc rfl rfl RX) rfl ?_;exact⟨by rw[uh HR],BX⟩
def QB(left:Lit->Bool):List (List UInt8×JV)->Nat
 | []=>0
 | q :: r=>if left (.string q.1)then QB left r else max (zJ q.2) (QB left r)
def qA(f:List UInt8×JV->Nat)(left:Lit->Bool):List (List UInt8×JV)->Nat
 | []=>0
 | q :: r=>(if left (.string q.1)then 0 else f q)+qA f left r
def Jw(left:Lit->Bool)(k:List UInt8):Lit->Bool:=fun z=>left z && !z.sameKey (.string k)
theorem Fl{a:List UInt8}(h:a≠k):Jw left k (.string a)=left (.string a):=by
 unfold Jw;rw[Maps.sameKey_ne (by intro e;injection e with e;exact h e)];simp
theorem Bz(left:Lit->Bool)(k:List UInt8):Jw left k (.string k)=ζ:=by
 unfold Jw;rw[WideAt.sameKey_self (show WideAt.IsKeyLit (.string k)from trivial)];simp
theorem BD:∀ qs:List (List UInt8×JV),(∀ q∈qs,q.1≠k)->QB (Jw left k) qs=QB left qs
 | [],_=>rfl
 | q :: r,h=>by
  rw[QB,QB,Fl (h q yq),BD r (fun q hq=>h q (yw _ hq))]
theorem BE:∀ qs:List (List UInt8×JV),(∀ q∈qs,q.1≠k)->qA f (Jw left k) qs=qA f left qs
 | [],_=>rfl
 | q :: r,h=>by
  rw[qA,qA,Fl (h q yq),BE r (fun q hq=>h q (yw _ hq))]
theorem BF(hl:left (.string k)=ξ):∀ qs:List (List UInt8×JV),(qs.map (·.1)).Nodup->(k,v)∈qs->QB (Jw left k) qs=max (QB left qs) (zJ v)
 | [],_,h=>by simp at h
 | q :: r,hn,h=>by
  rw[yi,List.nodup_cons]at hn;rw[QB,QB];rcases List.mem_cons.1 h with e | h
  .subst e;rw[Bz,hl,BD r (fun q hq e=>hn.1 (yP.2 ⟨q,hq,e⟩))];simp only[if_true,Bool.false_eq_true,if_false];omega
  .have hne:q.1≠k:=fun e=>hn.1 (yP.2 ⟨_,h,e.symm⟩);rw[Fl hne,BF hl r hn.2 h];split
   .rfl
   .omega
theorem SH(hl:left (.string k)=ξ):∀ qs:List (List UInt8×JV),(qs.map (·.1)).Nodup->(k,v)∈qs->qA f (Jw left k) qs=qA f left qs+f (k,v)
 | [],_,h=>by simp at h
 | q :: r,hn,h=>by
  rw[yi,List.nodup_cons]at hn;rw[qA,qA];rcases List.mem_cons.1 h with e | h
  .subst e;rw[Bz,hl,BE r (fun q hq e=>hn.1 (yP.2 ⟨q,hq,e⟩))];simp only[if_true,Bool.false_eq_true,if_false];omega
  .have hne:q.1≠k:=fun e=>hn.1 (yP.2 ⟨_,h,e.symm⟩);rw[Fl hne,SH hl r hn.2 h];omega
theorem SI{f:List UInt8×JV->Nat}:∀ qs:List (List UInt8×JV),(∀ q∈qs,left (.string q.1)=ξ)->QB left qs=0/\qA f left qs=0
 | [],_=>⟨rfl,rfl⟩
 | q :: r,h=>by
  obtain⟨a,b⟩:=SI (f:=f) r (fun q hq=>h q (yw _ hq));rw[QB,qA,h q yq,a,b];exact⟨rfl,rfl⟩
theorem BG(h:∀ z,left z=ζ):∀ qs:List (List UInt8×JV),QB left qs=dl (qs.map (·.2))
 | []=>rfl
 | q :: r=>by rw[QB,h,yi,dl,BG h r];rfl
theorem SJ(h:∀ z,left z=ζ):∀ qs:List (List UInt8×JV),qA f left qs=(qs.map f).sum
 | []=>rfl
 | q :: r=>by rw[qA,h,yi,yM,SJ h r];rfl
theorem SK{f:List UInt8×JV->Nat}{left:Lit->Bool}:∀ qs:List (List UInt8×JV),qA f left qs<=(qs.map f).sum
 | []=>ye _
 | q :: r=>by
  rw[qA,yi,yM];have:=SK (f:=f) (left:=left) r;split<;>omega
theorem BH{left:Lit->Bool}:∀ qs:List (List UInt8×JV),QB left qs<=dl (qs.map (·.2))
 | []=>ye _
 | q :: r=>by
  rw[QB,yi,dl];have:=BH (left:=left) r;split<;>omega
theorem Fm{vs:List JV}(h:v∈vs):zJ v<=dl vs:=by
 obtain⟨j,a,rfl⟩:=List.getElem_of_mem h;exact Lf vs j a
theorem Zp.grown{row:Option Nat}(h:Zp g d c b w)(hg:w.grownBy w' row)(hr:η g≠row):Zp g d c b w':=(hg.block g h.lt hr).trans h
theorem KY{r:Nat}(h:w.grownBy w' (η r))(hB:B<=r)(hs:B<=w.heap.size):Below B w w':=
 ⟨h.os,h.tape,h.output,h.size,fun k hk=>h.block k om (by intro e;injection e with e;omega)⟩
theorem zeg(m:JM)(hall:∀ q∈m.toL,YI q.2)(hval:∀ q∈m.toL,Lib.validD q.1=ξ)(hnd:(QE m).Nodup):YI (.obj m):=by
 intro w S t p h hS hP M hcn hdp;rw[zi]at h;obtain⟨C,E,nn,d,h,hSob,hSmb,hob,P,_,hrm⟩:=h;injection h with h1 h2;subst h1;subst h2;obtain⟨g,hrep⟩:=Vi m d hrm;have O:(d.map (·.1)).Nodup:=by rw[g];exact hnd
 have ai:=KS P O;have ag:(m.toL.map (·.1)).Nodup:=by rw[← Jl];exact hnd
 have hml:m.toL.length=d.length:=by
  have a1:=congrArg List.length g;rw[Jl]at a1;simpa using a1.symm
 have hsz:Maps.size (Zl d)=d.length:=by rw[KT ai,yl]
 have ad:=Y6 m;rw[hml]at ad;have hcv:zn (.obj m)=(m.toL.map fun q=>zn q.2).sum+1:=by rw[zn,UZ]
 have hdv:zJ (.obj m)=dl (m.toL.map (·.2))+1:=by rw[zJ,Wr]
 have HR:Hid (YH (zJ (.obj m)) (zn (.obj m)) (ct (.obj m)).length=YH (dl (m.toL.map (·.2))+1) ((m.toL.map fun q=>zn q.2).sum+1) (hold d.length+(m.toL.map qr).sum)):=zb (by rw[hcv,hdv,ad]);rw[ad]at M;rw[hcv]at hcn;rw[hdv]at hdp;have hxn:d.length<=10000000:=by unfold hold at M;omega
 have hobl:=hS _ hSob;have hmbl:=hS _ hSmb;have hc0:w.cell? C=η (.map (η E)):=by rw[yG hob];rfl
 have HMEM:Hid (∀ (a:Lit->Bool) (x:List UInt8) (c:ω) (i:Lit) (y1:DataW ω) (y2:List MemPlace),keyOf prog 9 (ze x)=η i->a i=ξ->(a i=ξ->Maps.has (Zl d) i=ξ)->RH c=η (y1,y2)->(∀ zd,(Zl d).atKey i zd=y1) ->
   ∃ t p Y W nk,i= .string x/\c=φ t p/\Lib.validD x=ξ/\x.length+2<=(quoted x).length/\Y<=10000000/\W<=10000000/\(quoted x).length+1+nk<=10000000/\QB (Jw a x) m.toL=max (QB a m.toL) Y/\qA (fun q=>zn q.2) (Jw a x) m.toL=qA (fun q=>zn q.2) a m.toL+W/\qA qr (Jw a x) m.toL=qA qr a m.toL+((quoted x).length+1+nk) /\
    ∀ wr:Wo,Below w w wr->δ prog 81 #[φ t p] wr fun e w'=>e=ε (YH Y W nk)/\Below wr wr w'):=by
  intro a x c i y1 y2 u hl hh Z aa;obtain⟨x',hx',hkl,_⟩:=Maps.keyOf_str underlying9 u;have ex:x'=x:=by
   have:Value.string (ze x)=encStr x':=hx';simp only[encStr,Value.string.injEq]at this;have h2:=congrArg (fun b:Bs=>b.data.toList) this;simpa [ze]using h2.symm
  subst ex;subst hkl;have D:=hh hl;rw[UF,g]at D;simp only[List.contains_eq_mem,decide_eq_true_eq]at D;rw[Jl]at D;obtain⟨q,A,hqx⟩:=yP.1 D;obtain⟨k,v⟩:=q;simp only at hqx;subst hqx;obtain⟨x0,hx0,hr⟩:=hrep k v A;have ah:=UE d O hx0;have L:=(aa (.held .nilIface)).symm.trans (KR k (.held .nilIface) d);rw[ah]at L;injection Z with Z;injection Z with Z _;subst Z;injection L with L;subst L;obtain⟨t,p,rfl⟩:=Y1 hr;have hd1:=Fm (yP.2 ⟨(k,v),A,rfl⟩:v∈m.toL.map (·.2));have hc1:zn v<=_:=Ws (fun q=>zn q.2) A;have hn1:=Ws qr A;simp only[qr]at hn1;refine⟨t,p,zJ v,zn v,(ct v).length,rfl,rfl,hval _ A,UX k,om,om,om,BF hl m.toL ag A,SH hl m.toL ag A,SH hl m.toL ag A,fun wr hb'=>?_⟩;have hr':=zi.keep (w':=wr) (S':=S) (fun k hk=>hb'.block k (hS k hk)) (fun _ h=>h) _ _ hr;exact (show YI v from hall _ A) wr S t p hr' (fun k hk=>yF (hS k hk) hb'.size) ((hP.next hb' (ye _)).more hb'.size) om om om
 have HB1:Hid (∀ a,QB a m.toL<=dl (m.toL.map (·.2))/\qA (fun q=>zn q.2) a m.toL<=(m.toL.map fun q=>zn q.2).sum/\qA qr a m.toL<=(m.toL.map qr).sum):=fun a=>⟨BH _,SK _,SK _⟩;have HZ:Hid (QB (Maps.has (Zl d)) m.toL=0/\qA (fun q=>zn q.2) (Maps.has (Zl d)) m.toL=0/\qA qr (Maps.has (Zl d)) m.toL=0):=by
  have hh:∀ q∈m.toL,Maps.has (Zl d) (.string q.1)=ξ:=fun q A=>by
   rw[UF,g,Jl];simp only[List.contains_eq_mem,decide_eq_true_eq];exact yP.2 ⟨q,A,rfl⟩
  obtain⟨a1,a2⟩:=SI (f:=fun q=>zn q.2) m.toL hh;obtain⟨_,a3⟩:=SI (f:=qr) m.toL hh;exact⟨a1,a2,a3⟩
 have HE:Hid (∀ a:Lit->Bool,(∀ z,a z=ζ)->QB a m.toL=dl (m.toL.map (·.2))/\qA (fun q=>zn q.2) a m.toL=(m.toL.map fun q=>zn q.2).sum/\qA qr a m.toL=(m.toL.map qr).sum):=fun a h=>⟨BG h _,SJ h _,SJ h _⟩;have HH:Hid (δ prog 131 #[ι κ (d.length:Int)] (w.alloc (qK 0 0 0)) fun e w'=>e=ε (γ #[ι κ 1,ι κ 1,ι κ ((hold d.length:Nat):Int)])/\Below (w.alloc (qK 0 0 0)).heap.size (w.alloc (qK 0 0 0)) w'):=Bv d.length (w.alloc (qK 0 0 0)) hxn;have t1:∀ w:Wo,(Instr.typeAssert (φ 209 C) 65 146 ξ).run prog w= .ok (.tuple #[π ν,θ ζ]) w:=fun _=>by kernel_rfl
 have t2:∀ w:Wo,(Instr.typeAssert (φ 209 C) 65 209 ξ).run prog w= .ok (.tuple #[C,θ ξ]) w:=fun _=>by kernel_rfl
 have hca:(w.alloc (χ #[ι κ 0,ι κ 0,ι κ 0] 144)).cell? C=η (.map (η E)):=((UH w).cell (p:=C) hobl).trans hc0;have hlt0:w.heap.size<(w.alloc (qK 0 0 0)).heap.size:=sm;have F:=zb fun (X:Wo) (hX:Below w w X)=>Wd P (hX.block E hmbl);have hln:∀ ty,(Builtin.len_ #[210] ty #[.map (η E)]).run prog (w.alloc (χ #[ι κ 0,ι κ 0,ι κ 0] 144))= .ok (ι κ (d.length:Int)) (w.alloc (χ #[ι κ 0,ι κ 0,ι κ 0] 144)):=fun ty=>by
  have:=(uh F (w.alloc (qK 0 0 0)) (UH w)).len underlying210 ty;rw[hsz]at this;exact this
 generalize dl (m.toL.map (·.2))=DL at *;generalize (m.toL.map fun q=>zn q.2).sum=CL at *;generalize (m.toL.map qr).sum=NL at *;go_in;go_wp2_with fail;go_call HH as e w1 ⟨rfl,b1⟩;have R1:=(SG w).below b1;have c1:=(b1.cell (p:=C) (by show C<_;omega)).trans hca;have hw1:=b1.size;have B1:=zh (UH w) b1;have c2:(w1.alloc (χ #[ι κ 1,ι κ 1,ι κ ((hold d.length:Nat):Int)] 144)).cell? C=η (.map (η E)):=((yI w1 w1).alloc (ye _) (qK 1 1 (hold d.length)) |>.cell (p:=C) (by show C<_;omega)).trans c1;have S2:Hid (Zp w1 1 1 (hold d.length) (w1.alloc (qK 1 1 (hold d.length)))):=yH w1 _;have R2:=zb (R1.alloc (qK 1 1 (hold d.length)));have B2:=zb (B1.alloc B1.size (qK 1 1 (hold d.length)));have N:(w1.alloc (χ #[ι κ 1,ι κ 1,ι κ ((hold d.length:Nat):Int)] 144)).heap.size=w1.heap.size+1:=sm;have OW:=uh F (w1.alloc (χ #[ι κ 1,ι κ 1,ι κ ((hold d.length:Nat):Int)] 144)) B2;have HOW:=zb OW;go_wp2_with (first |(at_range;refine wpList_range_own _ rfl _ 210 rfl 9 65 (Maps.string_keyed underlying9) underlying210 RH E nn (Zl d) rfl HOW ?_;intro w0 Q l hs0) | go_in);rw[N]at Q hs0;have R0:=zb (R2.grown l sm);have S0:=zb (S2.grown l sm);have B0:=zb (B2.trans (⟨l.os,l.tape,l.output,l.size,fun k hk=>l.block k (yF hk B2.size) sm⟩:Below w _ w0));have G:=zb Q;simp only[N];obtain⟨r,hr⟩:∃ r,w1.heap.size+1=r:=⟨_,rfl⟩;rw[hr]at G;simp only[hr];go_frame;go_loopw [9] (fun _ wr=>∃ a cnt,wr.ranges prog 9 RH E r nn (Zl d) a cnt/\(∀ i,a i=ξ->Maps.has (Zl d) i=ξ)/\Zp w1 (QB a m.toL+1) (qA (fun q=>zn q.2) a m.toL+1) (hold d.length+qA qr a m.toL) wr/\Zp w 0 0 0 wr/\Below w w wr) (fun _ wr=>wr.rangeLeft E r)
 case atStart=>
  refine⟨_,_,G,fun _ h=>h,?_,R0,B0⟩;rw[(uh HZ).1,(uh HZ).2.1,(uh HZ).2.2];exact S0
 case round=>
  obtain⟨a,cnt,hrg,hsub,hz,hr0,bw⟩:=hrel;have HRG:=zb hrg;have K:=zb hsub;have HZZ:=zb hz;have HR0:=zb hr0;have T:=zb bw;go_wp2_with (first |(at_next;(refine wpList_next_ranges (α:=List UInt8) (β:=ω) _ rfl _ rfl 9 (Maps.string_keyed underlying9) RH (fun x=>σ (ze x)) (fun v=>v) (fun key i hk=>by obtain⟨x,hx,_⟩:=Maps.keyOf_str underlying9 hk;exact⟨x,hx⟩) (fun v y _=>⟨v,rfl⟩) E r nn (Zl d) a cnt rfl HRG ?_ ?_)) | go_in)
  .intro _ hl0;obtain⟨L,e2,e3⟩:=uh HE a hl0;have hz:=uh HZZ;rw[L,e2,e3]at hz;have z0:=hz.c0;have z1:=hz.c1;have z2:=hz.c2;have V:=uh HR0;have r0:=V.c0;have r1:=V.c1;have r2:=V.c2;have q0:=V.fz 0;have q1:=V.fz 1;have q2:=V.fz 2;have RX:=zb (V.put (((DL+1:Nat)):Int) ((CL+1:Nat):Int) ((hold d.length+NL:Nat):Int) _ _ _ rfl rfl rfl);have BX:=zb (SF T (ye _) (ι κ ((DL+1:Nat):Int)) (ι κ ((CL+1:Nat):Int)) (ι κ ((hold d.length+NL:Nat):Int)));generalize DL+1=DD at *;generalize CL+1=CC at *;generalize hold d.length+NL=NN at *;go_wp2;try simp only[Exit.inBlock,Exit.then]
   refine bodyPost_ret (Nc rfl rfl RX) rfl ?_;exact⟨by rw[uh HR],BX⟩
  .intro x c i y1 y2 w2 cnt2 u hlk Z aa B hlt af hs2 hen;obtain⟨t,p,Y,W,nk,rfl,rfl,hxv,hxq,hd1,hc1,hn1,L,e2,e3,ab⟩:=uh HMEM a x c i y1 y2 u hlk (uh K i) Z aa;obtain⟨x1,x2,x3⟩:=uh HB1 a;have hrlt:=B.lt;have hrne:=B.ne;have bw2:=T.trans (KY af om T.size);have S2:=HZZ.grown af (by intro e;injection e with e;omega);have R2:=HR0.grown af (by intro e;injection e with e;omega);have H:=zb B;have HS2:=zb S2;have HR2:=zb R2;have o:=zb bw2;have HE1:=zb L;have HE2:=zb e2;have HE3:=zb e3;have s:=zb ab;have HCT:Hid (∀ w3,δ prog 40 #[φ 213 (ze x)] w3 fun e w'=>e=ε (σ (ze (quoted x)))/\Below w3 w3 w'):=fun w3=>by
    have h:=zkB (ze x) w3 (by rw[zL];omega);have e:quoted x=34 ::(rs (ze x)++[34]):=by rw[LV (ze x) (by rw[Zb];exact hxv),Zb];rfl
    rw[e];exact h
   have hqz:(ze (quoted x)).size=(quoted x).length:=zL _;have y1':w2.drew.cell? ⟨w1,2,ν⟩=η (ι κ ((hold d.length+qA qr a m.toL:Nat):Int)):=S2.c2;have hNN:hold d.length+qA qr a m.toL<=10000000:=om;generalize hNv:hold d.length+qA qr a m.toL=U at *;have HNV:=zb hNv;have hqn:(quoted x).length<=10000000:=om;generalize ze (quoted x)=qx at *;go_wp2_with fail;go_region_law (
           go_simp;go_call uh HCT _ as e w3 ⟨rfl,b3⟩;have S3:=Zp.below (w:=w2.drew) HS2 b3;have s3:=S3.c2;have f3:=S3.fz 2;have ZG:=zb S3;have n:=zb b3;clear S3 b3)
   all_goals
    clear HCT s3 f3 y1';have hw:Value.int .i64 (IntKind.i64.wrap ((U:Int)+IntKind.i64.wrap (((quoted x).length:Int)+1)))=Value.int .i64 ((U+((quoted x).length+1):Nat):Int):=by
     rw[IntWalk.i64_in (((quoted x).length:Int)+1) om,IntWalk.i64_in _ om];congr 1
    have S4:=Zp.set2 ZG ((U+((quoted x).length+1):Nat):Int) (U+((quoted x).length+1)) rfl;have g3:w2.grownBy w3 ν:=⟨n.os,n.tape,n.output,n.size,fun k hk _=>n.block k hk⟩;have g4:w2.grownBy (w3.setCell ⟨w1,2,ν⟩ (ι κ ((U+((quoted x).length+1):Nat):Int))) (η w1):=(World.grownBy.but g3 (η w1)).andThen (Nd _ _ _) (fun j e=>.inr e);have I:=zb (H.kept g4 (by intro e;injection e with e;omega) (by intro e;injection e with e;omega));have HR4:=zb (HR2.grown g4 (by intro e;injection e with e;omega));have b4:=o.trans (KY g4 om o.size);have HI:=zb (Bx w1 _ _ _ Y W nk t p _ S4 om hd1 om hc1 om om (uh s _ b4));have R:=zb b4;have HS4:=zb S4;rw[hw];clear hw S4 g3 g4 b4 H HR2 o ZG n s;generalize w3.setCell ⟨w1,2,ν⟩ (ι κ ((U+((quoted x).length+1):Nat):Int))=W4 at *;go_wp2_with fail;go_call HI as e w5 ⟨rfl,z5,g5⟩;have J:=zb (I.kept g5 (by intro e;injection e with e;omega) (by intro e;injection e with e;omega));have HR5:=zb (HR4.grown g5 (by intro e;injection e with e;omega));have HB5:=zb (R.trans (KY g5 om R.size));have Z5:Hid (Zp w1 (QB (Jw a x) m.toL+1) (qA (fun q=>zn q.2) (Jw a x) m.toL+1) (hold d.length+qA qr (Jw a x) m.toL) w5):=by
     rw[uh HE1,uh HE2,uh HE3];rw[show max (QB a m.toL) Y+1=max (QB a m.toL+1) (Y+1) by omega,show qA (fun q=>zn q.2) a m.toL+W+1=qA (fun q=>zn q.2) a m.toL+1+W by omega,show hold d.length+(qA qr a m.toL+((quoted x).length+1+nk))=U+((quoted x).length+1)+nk by rw[← uh HNV];omega];exact z5
    clear HI z5 g5 I HR4 R HS4;go_wp2;go_roundw
   all_goals first
    | exact⟨Jw a x,cnt2,J,fun i h=>uh K i (by unfold Jw at h;rw[Bool.and_eq_true]at h;exact h.1),Z5,HR5,HB5⟩
    |(rw[J.left_eq,HRG.left_eq];omega)
theorem Fo (v:JV) (hok:zz v) (htw:zF v=ζ) (hd:zJ v=1) (hc:zn v=1)
  (h1:∀ (w w1:Wo) (S:Nat->Prop) (t:TypeId) (p:ω),zi w S v (φ t p)->(Instr.typeAssert (φ t p) 65 146 ξ).run prog w1= .ok (.tuple #[π ν,θ ζ]) w1)
  (h2:∀ (w w1:Wo) (S:Nat->Prop) (t:TypeId) (p:ω),zi w S v (φ t p)->(Instr.typeAssert (φ t p) 65 209 ξ).run prog w1= .ok (.tuple #[π ν,θ ζ]) w1):YI v:=by
 intro w S t p h b d a _ _;rw[hd,hc];refine zeb t p (ct v) w (fun w1=>h1 w w1 S t p h) (fun w1=>h2 w w1 S t p h) (fun w1 hb=>?_);exact Fg v hok htw t p w1 S (zi.keep (fun k hk=>hb.block k (b k hk)) (fun _ h=>h) _ _ h) (fun k hk=>yF (b k hk) hb.size) ((d.next hb (ye _)).more hb.size) a
theorem zeh:YI .nul:=Fo .nul trivial rfl rfl rfl
 (fun w w1 S t p h=>by rw[zi]at h;injection h with h1 h2;subst h1;subst h2;kernel_rfl) (fun w w1 S t p h=>by rw[zi]at h;injection h with h1 h2;subst h1;subst h2;kernel_rfl)
theorem zei:YI .tt:=Fo .tt trivial rfl rfl rfl
 (fun w w1 S t p h=>by rw[zi]at h;injection h with h1 h2;subst h1;subst h2;kernel_rfl) (fun w w1 S t p h=>by rw[zi]at h;injection h with h1 h2;subst h1;subst h2;kernel_rfl)
theorem zej:YI .ff:=Fo .ff trivial rfl rfl rfl
 (fun w w1 S t p h=>by rw[zi]at h;injection h with h1 h2;subst h1;subst h2;kernel_rfl) (fun w w1 S t p h=>by rw[zi]at h;injection h with h1 h2;subst h1;subst h2;kernel_rfl)
theorem zek(l:List UInt8)(hok:zz (.num l)):YI (.num l):=Fo (.num l) hok rfl rfl rfl
 (fun w w1 S t p h=>by rw[zi]at h;obtain⟨z,h,_⟩:=h;injection h with h1 h2;subst h1;subst h2;kernel_rfl) (fun w w1 S t p h=>by rw[zi]at h;obtain⟨z,h,_⟩:=h;injection h with h1 h2;subst h1;subst h2;kernel_rfl)
theorem zel(l:List UInt8)(hok:zz (.str l)):YI (.str l):=Fo (.str l) hok rfl rfl rfl
 (fun w w1 S t p h=>by rw[zi]at h;injection h with h1 h2;subst h1;subst h2;kernel_rfl) (fun w w1 S t p h=>by rw[zi]at h;injection h with h1 h2;subst h1;subst h2;kernel_rfl)
mutual
theorem Nf:∀ v:JV,zz v->zF v=ζ->YI v
 | .nul,_,_=>zeh
 | .tt,_,_=>zei
 | .ff,_,_=>zej
 | .num l,h,_=>zek l h
 | .str l,h,_=>zel l h
 | .arr l,h,t=>zef l (BI l (by rw[zz]at h;exact h) (by rw[zF]at t;exact t))
 | .obj m,h,t=>zeg m (BJ m [] (by rw[zz]at h;exact h) (by rw[zF]at t;exact t)) (Sv m (by rw[zz]at h;exact h)) (FI m [] (by rw[zF]at t;exact t)).1
theorem BI:∀ l:JL,qT l->qh l=ζ->∀ v∈l.toL,YI v
 | .nil,_,_,v,hv=>by simp[JL.toL]at hv
 | .cons x r,h,t,v,hv=>by
  rw[qT]at h;rw[qh,Bool.or_eq_false_iff]at t;rw[JL.toL]at hv;rcases List.mem_cons.1 hv with e | hv
  .rw[e];exact Nf x h.1 t.1
  .exact BI r h.2 t.2 v hv
theorem BJ:∀ (m:JM) (ks:List (List UInt8)),qR m->Z6 ks m=ζ->∀ q∈m.toL,YI q.2
 | .nil,_,_,_,q,hq=>by simp[JM.toL]at hq
 | .cons k x r,ks,h,t,q,hq=>by
  rw[qR]at h;rw[Z6]at t;simp only[Bool.or_eq_false_iff]at t;rw[JM.toL]at hq;rcases List.mem_cons.1 hq with e | hq
  .rw[e];exact Nf x h.2.1 t.1.1
  .exact BJ r (ks++[k]) h.2.2 t.2 q hq
end
abbrev KZ:=List UInt8×ω×ω
structure SM(w:Wo)(B:Nat)(S1 S2:Nat->Prop):Prop where
 apart:∀ k,S1 k->¬ S2 k
 lt1:∀ k,S1 k->k<B
 lt2:∀ k,S2 k->k<B
 size:B<=w.heap.size
 pow:JJ B w
theorem SM.next(h:SM w B S1 S2)(hb:Below B w w'):SM w' B S1 S2:=⟨h.apart,h.lt1,h.lt2,yQ h.size hb.size,h.pow.next hb (ye _)⟩
def FO(v:ω):Prop:=v= .nilIface∨∃ t q,v=φ t q
def PW(P:KZ->Prop)(w:Wo)(S1 S2:Nat->Prop)(p:List UInt8)(oa ob:Option JV):Prop:=∀ ts v1 v2,UG w S1 (Pz oa ts) v1->UG w S2 (Pz ob ts) v2->P (zay p ts,v1,v2)
theorem PW.here{P:KZ->Prop}{p:List UInt8}{oa ob:Option JV}(h:PW P w S1 S2 p oa ob){v1 v2:ω}(h1:UG w S1 oa v1)(h2:UG w S2 ob v2):P (p,v1,v2):=h [] v1 v2 (by rw[zaz];exact h1) (by rw[zaz];exact h2)
def ZM(P:KZ->Prop)(zs:List KZ)(L:List (List UInt8)):Prop:=zs.map (·.1)=L/\∀ z∈zs,FO z.2.1/\FO z.2.2/\P z
theorem ZM.mono{P Q:KZ->Prop}{zs:List KZ}{L:List (List UInt8)}(h:ZM P zs L)(hq:∀ z,P z->Q z):ZM Q zs L:=⟨h.1,fun z hz=>⟨(h.2 z hz).1,(h.2 z hz).2.1,hq z (h.2 z hz).2.2⟩⟩
theorem zem{S:Nat->Prop}{a:JV}{v:ω}(h:zi w S a v)(hn:kd a≠5):∀ X:Wo,(Instr.typeAssert v 65 146 ξ).run prog X= .ok (.tuple #[π ν,θ ζ]) X:=by
 intro X
 cases a with
 | nul=>rw[zi]at h;subst h;kernel_rfl
 | tt=>rw[zi]at h;subst h;kernel_rfl
 | ff=>rw[zi]at h;subst h;kernel_rfl
 | num l=>rw[zi]at h;obtain⟨z,h,_⟩:=h;subst h;kernel_rfl
 | str l=>rw[zi]at h;subst h;kernel_rfl
 | arr l=>exact absurd rfl hn
 | obj m=>rw[zi]at h;obtain⟨f,b,d,g,h,_⟩:=h;subst h;kernel_rfl
theorem zen(g:Addr)(X:Wo):(Instr.typeAssert (φ 146 (π (η g))) 65 146 ξ).run prog X= .ok (.tuple #[π (η g),θ ξ]) X:=by kernel_rfl
