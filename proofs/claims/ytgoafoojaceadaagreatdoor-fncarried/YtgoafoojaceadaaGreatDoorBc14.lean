import Derived.Test.YtgoafoojaceadaaGreatDoorBc7
import Derived.Test.YtgoafoojaceadaaGreatDoorBc12
set_option maxRecDepth 100000
set_option maxHeartbeats 8000000
open Go renaming Calls->δ,Value->ω
open Go.Ending renaming returned->ε
open Go.IntKind renaming i64->κ
open Go.Obj renaming cells->χ
open Go.RowKit.Below renaming heap_setCell->Β
open Go.Value renaming agg->γ,bool->θ,iface->φ,int->ι,pointer->π,string->σ,tuple->τ
open _root_.Bool renaming and_eq_true->Γ,false->ζ,or_false->Α,true->ξ
open _root_.Option renaming none->ν,some->η
namespace Go.Proofs.YtgoafoojaceadaaGreatDoor
open Go.RowKit Go.Proofs.Tryz
variable{t:TypeId}{w w' a:Wo}{s:Bs}{rb i b sc B:Nat}{tb kt:Bool}{v:ω}{p:Addr}
theorem zdG(p:Addr)(w:Wo):
  CallsD prog 128 #[π (η p)] .returning w fun e u' w'=>e=ε (τ #[])/\u'= .returning/\w'=w:=by
 refine callsD_of_wpS func128 rfl fun c₀ cs hu=>?_;apply wpS_seq;apply wpS_region;simp[wpOpsS,go_sem,recoverD,hu,ntmps128,Exit.thenS];refine wpS_of_wp ?_;go_wp2
 cases c₀
 simp_all [bodyPostS,results,Tryz.results128]
theorem zdH(p:Addr)(x:ω)(older:List PanicEntry)(w:Wo)(hc:(w.alloc (χ #[] 204)).cell? p=η x)(hz:(w.alloc (χ #[] 204)).frozen? p=ζ):
  CallsD prog 128 #[π (η p)] (.panicking ({v:=φ 204 (γ #[]),recovered:=ζ} :: older)) w fun e u' w'=>
   e=ε (τ #[])/\u'= .panicking ({v:=φ 204 (γ #[]),recovered:=ξ} :: older)/\w'=(w.alloc (χ #[] 204)).setCell p (θ ζ):=by
 have a:∀ w:Wo,(Instr.typeAssert (φ 204 (γ #[])) 20 204 ξ).run prog w= .ok (.tuple #[γ #[],θ ξ]) w:=fun _=>by kernel_rfl
 refine callsD_of_wpS func128 rfl fun c₀ cs hu=>?_;apply wpS_seq;apply wpS_region;simp[wpOpsS,go_sem,recoverD,hu,ntmps128,Exit.thenS];refine wpS_of_wp ?_;go_wp2
 simp_all [bodyPostS,results,Tryz.results128]
def SK(ob:Nat)(w:Wo):Prop:=w.heap[ob]?=η (χ #[θ ζ] 4 (0,0))
theorem zdI (F:FuncId) (caps:Array ω) (w:Wo) (Q:Wo->Prop) (hent:∀ args (w:Wo),(callFunc F args).run prog w= .ok (.enter F args) w)
  (hc:δ prog F caps (w.alloc (χ #[θ ζ] 4)) fun e w'=>e=ε (τ #[])/\SK w w'/\Q w'):
  δ prog 77 #[.func (.func F) #[] caps] w fun e w'=>e=ε (θ ξ)/\∃ w1,Q w1/\w'=w1.setCell w (θ ξ):=by
 have h:∀ (fn:Fn) (first cap:Array ω) (w:Wo),(Instr.makeFunc fn first cap).run prog w= .ok (.func fn first cap) w:=fun _ _ _ _=>rfl;have b:=zb hc;go_enter_defers func77,ntmps77;go_wp2_with fail;refine b.mono ?_;rintro e w1 ⟨rfl,a,i⟩;have c0:w1.cell? w.heap.size=η (θ ζ):=by rw[yG a];rfl
 have l:=yJ a 0;have d:=zb i;have g:Hid ((w1.setCell w (θ ξ)).cell? w.heap.size=η (θ ξ)):=by
  have:=heap_setCell_same w1 w 0 _ 4 (θ ξ) a;show _=_
  rw[yG this];rfl
 go_wp2;refine leaves_cons (f:=128) (args:=#[w]) (by simp) (by simp[go_sem]) ?_;refine (zdG w _).mono ?_;rintro e m k ⟨rfl,rfl,rfl⟩;have j:=uh g;simp[Leaves,settle,results,Tryz.results77,go_sem,j];exact⟨w1,d,rfl⟩
theorem zdJ (F:FuncId) (caps:Array ω) (w:Wo) (Q:Wo->Prop) (hent:∀ args (w:Wo),(callFunc F args).run prog w= .ok (.enter F args) w)
  (hc:δ prog F caps (w.alloc (χ #[θ ζ] 4)) fun e w'=>e=JW/\SK w w'/\Q w'):
  δ prog 77 #[.func (.func F) #[] caps] w fun e w'=>e=ε (θ ζ)/\∃ w1,Q w1/\w'=(w1.alloc (χ #[] 204)).setCell w.heap.size (θ ζ):=by
 have k:∀ (fn:Fn) (first cap:Array ω) (w:Wo),(Instr.makeFunc fn first cap).run prog w= .ok (.func fn first cap) w:=fun _ _ _ _=>rfl;have g:=zb hc;go_enter_defers func77,ntmps77;go_wp2_with fail;refine g.mono ?_;rintro e w1 ⟨rfl,d,l⟩;have b:=(yC.1 d).1;have a:(w1.alloc (χ #[] 204)).heap[w.heap.size]?=η (χ #[θ ζ] 4 (0,0)):=(Lib.alloc_old w1 _ _ b).trans d;have c0:(w1.alloc (χ #[] 204)).cell? w.heap.size=η (θ ζ):=by rw[yG a];rfl
 have j:=yJ a 0;have h:=zb l;have i:Hid (((w1.alloc (χ #[] 204)).setCell w (θ ζ)).cell? w.heap.size=η (θ ζ)):=by
  have:=heap_setCell_same (w1.alloc (χ #[] 204)) w 0 _ 4 (θ ζ) a;show _=_
  rw[yG this];rfl
 refine leaves_cons (f:=128) (args:=#[w]) (by simp) (by simp[go_sem]) ?_;refine (zdH w _ [] _ c0 j).mono ?_;rintro e o n ⟨rfl,rfl,rfl⟩;have m:=uh i;simp[Leaves,settle,results,Tryz.results77,go_sem,m];exact⟨w1,h,rfl⟩
structure JJ(rb sc:Nat)(w w':Wo):Prop where
 os:w'.os=w.os
 tape:w'.tape=w.tape
 output:w'.output=w.output
 size:w.heap.size<=w'.heap.size
 block:∀ k,k<w.heap.size->k≠rb->k≠sc->w'.heap[k]?=w.heap[k]?
theorem KB.two(h:KB rb w w')(sc:Nat):JJ rb sc w w':=⟨h.os,h.tape,h.output,h.size,fun k hk h1 _=>h.block k hk h1⟩
theorem JJ.trans{b c:Wo}(h:JJ rb sc a b)(k:JJ rb sc b c):JJ rb sc a c:=
 ⟨k.os.trans h.os,k.tape.trans h.tape,k.output.trans h.output,yQ h.size k.size,fun i hi h1 h2=>(k.block i (yF hi h.size) h1 h2).trans (h.block i hi h1 h2)⟩
theorem JJ.set(h:JJ rb sc a w)(j:Nat)(v:ω):JJ rb sc a (w.setCell ⟨sc,j,ν⟩ v):=
 h.trans ⟨rfl,rfl,rfl,by simp[World.setCell],fun k _ _ hn=>Β _ _ _ _ hn⟩
def qX(b:Nat)(t:TypeId)(v:ω)(w:Wo):Prop:=w.heap[b]?=η (χ #[v] t (0,0))
theorem qX.cell(h:qX b t v w):w.cell? b=η v:=by rw[yG h];rfl
theorem qX.frozen(h:qX b t v w):w.frozen? b=ζ:=yJ h 0
theorem qX.lt(h:qX b t v w):b<w.heap.size:=(yC.1 h).1
theorem qX.kb(h:qX b t v w)(k:KB rb w w')(hn:b≠rb):qX b t v w':=(k.block b h.lt hn).trans h
theorem qX.set(h:qX b t v w)(v':ω):qX b t v' (w.setCell b v'):=heap_setCell_same w b 0 _ t v' h
theorem qX.other(h:qX b t v w)(hp:b≠p.block)(v':ω):qX b t v (w.setCell p v'):=(Β w p v' b hp).trans h
theorem zr.other(h:zr rb s i tb kt w)(hp:rb≠p.block)(v':ω):zr rb s i tb kt (w.setCell p v'):=(Β w p v' rb hp).trans h
theorem Bq(w:Wo):SK w (w.alloc (χ #[θ ζ] 4)):=yH w _
theorem JJ.below(h:JJ rb sc w w')(h1:B<=rb)(h2:B<=sc)(hs:B<=w.heap.size):Below B w w':=⟨h.os,h.tape,h.output,h.size,fun k hk=>h.block k om om om⟩
def Jj(B:Nat)(w:Wo):Prop:=5<B/\∃ te pe,w.cell? ⟨5,0,ν⟩=η (φ te pe)
theorem Jj.next{B':Nat}(h:Jj B w)(hb:Below B' w w')(hB:B<=B'):Jj B w':=by
 obtain⟨a,f,d,b⟩:=h;exact⟨a,f,d,(hb.cell (p:=⟨5,0,ν⟩) (yF a hB)).trans b⟩
theorem Br(l:List UInt8)(z:Int)(w:Wo)(hl:l.length<=100000)(h:Lib.parseIntB 64 l= .ok z):
  δ prog 215 #[(ze l),ι κ 10,ι κ 64] w fun e w'=>e=ε (τ #[ι κ z,.nilIface])/\Below w w w':=by
 go_call Tryz.strconv_ParseInt_10_at64_ok (ze l) (by rw[zK];omega) z (by rw[Zb];exact h) w as e w' ⟨rfl,rfl |⟨t,rfl⟩⟩
 .exact⟨rfl,yI _ _⟩
 .exact⟨rfl,Lib.bytesWorld_below w _ t⟩
theorem Bt(l:List UInt8)(B:Nat)(w:Wo)(hl:l.length<=100000)(hE:Jj B w)(h:Lib.parseIntB 64 l= .range):
  δ prog 215 #[(ze l),ι κ 10,ι κ 64] w fun e w'=>∃ (z:Int) (t:TypeId) (p:ω),e=ε (τ #[ι κ z,φ t p])/\Below w w w':=by
 obtain⟨_,d,a,f⟩:=hE;go_call Tryz.strconv_ParseInt_10_at64_range (ze l) (by rw[zK];omega) (by rw[Zb];exact h) (φ d a) w f (.inr ⟨d,a,rfl⟩) as e w' ⟨N,rfl,_,_,b⟩;exact⟨_,_,_,rfl,b⟩
theorem zr.bigc(h:zr rb s i tb kt w):w.cell? ⟨rb,2,ν⟩=η (θ tb):=by rw[yG h];rfl
theorem zr.fz(h:zr rb s i tb kt w)(k:Nat):w.frozen? ⟨rb,k,ν⟩=ζ:=yJ h k
theorem zr.setBig(h:zr rb s i tb kt w):zr rb s i ξ kt (w.setCell ⟨rb,2,ν⟩ (θ ξ)):=heap_setCell_same w rb 2 _ 140 (θ ξ) h
def zdK(rb:Nat)(s:Bs)(tb kt:Bool)(w:Wo)(o:Option (List UInt8×Nat))(e:Ending)(w':Wo):Prop:=
 KB rb w w'/\o.elim (e=JW) fun q=>∃ z:Int,e=ε (φ 299 (ι κ z))/\zr rb s q.2 (tb || Jk q.1) kt w'/\(Jk q.1=ζ->Lib.itoa z=q.1/\-9223372036854775808<=z/\z<=9223372036854775807)
theorem zdL(rb:Nat)(s:Bs)(i:Nat)(tb kt:Bool)(w:Wo)(h:zr rb s i tb kt w)(hs:s.size<=100000)(hi:i<=s.size)(B:Nat)(hE:Jj B w)(hB:B<=rb):
  δ prog 179 #[rb] w (zdK rb s tb kt w (nm s i)):=by
 have ca:=h.at;have hlt:=h.lt;have H:=zb h;have HE:=zb hE;have hd1:i<=Za s i:=by unfold Za;split<;>omega
 have O:Za s i<=s.size:=by
  unfold Za;split
  .have:=Zf (s:=s) (i:=i) om;omega
  .exact hi
 have S:Hid (∀ w1,zr rb s i tb kt w1->δ prog 173 #[rb,.int .u8 45] w1 fun e w'=>(∃ b,e=ε (θ b))/\zr rb s (Za s i) tb kt w'/\KB rb w1 w'):=fun w1 h1=>by
  by_cases g:bt s i=45
  .have:=Wq rb s i tb kt w1 h1 om 45 g (Zf om);rw[show Za s i=i+1 by unfold Za;rw[yg g]];exact this.mono fun e w' ⟨he,r⟩=>⟨⟨_,he⟩,r⟩
  .have:=GA rb s i tb kt w1 h1 hi 45 (.inl g);rw[show Za s i=i by unfold Za;rw[yf g]];exact this.mono fun e w' ⟨he,r⟩=>⟨⟨_,he⟩,r⟩
 have P:Hid (nm s i=if zS (bt s (Za s i))=ξ then η (QE (Zr s i (qJ s i)),qJ s i)else ν):=rfl;have Q:Hid (qJ s i=if bt s (Za s i)=48 then Za s i+1 else dg s (Za s i)):=rfl;have R:=zb fun l j (h:nm s i=η (l,j))=>zja h;clear h hE;generalize hde:Za s i=d at *;go_in;go_wp2_with fail;go_call uh S _ (uh H) as e w1 ⟨⟨b0,rfl⟩,r1,k1⟩;have v:=zb (DZ rb s d tb kt w1 r1 O);clear ca S r1;go_wp2_with fail;go_call v as e w2 ⟨rfl,r2,k2⟩;have R2:=zb r2;have U:=zb (k1.trans k2);have u:=zb (RT (bt s d) w2 (qo s d));clear v r2 k1 k2;go_wp2_with fail;go_call u as e w3 ⟨rfl,rfl⟩
 cases hdg:zS (bt s d)with
 | false=>
  have Z:Hid (nm s i=ν):=by
   show _=_
   rw[uh P,yf (by rw[hdg];simp)]
  clear hdg;go_wp2;exact⟨rfl,U,by rw[uh Z];rfl⟩
 | true=>
  have hdI:=QU.1 hdg;have X:d<s.size:=Zf om;have Z:Hid (nm s i=η (QE (Zr s i (qJ s i)),qJ s i)):=by
   show _=_
   rw[uh P,yg hdg]
  by_cases q:bt s d=48
  .have N:qJ s i=d+1:=by rw[uh Q,yg q]
   have x:=zb (Wq rb s d tb kt w2 R2 om 48 q X);clear q hdg hdI;go_wp2_with fail;go_call x as e w4 ⟨rfl,r4,k4⟩;have I:=zb r4;have L:=zb (U.trans k4);clear x r4 k4 R2 U;have a:=XF s i (d+1);have m:(Zr s i (d+1)).length<=100000:=by unfold Zr;rw[ym,yv,Zk];omega
   have hcz:(s.extract i (d+1)).size<=100000:=by rw[a,zK];exact m
   have c0:w4.drew.cell? rb=η s:=I.text;have c1:w4.drew.cell? ⟨rb,1,ν⟩=η (ι κ ((d:Int)+1)):=by
    have:=I.at;exact this
   have i1:(i:Int)<=((d:Int)+1):=om;have i2:((d:Int)+1)<=(s.size:Int):=om;have i3:(0:Int)<=(i:Int):=om;have y:=I.lt;have A:=L.size;have K:=zb (HE.next (L.below hB om).drew (ye _));have n:Hid (nm s i=η (QE (Zr s i (d+1)),d+1)):=zb (by rw[uh Z,N]);have G:=uh R _ _ n
   cases htb:Jk (QE (Zr s i (d+1)))with
   | false=>
    obtain⟨z,C,D,E,F⟩:=G.1 htb;have k:Hid (δ prog 215 #[σ (s.extract i (d+1)),ι κ 10,ι κ 64] w4.drew fun e w'=>e=ε (τ #[ι κ z,.nilIface])/\Below w4.drew.heap.size w4.drew w'):=by
     rw[a];exact Br _ z _ m C
    have HZ:Hid (Lib.itoa z=QE (Zr s i (d+1))/\-9223372036854775808<=z/\z<=9223372036854775807):=⟨D,E,F⟩;clear G C D E F a m;go_wp2_with fail;go_region_law (go_simp;go_call k as e w9 ⟨rfl,b9⟩)
    all_goals
     have f:Below w4 w4 w9:=⟨b9.os,b9.tape,b9.output,b9.size,b9.block⟩;have o:=zb (I.below' (w':=w9) (B:=w4.heap.size) f y);have M:=L.then_below (f.mono A);clear k b9 f c0 c1;go_wp2;go_ret;refine⟨M,?_⟩;rw[uh n];exact⟨z,rfl,by rw[htb,Α];exact uh o,fun _=>uh HZ⟩
   | true=>
    have k:Hid (δ prog 215 #[σ (s.extract i (d+1)),ι κ 10,ι κ 64] w4.drew fun e w'=>∃ (z:Int) (t:TypeId) (p:ω),e=ε (τ #[ι κ z,φ t p])/\Below w4.drew.heap.size w4.drew w'):=by
     rw[a];exact Bt _ B _ m K (G.2 htb)
    clear G a m;go_wp2_with fail;go_region_law (go_simp;go_call k as e w9 ⟨z,t,p,rfl,b9⟩)
    all_goals
     have f:Below w4 w4 w9:=⟨b9.os,b9.tape,b9.output,b9.size,b9.block⟩;have o:=I.below' (w':=w9) (B:=w4.heap.size) f y;have M:=L.then_below (f.mono A);have c2:=o.bigc;have f2:=o.fz 2;have RR:=zb o.setBig;clear k b9 f c0 c1 o;go_wp2;go_ret;refine⟨M.set 2 _,?_⟩;rw[uh n];exact⟨z,rfl,by rw[htb,Bool.or_true];exact uh RR,fun h=>by rw[htb]at h;cases h⟩
  .have W:qJ s i=dg s d:=by rw[uh Q,yf q]
   have x:=zb (GA rb s d tb kt w2 R2 O 48 (.inl q));clear q;go_wp2_with fail;go_call x as e w4 ⟨rfl,r4,k4⟩;have I:=zb r4;have L:=zb (U.trans k4);clear x r4 k4 R2 U;go_wp2_with fail;go_loopg [] (s.size - d) (fun g wr=>∃ j:Nat,g=s.size - j/\d<=j/\j<=s.size/\zr rb s j tb kt wr/\KB rb w wr/\dg s d=dg s j/\(d<j∨j=d))
   case atStart=>exact⟨d,rfl,ye _,O,I,L,rfl,.inr rfl⟩
   case round=>
    obtain⟨j,hg,hj1,hj2,hr,hk,Y,hj3⟩:=hrel;have v:=zb (DZ rb s j tb kt wr hr hj2);have HK:=zb hk;have T:=zb Y;clear hr hk Y I L;go_wp2_with fail;go_call v as e w5 ⟨rfl,r5,k5⟩;have J:=zb r5;have V:=zb (HK.trans k5);have u:=zb (RT (bt s j) w5 (qo s j));clear v r5 k5 HK;go_wp2_with fail;go_call u as e w6 ⟨rfl,rfl⟩
    cases hjd:zS (bt s j)with
    | true=>
     have hjlt:j<s.size:=Zf (by have:=QU.1 hjd;omega);have HX:Hid (dg s d=dg s (j+1)):=zb (by rw[uh T,Wu hjd]);have c1:=J.at;have f1:=J.frozen;have R6:=zb (J.set ((j:Int)+1) (j+1) om);clear hjd u;go_wp2;go_roundg (s.size - (j+1))
     case rel=>exact⟨j+1,rfl,om,om,R6,V.set 1 _,HX,.inl om⟩
     case measure=>omega
    | false=>
     have N:qJ s i=j:=by rw[W,uh T,XA (by rw[hjd];simp)]
     have hij:i<=j:=om;clear hjd u hj3;have a:=XF s i (j);have m:(Zr s i (j)).length<=100000:=by unfold Zr;rw[ym,yv,Zk];omega
     have hcz:(s.extract i (j)).size<=100000:=by rw[a,zK];exact m
     have c0:w5.drew.cell? rb=η s:=J.text;have c1:w5.drew.cell? ⟨rb,1,ν⟩=η (ι κ (j:Int)):=by
      have:=J.at;exact this
     have i1:(i:Int)<=(j:Int):=om;have i2:(j:Int)<=(s.size:Int):=om;have i3:(0:Int)<=(i:Int):=om;have y:=J.lt;have A:=V.size;have K:=zb (HE.next (V.below hB om).drew (ye _));have n:Hid (nm s i=η (QE (Zr s i (j)),j)):=zb (by rw[uh Z,N]);have G:=uh R _ _ n
     cases htb:Jk (QE (Zr s i (j)))with
     | false=>
      obtain⟨z,C,D,E,F⟩:=G.1 htb;have k:Hid (δ prog 215 #[σ (s.extract i (j)),ι κ 10,ι κ 64] w5.drew fun e w'=>e=ε (τ #[ι κ z,.nilIface])/\Below w5.drew.heap.size w5.drew w'):=by
       rw[a];exact Br _ z _ m C
      have HZ:Hid (Lib.itoa z=QE (Zr s i (j))/\-9223372036854775808<=z/\z<=9223372036854775807):=⟨D,E,F⟩;clear G C D E F a m;go_wp2_with fail;go_region_law (go_simp;go_call k as e w9 ⟨rfl,b9⟩)
      all_goals
       have f:Below w5 w5 w9:=⟨b9.os,b9.tape,b9.output,b9.size,b9.block⟩;have o:=zb (J.below' (w':=w9) (B:=w5.heap.size) f y);have M:=V.then_below (f.mono A);clear k b9 f c0 c1;go_wp2;go_ret;refine⟨M,?_⟩;rw[uh n];exact⟨z,rfl,by rw[htb,Α];exact uh o,fun _=>uh HZ⟩
     | true=>
      have k:Hid (δ prog 215 #[σ (s.extract i (j)),ι κ 10,ι κ 64] w5.drew fun e w'=>∃ (z:Int) (t:TypeId) (p:ω),e=ε (τ #[ι κ z,φ t p])/\Below w5.drew.heap.size w5.drew w'):=by
       rw[a];exact Bt _ B _ m K (G.2 htb)
      clear G a m;go_wp2_with fail;go_region_law (go_simp;go_call k as e w9 ⟨z,t,p,rfl,b9⟩)
      all_goals
       have f:Below w5 w5 w9:=⟨b9.os,b9.tape,b9.output,b9.size,b9.block⟩;have o:=J.below' (w':=w9) (B:=w5.heap.size) f y;have M:=V.then_below (f.mono A);have c2:=o.bigc;have f2:=o.fz 2;have RR:=zb o.setBig;clear k b9 f c0 c1 o;go_wp2;go_ret;refine⟨M.set 2 _,?_⟩;rw[uh n];exact⟨z,rfl,by rw[htb,Bool.or_true];exact uh RR,fun h=>by rw[htb]at h;cases h⟩
theorem Yq.from{w1:Wo}{o:Option (JV×Nat)}{e:Ending}(k:KB rb w w1)(h:Yq rb s tb kt w1 o e w'):Yq rb s tb kt w o e w':=by
 obtain⟨g,f⟩:=h;refine⟨k.trans g,?_⟩
 cases o with
 | none=>exact f
 | some q=>
  obtain⟨t,p,i,j,d⟩:=f;exact⟨t,p,i,j,fun a b=>zj.keep (fun _ _=>rfl) (fun k' hk=>⟨yQ k.size hk.1,hk.2⟩) _ _ (d a b)⟩
theorem Bu(s:Bs)(i:Nat):XS s i ⟨#[110,117,108,108]⟩↔Ju s i=ξ:=by
 unfold Ju;simp only[Γ,yD];constructor
 .intro h;exact⟨⟨⟨h 0 dc,h 1 dc⟩,h 2 dc⟩,h 3 dc⟩
 .rintro⟨⟨⟨a,b⟩,d⟩,f⟩ k g;have j:k<4:=g;rcases (show k=0∨k=1∨k=2∨k=3 by omega)with rfl | rfl | rfl | rfl
  .exact a
  .exact b
  .exact d
  .exact f
theorem Bv(s:Bs)(i:Nat):XS s i ⟨#[116,114,117,101]⟩↔JD s i=ξ:=by
 unfold JD;simp only[Γ,yD];constructor
 .intro h;exact⟨⟨⟨h 0 dc,h 1 dc⟩,h 2 dc⟩,h 3 dc⟩
 .rintro⟨⟨⟨a,b⟩,d⟩,f⟩ k g;have j:k<4:=g;rcases (show k=0∨k=1∨k=2∨k=3 by omega)with rfl | rfl | rfl | rfl
  .exact a
  .exact b
  .exact d
  .exact f
theorem Bx(s:Bs)(i:Nat):XS s i ⟨#[102,97,108,115,101]⟩↔JY s i=ξ:=by
 unfold JY;simp only[Γ,yD];constructor
 .intro h;exact⟨⟨⟨⟨h 0 dc,h 1 dc⟩,h 2 dc⟩,h 3 dc⟩,h 4 dc⟩
 .rintro⟨⟨⟨⟨a,b⟩,d⟩,f⟩,g⟩ k j;have l:k<5:=j;rcases (show k=0∨k=1∨k=2∨k=3∨k=4 by omega)with rfl | rfl | rfl | rfl | rfl
  .exact a
  .exact b
  .exact d
  .exact f
  .exact g
theorem SM(h45:bt s i≠45)(h:¬ zS (bt s i)=ξ):nm s i=ν:=by
 unfold nm;rw[show Za s i=i by unfold Za;rw[yf h45],yf h]
theorem SO(h:Ju s i=ξ):bt s i=110:=by simp[Ju]at h;exact h.1.1.1
theorem SP(h:JD s i=ξ):bt s i=116:=by simp[JD]at h;exact h.1.1.1
theorem SQ(h:JY s i=ξ):bt s i=102:=by simp[JY]at h;exact h.1.1.1.1
theorem zdM(h:bt s i=110):val s i=if Ju s i=ξ then η (.nul,i+4)else ν:=by
 rw[Wv om om om];split
 .rfl
 .rw[yf (fun g=>by have:=SP g;omega),yf (fun g=>by have:=SQ g;omega),SM om (by rw[h];decide)];rfl
theorem zdN(h:bt s i=116):val s i=if JD s i=ξ then η (.tt,i+4)else ν:=by
 rw[Wv om om om,yf (fun g=>by have:=SO g;omega)];split
 .rfl
 .rw[yf (fun g=>by have:=SQ g;omega),SM om (by rw[h];decide)];rfl
theorem zdO(h:bt s i=102):val s i=if JY s i=ξ then η (.ff,i+5)else ν:=by
 rw[Wv om om om,yf (fun g=>by have:=SO g;omega),yf (fun g=>by have:=SP g;omega)];split
 .rfl
 .rw[SM om (by rw[h];decide)];rfl
theorem zdP(h1:bt s i≠91)(h2:bt s i≠123)(h3:bt s i≠34)(h4:bt s i≠110)(h5:bt s i≠116)(h6:bt s i≠102):val s i=(nm s i).map fun q=>(.num q.1,q.2):=by
 rw[Wv h1 h2 h3,yf (fun g=>h4 (SO g)),yf (fun g=>h5 (SP g)),yf (fun g=>h6 (SQ g))]
theorem Bz (rb:Nat) (s:Bs) (i:Nat) (tb kt:Bool) (w:Wo) (h:zr rb s i tb kt w) (hs:s.size<=100000) (hi:i<=s.size) (B:Nat) (hT:Qd B w) (hE:Jj B w) (hB:B<=rb)
  (HA:∀ w1,zr rb s i tb kt w1->KB rb w w1->bt s i=91->δ prog 177 #[rb] w1 (Yq rb s tb kt w1 (val s i)))
  (HO:∀ w1,zr rb s i tb kt w1->KB rb w w1->bt s i=123->δ prog 178 #[rb] w1 (Yq rb s tb kt w1 (val s i))):
  δ prog 130 #[rb] w (Yq rb s tb kt w (val s i)):=by
 have K:=h.lt;have H:=zb (DZ rb s i tb kt w h hi);have x:=zb HA;have y:=zb HO;have I:=zb hT;have G:=zb hE;go_in;go_wp2_with fail;go_call H as e w1 ⟨rfl,r1,k1⟩;have m:=zb r1;by_cases D:bt s i=110
 .have v:((bt s i:Int) ==110)=ξ:=by rw[yD];omega
  have f:=zb (zdM D)
  cases hw:Ju s i with
  | true=>
   have k:=zb (Rd rb s i tb kt w1 m om ⟨#[110,117,108,108]⟩ dc (XB hw) ((Bu s i).2 hw));have HR:Hid (val s i=η (.nul,i+4)):=zb (by rw[uh f,yg hw]);go_wp2_with fail;go_call k as e w2 ⟨rfl,r2,a⟩;have o:=zb r2;have n:=k1.trans a;go_wp2;go_ret;refine⟨n,?_⟩;rw[uh HR];exact⟨_,_,rfl,by simp only[zY,zF,Α];exact uh o,fun _ _=>by rw[zj]⟩
  | false=>
   have k:=zb (Re rb s i tb kt w1 m om ⟨#[110,117,108,108]⟩ dc dc hi (fun g=>by rw[(Bu s i).1 g]at hw;cases hw));have HR:Hid (val s i=ν):=by show _=_;rw[uh f,yf (by rw[hw];simp)]
   go_wp2_with fail;go_call k as e w2 ⟨rfl,a⟩;exact⟨rfl,k1.trans a,by rw[uh HR];rfl⟩
 have L:((bt s i:Int) ==110)=ζ:=by rw[yd];omega
 by_cases u:bt s i=116
 .have v:((bt s i:Int) ==116)=ξ:=by rw[yD];omega
  have f:=zb (zdN u)
  cases hw:JD s i with
  | true=>
   have k:=zb (Rd rb s i tb kt w1 m om ⟨#[116,114,117,101]⟩ dc (XC hw) ((Bv s i).2 hw));have HR:Hid (val s i=η (.tt,i+4)):=zb (by rw[uh f,yg hw]);go_wp2_with fail;go_call k as e w2 ⟨rfl,r2,a⟩;have o:=zb r2;have n:=k1.trans a;go_wp2;go_ret;refine⟨n,?_⟩;rw[uh HR];exact⟨_,_,rfl,by simp only[zY,zF,Α];exact uh o,fun _ _=>by rw[zj]⟩
  | false=>
   have k:=zb (Re rb s i tb kt w1 m om ⟨#[116,114,117,101]⟩ dc dc hi (fun g=>by rw[(Bv s i).1 g]at hw;cases hw));have HR:Hid (val s i=ν):=by show _=_;rw[uh f,yf (by rw[hw];simp)]
   go_wp2_with fail;go_call k as e w2 ⟨rfl,a⟩;exact⟨rfl,k1.trans a,by rw[uh HR];rfl⟩
 have M:((bt s i:Int) ==116)=ζ:=by rw[yd];omega
 by_cases C:bt s i=102
 .have v:((bt s i:Int) ==102)=ξ:=by rw[yD];omega
  have f:=zb (zdO C)
  cases hw:JY s i with
  | true=>
   have k:=zb (Rd rb s i tb kt w1 m om ⟨#[102,97,108,115,101]⟩ dc (FQ hw) ((Bx s i).2 hw));have HR:Hid (val s i=η (.ff,i+5)):=zb (by rw[uh f,yg hw]);go_wp2_with fail;go_call k as e w2 ⟨rfl,r2,a⟩;have o:=zb r2;have n:=k1.trans a;go_wp2;go_ret;refine⟨n,?_⟩;rw[uh HR];exact⟨_,_,rfl,by simp only[zY,zF,Α];exact uh o,fun _ _=>by rw[zj]⟩
  | false=>
   have k:=zb (Re rb s i tb kt w1 m om ⟨#[102,97,108,115,101]⟩ dc dc hi (fun g=>by rw[(Bx s i).1 g]at hw;cases hw));have HR:Hid (val s i=ν):=by show _=_;rw[uh f,yf (by rw[hw];simp)]
   go_wp2_with fail;go_call k as e w2 ⟨rfl,a⟩;exact⟨rfl,k1.trans a,by rw[uh HR];rfl⟩
 have N:((bt s i:Int) ==102)=ζ:=by rw[yd];omega
 by_cases F:bt s i=34
 .have v:((bt s i:Int) ==34)=ξ:=by rw[yD];omega
  have f:=zb (Lb F);have b:=zb (zbi rb s i tb kt w1 m om hi B (I.next (k1.below hB om) (ye _)) hB)
  cases hq:ZS s i with
  | none=>
   have HR:Hid (val s i=ν):=by show _=_;rw[uh f,hq];rfl
   rw[hq]at b;go_wp2_with fail;go_call b as e w2 ⟨a,rfl⟩;exact⟨rfl,k1.trans a,by rw[uh HR];rfl⟩
  | some q=>
   obtain⟨l,j⟩:=q;have HR:Hid (val s i=η (.str l,j)):=by show _=_;rw[uh f,hq];rfl
   rw[hq]at b;go_wp2_with fail;go_call b as e w2 ⟨a,rfl,r2⟩;have o:=zb r2;have n:=k1.trans a;go_wp2;go_ret;refine⟨n,?_⟩;rw[uh HR];exact⟨_,_,rfl,by simp only[zY,zF,Α];exact uh o,fun _ _=>by rw[zj]⟩
 have O:((bt s i:Int) ==34)=ζ:=by rw[yd];omega
 by_cases A:bt s i=91
 .have v:((bt s i:Int) ==91)=ξ:=by rw[yD];omega
  have b:=zb (uh x _ m k1 A)
  cases hv:val s i with
  | none=>
   rw[hv]at b;have d:=zb hv;clear hv;go_wp2_with fail;go_call b as e w2 ⟨a,rfl⟩;exact⟨rfl,k1.trans a,by rw[uh d];rfl⟩
  | some q=>
   rw[hv]at b;have d:=zb hv;go_wp2_with fail;go_call b as e w2 hp;have r:=zb (hp.from k1);obtain⟨a,t,p,rfl,_,_⟩:=hp;go_wp2;go_ret;rw[uh d];exact r
 have P:((bt s i:Int) ==91)=ζ:=by rw[yd];omega
 by_cases E:bt s i=123
 .have v:((bt s i:Int) ==123)=ξ:=by rw[yD];omega
  have b:=zb (uh y _ m k1 E)
  cases hv:val s i with
  | none=>
   rw[hv]at b;have d:=zb hv;clear hv;go_wp2_with fail;go_call b as e w2 ⟨a,rfl⟩;exact⟨rfl,k1.trans a,by rw[uh d];rfl⟩
  | some q=>
   rw[hv]at b;have d:=zb hv;go_wp2_with fail;go_call b as e w2 hp;have r:=zb (hp.from k1);obtain⟨a,t,p,rfl,_,_⟩:=hp;go_wp2;go_ret;rw[uh d];exact r
 have Q:((bt s i:Int) ==123)=ζ:=by rw[yd];omega
 have f:=zb (zdP A E F D u C);have b:=zb (zdL rb s i tb kt w1 m hs hi B (G.next (k1.below hB om) (ye _)) hB)
 cases hn:nm s i with
 | none=>
  have HR:Hid (val s i=ν):=by show _=_;rw[uh f,hn];rfl
  rw[hn]at b;go_wp2_with fail;go_call b as e w2 ⟨a,rfl⟩;exact⟨rfl,k1.trans a,by rw[uh HR];rfl⟩
 | some q=>
  obtain⟨l,j⟩:=q;have HR:Hid (val s i=η (.num l,j)):=by show _=_;rw[uh f,hn];rfl
  rw[hn]at b;go_wp2_with fail;go_call b as e w2 ⟨a,z,rfl,r2,hz⟩;have o:=zb r2;have J:=zb hz;have n:=k1.trans a;go_wp2;go_ret;refine⟨n,?_⟩;rw[uh HR];refine⟨_,_,rfl,by simp only[zY,zF,Α];exact uh o,fun hb _=>?_⟩;rw[zj];exact⟨z,rfl,uh J (by simpa only [zY]using hb)⟩
theorem KB.keep{S:Nat->Prop}(k:KB rb w w')(hS:∀ b,S b->b<w.heap.size/\b≠rb):∀ b,S b->w'.heap[b]?=w.heap[b]?:=fun b hb=>k.block b (hS b hb).1 (hS b hb).2
theorem BD (rb:Nat) (s:Bs) (i:Nat) (tb kt:Bool) (w:Wo) (h:zr rb s i tb kt w) (hs:s.size<=100000) (hi:i<=s.size)
  (HB:∀ w1,zr rb s (sk s i) tb kt w1->KB rb w w1->δ prog 130 #[rb] w1 (Yq rb s tb kt w1 (val s (sk s i)))):
  δ prog 79 #[rb] w (Yq rb s tb kt w ((val s (sk s i)).map fun q=>(q.1,sk s q.2))):=by
 have x:=h.lt;have n:=zb (Xy rb s i tb kt w h om hi);have m:=zb HB;go_in;go_wp2_with fail;go_call n as e w1 ⟨rfl,r1,k1⟩;have k:=zb (uh m w1 r1 k1)
 cases hv:val s (sk s i)with
 | none=>
  rw[hv]at k;have d:=zb hv;go_wp2_with fail;go_call k as e w2 ⟨l,rfl⟩;exact⟨rfl,k1.trans l,by rw[uh d];rfl⟩
 | some q=>
  obtain⟨v,j⟩:=q;have o:=VO hv;rw[hv]at k;have d:=zb hv;go_wp2_with fail;go_call k as e w2 hp;obtain⟨l,t,p,rfl,B,g⟩:=hp;have r:=zb (Xy rb s j _ _ w2 B om o.2);have f:=zb g;have y:=k1.size;have z:=l.size;go_wp2_with fail;go_call r as e w3 ⟨rfl,r3,k3⟩;have u:=zb r3;have A:=k3.size;go_wp2;go_ret;rw[uh d];exact⟨(k1.trans l).trans k3,t,p,rfl,u,fun a b=>zj.keep (k3.keep fun b hb=>⟨hb.2,om⟩) (fun b hb=>⟨om,om⟩) _ _ (uh f a b)⟩
def YZ(s:Bs)(i:Nat):Option ((List UInt8×JV)×Nat):=(ZS s (sk s i)).bind fun k=>if bt s (sk s k.2)=58 then (val s (sk s (sk s k.2+1))).map fun q=>((k.1,q.1),sk s q.2)else ν
def zdQ(rb b:Nat)(s:Bs)(tb kt:Bool)(xs:List (List UInt8×ω))(nn:Nat)(w:Wo)(o:Option ((List UInt8×JV)×Nat))(e:Ending)(w':Wo):Prop:=
 JJ rb b w w'/\o.elim (e=JW) fun q=>∃ (t:TypeId) (p:ω),e=ε (τ #[])/\zr rb s q.2 (tb || zY q.1.2) ((kt || zF q.1.2) ||(xs.map (·.1)).contains q.1.1) w' /\
  w'.ownsMap prog 9 RH b (nn+1) (Zh (xs++[(q.1.1,φ t p)]))/\(zY q.1.2=ζ->zF q.1.2=ζ->zj w' (fun k=>w.heap.size<=k/\k<w'.heap.size) q.1.2 (φ t p))
theorem zr.setTwice(h:zr rb s i tb kt w):zr rb s i tb ξ (w.setCell ⟨rb,3,ν⟩ (θ ξ)):=heap_setCell_same w rb 3 _ 140 (θ ξ) h
theorem zr.twicec(h:zr rb s i tb kt w):w.cell? ⟨rb,3,ν⟩=η (θ kt):=by rw[yG h];rfl
theorem JJ.grown(h:JJ rb sc a w)(g:w.grownBy w' (η sc)):JJ rb sc a w':=
 ⟨g.os.trans h.os,g.tape.trans h.tape,g.output.trans h.output,yQ h.size g.size,fun i hi h1 h2=>(g.block i (yF hi h.size) (by intro e;injection e with e;exact h2 e)).trans (h.block i hi h1 h2)⟩
theorem SR(key:List UInt8)(hk:key.length<=1048576):keyOf prog 9 (σ (ze key))=η (.string key):=by
 have:=WideMaps.keyOf_string_mk underlying9 (s:=ze key) (by rw[zK];unfold maxLen;omega)
 rwa [Zb]at this
theorem BE (rb:Nat) (s:Bs) (i:Nat) (tb kt:Bool) (w:Wo) (h:zr rb s i tb kt w) (hs:s.size<=100000) (hi:i<=s.size) (B:Nat) (hT:Qd B w) (hB:B<=rb)
  (b nn:Nat) (xs:List (List UInt8×ω)) (hm:w.ownsMap prog 9 RH b nn (Zh xs)) (hbr:rb<b) (hnn:nn<=1048576)
  (HV:∀ (j:Nat) (w1:Wo),i<j->j<=s.size->zr rb s j tb kt w1->KB rb w w1->δ prog 79 #[π (η ⟨rb,0,ν⟩)] w1 (Yq rb s tb kt w1 ((val s (sk s j)).map fun q=>(q.1,sk s q.2)))):
  δ prog 213 #[π (η ⟨rb,0,ν⟩),.map (η b)] w (zdQ rb b s tb kt xs nn w (YZ s i)):=by
 have hlt:=h.lt;have Q:=hm.lt;have J:=zb (Xy rb s i tb kt w h om hi);have HT:=zb hT;have HM:=zb hm;have H:=zb HV;have k0:=Zd s i;have U:=(JB hi).2;have A:Hid (YZ s i=(ZS s (sk s i)).bind fun k=>if bt s (sk s k.2)=58 then (val s (sk s (sk s k.2+1))).map fun q=>((k.1,q.1),sk s q.2)else ν):=rfl;go_in;go_wp2_with fail;go_call J as e w1 ⟨rfl,r1,k1⟩;have g:=zb (zbi rb s (sk s i) tb kt w1 r1 om U B (HT.next (k1.below hB om) (ye _)) hB)
 cases hq:ZS s (sk s i)with
 | none=>
  rw[hq]at g;have r:Hid (YZ s i=ν):=by show _=_;rw[uh A,hq];rfl
  go_wp2_with fail;go_call g as e w2 ⟨k2,rfl⟩;exact⟨rfl,(k1.trans k2).two b,by rw[uh r];rfl⟩
 | some q=>
  obtain⟨d,a⟩:=q;have D:=Yu hq;have hql:=FU hq;have f:Hid (YZ s i=if bt s (sk s a)=58 then (val s (sk s (sk s a+1))).map fun q=>((d,q.1),sk s q.2)else ν):=by show _=_;rw[uh A,hq];rfl
  rw[hq]at g;go_wp2_with fail;go_call g as e w2 ⟨k2,rfl,r2⟩;have I:=zb (Xy rb s a tb kt w2 r2 om D.2);have K2:=zb (k1.trans k2);have ka0:=Zd s a;have V:=(JB D.2).2;go_wp2_with fail;go_call I as e w3 ⟨rfl,r3,k3⟩;have X:=zb (K2.trans k3);have Y:=zb r3;generalize sk s a=z at *;by_cases m:bt s z=58
  .have T:z<s.size:=Zf om;have x:=zb (W2 rb s z tb kt w3 Y om 58 m T);rw[yg m]at f;go_wp2_with fail;go_call x as e w4 ⟨rfl,r4,k4⟩;have G:=zb (X.trans k4);have F:=zb (uh H (z+1) w4 om om r4 G)
   cases hv:val s (sk s (z+1))with
   | none=>
    rw[hv]at F;have r:Hid (YZ s i=ν):=by show _=_;rw[uh f,hv];rfl
    go_wp2_with fail;go_call F as e w5 ⟨k5,rfl⟩;exact⟨rfl,(G.trans k5).two b,by rw[uh r];rfl⟩
   | some q=>
    obtain⟨v,n⟩:=q;rw[hv]at F;have r:Hid (YZ s i=η ((d,v),sk s n)):=by show _=_;rw[uh f,hv];rfl
    go_wp2_with fail;go_call F as e w5 ⟨k5,t,p,rfl,r5,hrep⟩;have K:=zb (G.trans k5);have hs4:=G.size;have hs5:=k5.size;have M:=zb (Wh HM (K.block b Q om));obtain⟨v0,C,_⟩:=SE M d om;have u:=zb hrep;have Z:=zb r5;have c3:=r5.twicec;have f3:=r5.fz 3;have W:=zb (SC d xs);have o:=zb (SR d om)
    cases hl:(J7 xs d).isSome with
    | true=>
     rw[hl]at C;have M6:=zb (Wh (w':=w5.setCell ⟨rb,3,ν⟩ (θ ξ)) M (Β w5 ⟨rb,3,ν⟩ (θ ξ) b (by show b≠rb;omega)));have R6:=zb Z.setTwice;go_wp2_with (refine wpList_mapUpdate_own _ rfl (.tmp 30) (.tmp 31) (.tmp 32) 210 rfl 9 65 (Maps.string_keyed underlying9) underlying210 RH b nn (Zh xs) rfl M6 mo _ _ (.string d) rfl rfl o (.held (φ t p)) [] rfl ?_;intro y E l);have R:=l.size;have P:zr rb s (sk s n) (tb || zY v) ((kt || zF v) ||(xs.map (·.1)).contains d) y:=by
      rw[← uh W,hl];refine (l.block rb ?_ (by intro e;injection e with e;omega)).trans ?_
      .show rb<(w5.setCell _ _).heap.size;simp[World.setCell];omega
      .rw[Bool.or_true];exact R6
     have O:zY v=ζ->zF v=ζ->zj y (fun k=>w.heap.size<=k/\k<y.heap.size) v (φ t p):=fun a b'=>by
      refine zj.keep (w:=w5) (S:=fun k=>w4.heap.size<=k/\k<w5.heap.size) (fun k hk=>?_) (fun k hk=>?_) v _ (uh u a b')
      .exact (l.block k (by simp[World.setCell];omega) (by intro e;injection e with e;omega)).trans (Β w5 ⟨rb,3,ν⟩ (θ ξ) k (by show k≠rb;omega))
      .have h9:(w5.setCell ⟨rb,3,ν⟩ (θ ξ)).heap.size=w5.heap.size:=by simp[World.setCell]
       exact⟨om,om⟩
     rw[← Wi]at E;have N:=zb E;have L:=zb (((K.set 3 (θ ξ)).two b).grown l);go_end0;refine⟨L,?_⟩;rw[uh r];exact⟨t,p,rfl,P,N,O⟩
    | false=>
     rw[hl]at C;go_wp2_with (refine wpList_mapUpdate_own _ rfl (.tmp 30) (.tmp 31) (.tmp 32) 210 rfl 9 65 (Maps.string_keyed underlying9) underlying210 RH b nn (Zh xs) rfl M mo _ _ (.string d) rfl rfl o (.held (φ t p)) [] rfl ?_;intro y E l);have R:=l.size;have P:zr rb s (sk s n) (tb || zY v) ((kt || zF v) ||(xs.map (·.1)).contains d) y:=by
      rw[← uh W,hl];refine (l.block rb ?_ (by intro e;injection e with e;omega)).trans ?_
      .show rb<w5.heap.size;omega
      .rw[Α];exact Z
     have O:zY v=ζ->zF v=ζ->zj y (fun k=>w.heap.size<=k/\k<y.heap.size) v (φ t p):=fun a b'=>by
      refine zj.keep (w:=w5) (S:=fun k=>w4.heap.size<=k/\k<w5.heap.size) (fun k hk=>?_) (fun k hk=>?_) v _ (uh u a b')
      .exact l.block k om (by intro e;injection e with e;omega)
      .exact⟨om,om⟩
     rw[← Wi]at E;have N:=zb E;have L:=zb ((K.two b).grown l);go_end0;refine⟨L,?_⟩;rw[uh r];exact⟨t,p,rfl,P,N,O⟩
  .have x:=zb (FL rb s z tb kt w3 Y om V 58 (.inl m));have r:Hid (YZ s i=ν):=zb (by rw[uh f,yf m]);go_wp2_with fail;go_call x as e w4 ⟨rfl,k4⟩;exact⟨rfl,(X.trans k4).two b,by rw[uh r];rfl⟩
theorem BF(s:Bs)(i:Nat):sk s (sk s i)=sk s i:=FM (zgr s i)
theorem ST:(prog.info? 65).map (fun i=>(i.zero,i.size,i.bytes))=η (η .nilIface,1,16):=by kernel_rfl
theorem WR(w:Wo)(o:Obj):Bw w (w.alloc o):=(yI _ _).alloc (ye _) _
abbrev Fs(sv:ω):Obj:=χ #[sv] 149 (0,0)
