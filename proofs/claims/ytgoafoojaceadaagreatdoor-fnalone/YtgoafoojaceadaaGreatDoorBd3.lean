import Derived.Test.YtgoafoojaceadaaGreatDoorBd2
set_option maxRecDepth 100000
set_option maxHeartbeats 8000000
open Go renaming Calls->δ,Value->ω
open Go.Ending renaming returned->ε
open Go.IntKind renaming i64->κ
open Go.Lib renaming byteCells->Τ,validD->Ζ
open Go.Obj renaming cells->χ
open Go.Value renaming agg->γ,bool->θ,int->ι,slice->ς,string->σ,tuple->τ
open _root_.Bool renaming false->ζ,or_eq_false_iff->Ξ,true->ξ
open _root_.List renaming cons_append->Ι,flatMap_append->Ρ,foldl_cons->Η,getElem_of_mem->Θ,length->Ν,lt_irrefl->Χ,map_nil->Υ,mem_cons->Β,nil_append->Ε,not_mem_nil->Κ,pairwise_cons->Δ
open _root_.Nat renaming strongRecOn->Φ,zero_add->Μ
open _root_.Option renaming bind_eq_some_iff->Α,map_some->Ο,none->ν,some->η
open _root_.UInt8 renaming ofNat->Γ
namespace Go.Proofs.YtgoafoojaceadaaGreatDoor
open Go.RowKit Go.Proofs.Tryz
variable{v u:JV}{s T:Bs}{i j r n o k op d e:Nat}{l t z key m x:List UInt8}{c:UInt8}{a b:List JV}{cs ts:List (List UInt8)}{q:List UInt8×JV}{ps:List zy}
theorem zii{b:Bs}(h:b.data.toList=l):b=ze l:=by
 subst h
 cases b with
 | mk d=>simp[ze]
theorem AU(s:Bs)(i n:Nat)(l:List UInt8)(h:(s.data.toList.drop i).take n=l):s.extract i (i+n)=ze l:=by
 refine zii ?_;rw[Lib.extract_data,show i+n - i=n from by omega,h]
theorem zij(h:r<128):enc r=[Γ r]:=by
 unfold enc;rw[← NQ om om];unfold ZW qw;rw[yg h];rfl
theorem AV(h:r<=1114111)(h':r<55296∨57344<=r):ZW r=enc r:=NQ h h'
abbrev zik(w:Wo)(e:Ending)(w':Wo):Prop:=(∃ t,e=ε (τ #[.string t,ι κ 0]))/\Bw w w'
abbrev zil(w:Wo)(t:Bs)(n:Nat)(e:Ending)(w':Wo):Prop:=e=ε (τ #[.string t,ι κ (n:Int)])/\Bw w w'
def zim(w:Wo)(o:Option (Nat×Nat))(e:Ending)(w':Wo):Prop:=o.elim (zik w e w') fun p=>zil w (ze (enc p.1)) p.2 e w'
theorem zin(s:Bs)(i:Nat)(w:Wo)(hs:s.size<=33554432)(hi:i<s.size)(hq:bt s i≠34):
  δ prog 162 #[s,ι κ i] w (zim w (piece s i)):=by
 have F:=Zx s i hi;have o:piece s i=if bt s i=92 then Js s i else if bt s i<32 then ν else if bt s i<128 then η (bt s i,1)else if rl s i=0 then ν else η ((Utf8.decode s i).1,rl s i):=rfl
 by_cases j:128<=bt s i
 .rw[yf om,yf om,yf om]at o;have HR:=zb (Ew s i w hi hs);have Y:=UQ s i hi;have H:Hid (¬ rl s i=0->s.extract i (i+rl s i)=ze (enc (Utf8.decode s i).1)):=fun h=>AU s i (rl s i) _ (WU s i hi h om).1.symm;have h':(128:Int)<=(s[i].toNat:Int):=om;have d:=zb o;clear o hq j F;generalize rl s i=n at *;go_in;go_wp2_with fail;go_call HR as e Q ⟨rfl,p⟩;go_wp2;go_ret2;rw[uh d];by_cases O:n=0
  .subst O;exact⟨⟨_,rfl⟩,p⟩
  .rw[yf O];exact⟨by rw[← uh H O];rfl,p⟩
 have K:¬ (128:Int)<=(s[i].toNat:Int):=om;by_cases r:bt s i=92
 .rw[yg r]at o;have L:((s[i].toNat:Int) !=92)=ζ:=by rw[bne_eq_false_iff_eq];omega
  have I:=zb o;go_in;go_upto_region 8 with fail;go_cut [54]from 42 to 54 (fun x wx=>∃ b:Bool,x=θ b/\Below w w wx/\(b=ξ->i+1<s.size/\∃ v,J0 (bt s (i+1))=η v)/\(b=ζ->Js s i=(QQ s i).bind (Qt s i)))
  case first=>
   have D:Hid (J0 (bt s (i+1))=ν->Js s i=(QQ s i).bind (Qt s i)):=fun h=>by unfold Js;rw[h]
   by_cases y:i+1<s.size
   .have V:(i:Int)+1<(s.size:Int):=om;have l:Hid (δ prog 205 #[.int .u8 (s[i+1].toNat:Int)] w fun e w'=>e=ε (ι κ (GD (J0 (bt s (i+1)))))/\Below w w w'):=by
     rw[Zx s (i+1) y];exact ER _ (UInt8.toNat_lt _) w
    cases A:J0 (bt s (i+1))with
    | none=>
     have l:Hid (δ prog 205 #[.int .u8 (s[i+1].toNat:Int)] w fun e w'=>e=ε (ι κ (-1))/\Below w w w'):=by rw[A]at l;exact l
     have D:=zb (uh D A);go_wp2_with fail;go_call l as e Q ⟨rfl,p⟩;go_wp2;go_meet
     case rel=>exact⟨ζ,rfl,p,nofun,fun _=>uh D⟩
    | some v=>
     have l:Hid (δ prog 205 #[.int .u8 (s[i+1].toNat:Int)] w fun e w'=>e=ε (ι κ (v:Int))/\Below w w w'):=by rw[A]at l;exact l
     have P:(0:Int)<=(v:Int):=om;have m:=zb A;go_wp2_with fail;go_call l as e Q ⟨rfl,p⟩;go_wp2;go_meet
     case rel=>exact⟨ξ,rfl,p,fun _=>⟨y,v,m⟩,nofun⟩
   .have V:¬ (i:Int)+1<(s.size:Int):=om;have di:decide ((i:Int)+1<(s.size:Int))=ζ:=so;have D:=zb (uh D (by rw[YN s (i+1) om];rfl));go_wp2;go_meet
    case rel=>exact⟨ζ,rfl,yI _ _,nofun,fun _=>uh D⟩
  obtain⟨b,rfl,p,M,N⟩:=hcut
  cases b with
  | true=>
   obtain⟨y,v,A⟩:=M rfl;have T:=Zx s (i+1) y;have d:=zb (GA rfl A);have l:Hid (∀ w,δ prog 205 #[.int .u8 (s[i+1].toNat:Int)] w fun e w'=>e=ε (ι κ (v:Int))/\Below w w w'):=fun w=>by
    have c:=ER s[i+1].toNat (UInt8.toNat_lt _) w;rw[← T,A]at c;rw[← T];exact c
   have k:=DN A;have C:ZW v=enc v:=AV om om;have G:Hid (∀ w:Wo,(convert 22 9 (ς (η w) 1 1)).run prog (w.alloc (χ #[.int .u8 (v:Int)] 5))= .ok (σ (ze (enc v))) (w.alloc (χ #[.int .u8 (v:Int)] 5))):=fun w=>by
    rw[← C];exact Uq w (ZW v) #[.int .u8 (v:Int)] 1 (by simp[ZW,qw,k]) (by simp[ZW,qw,k,Τ];omega)
   have P:(0:Int)<=(v:Int):=om;have V:(i:Int)+1<(s.size:Int):=om;have f:=zb p;go_wp2_with fail;go_call uh l _ as e R ⟨rfl,b2⟩;have S:=zh f b2;have X:=uh G R;go_wp2;go_ret2;rw[uh I,uh d];exact⟨rfl,S.alloc S.size _⟩
  | false=>
   have d:=zb (N rfl);have J:=zb fun i (h:i<=40000000) w=>zhj s i hs h w;have f:=zb p;go_wp2_with fail;go_call uh J i (by omega) _ as e R ⟨rfl,rfl⟩
   cases C:QQ s i with
   | none=>
    rw[C]at d;rw[show GD none= -1 from rfl];go_wp2;go_ret2;rw[uh I,uh d];exact⟨⟨_,rfl⟩,f⟩
   | some u=>
    have U:=EE C;have a:piece s i=Qt s i u:=by rw[uh I,uh d,C];rfl
    have m:Hid (∀ (z:Int) (u:Nat) w,z=u->u<=1114111->u<55296∨57344<=u->δ prog 207 #[ι κ z] w fun e w'=>e=ε (σ (ze (enc u)))/\Below w w w'):=fun z u w hz K L=>by
     subst hz;have c:=Mp u w K;rw[AV K L]at c;exact c
    rw[show GD (η u)=(u:Int)from rfl];have u0:((u:Int)<0)=False:=yR om;unfold Qt at a;by_cases g:u<55296∨57344<=u
    .rw[yg g]at a;have m:=zb fun w=>uh m u u w rfl om g;have d:=zb a;have g:u<55296/\((56320:Int)<=(u:Int))=False/\((u:Int)<55296)=True/\((57344:Int)<=(u:Int))=False∨((56320:Int)<=(u:Int))=True/\((u:Int)<57344)=False/\((u:Int)<55296)=False/\((57344:Int)<=(u:Int))=True:=by
      rcases g with h | h
      .exact .inl ⟨h,yR om,eq_true om,yR om⟩
      .exact .inr ⟨eq_true om,yR om,yR om,eq_true om⟩
     rcases g with ⟨_,_,_,_⟩ |⟨_,_,_,_⟩
     all_goals
      go_wp2_with fail;go_call uh m _ as e W ⟨rfl,b3⟩;clear m;go_wp2;go_ret2;rw[uh d];exact⟨rfl,zh f b3⟩
    .rw[yf g]at a;by_cases E:56320<=u
     .rw[yg E]at a;have Z:((56320:Int)<=(u:Int))=True:=eq_true om;have u2:((u:Int)<57344)=True:=eq_true om;have d:=zb a;clear C a;go_wp2;go_ret2;rw[uh d];exact⟨⟨_,rfl⟩,f⟩
     .rw[yf E]at a;have Z:((56320:Int)<=(u:Int))=False:=yR om;have u2:((u:Int)<55296)=False:=yR om;have u3:((57344:Int)<=(u:Int))=False:=yR om;have d:=zb a;clear C a;go_wp2_with fail;go_call uh J (i+6) (by omega) _ as e W ⟨rfl,rfl⟩;clear J
      cases hu2:QQ s (i+6)with
      | none=>
       rw[show GD none= -1 from rfl];rw[hu2]at d;clear hu2;go_wp2;go_ret2;rw[uh d];exact⟨⟨_,rfl⟩,f⟩
      | some v=>
       rw[show GD (η v)=(v:Int)from rfl];rw[hu2,yB]at d;clear hu2;by_cases B:56320<=v/\v<57344
       .have v1:((v:Int)<56320)=False:=yR om;have v2:((57344:Int)<=(v:Int))=False:=yR om;have m:=zb fun w=>uh m (65536+((u:Int) - 55296)*1024+(v:Int) - 56320) (65536+(u - 55296)*1024+(v - 56320)) w om om om;rw[yg B]at d;have Q:55296<=u:=om;have R:u<=56319:=om;have W:=B.1;have w4:v<=57343:=om;clear B g E;go_wp2_with fail;go_call uh m _ as e w4 ⟨rfl,b4⟩;clear m;go_wp2;go_ret2;rw[uh d];exact⟨rfl,zh f b4⟩
       .rw[yf B]at d;have B:((v:Int)<56320)=True∨((v:Int)<56320)=False/\((57344:Int)<=(v:Int))=True:=by
         by_cases h:v<56320
         .exact .inl (eq_true om)
         .exact .inr ⟨yR om,eq_true om⟩
        rcases B with _ |⟨_,_⟩<;>(go_wp2;go_ret2;rw[uh d];exact⟨⟨_,rfl⟩,f⟩)
 .rw[yf r]at o;have L:((s[i].toNat:Int) !=92)=ξ:=by rw[bne_iff_ne];omega
  by_cases q:bt s i<32
  .rw[o,yg q];have E:(s[i].toNat:Int)<32:=om;clear o F r hq j q;go_in;go_wp2;go_ret2;exact⟨⟨_,rfl⟩,yI _ _⟩
  .rw[o,yf q,yg om,F];have E:¬ (s[i].toNat:Int)<32:=om;have B:((s[i].toNat:Int) ==34)=ζ:=by rw[yd];omega
   have d3:decide ((s[i].toNat:Int)<32)=ζ:=so;have H:Hid (s.extract i (i+1)=ze (enc s[i].toNat)):=AU s i 1 _ (by rw[zij om,Et,QV s i hi];rfl);clear o F r hq j q;go_in;go_wp2;go_ret2;exact⟨by rw[← uh H];rfl,yI _ _⟩
def zio(s:Bs)(w:Wo)(o:Option (List UInt8×Nat))(e:Ending)(w':Wo):Prop:=
 Bw w w'/\o.elim (∃ (t:Bs) (k:Nat),k<=s.size+1/\t.size<=4*s.size+4/\e=ε (τ #[.string t,ι κ (k:Int),θ ζ])) fun q=>e=ε (τ #[σ (ze q.1),ι κ (q.2:Int),θ ξ])
theorem U2(s:Bs)(i:Nat)(w:Wo)(hs:s.size<=33554432)(hi:i<=s.size+1):
  δ prog 111 #[s,ι κ i] w (zio s w (ZT s i)):=by
 obtain⟨i0,N,Q,R,S⟩:=info_parts Uo;by_cases h:bt s i=34
 .have b:=Zi (by rw[h];decide);have A:Hid (ZT s i=qX s (i+1)):=by show _=_;unfold ZT;rw[yg h]
  have L:J7 s i 34=ξ:=by rw[Gf b,yD,← Zx s i b,h];rfl
  have y:=zb (WD s (i:Int) i rfl 34 w);rw[L]at y;go_in;go_wp2_with fail;go_call y as e w1 ⟨rfl,rfl⟩;go_wp2;go_loopw [1,7] (fun k v wr=>∃ (j:Nat) (a:List UInt8),j<=s.size/\k=ι κ (j:Int)/\a.length<=4*j/\wr.ownsRow w 5 1 v (Τ a).length (Τ a)/\Below w w wr/\qX s (i+1)=(qX s j).map fun q=>(a++q.1,q.2)) (fun k _ _=>s.size - (intOf k).toNat)
  case atStart=>
   exact⟨i+1,[],om,by go_num,sm,⟨rfl,.inr ⟨w,0,#[],rfl,ye _,yH w _,ye _,mo,rfl,rfl⟩⟩,(yI _ _).alloc (ye _) _,sm⟩
  case round=>
   obtain⟨j,a,hj,rfl,Z,d,T,P⟩:=hrel;have f:=zb P;have I:=zb T;have V:=T.size;by_cases D:j<s.size
   .have e0:=Zx s j D;have E:(j:Int)<(s.size:Int):=om;by_cases g:bt s j=34
    .have t1:((s[j].toNat:Int) !=34)=ζ:=by rw[bne_eq_false_iff_eq];omega
     have z:Hid (ZT s i=η (a,j+1)):=by
      show _=_
      rw[uh A,uh f,WV g];simp
     have C:=Up d;go_wp2;go_ret3;exact⟨I,by rw[uh z];rfl⟩
    .have t1:((s[j].toNat:Int) !=34)=ξ:=by rw[bne_iff_ne];omega
     have J:=zb (zin s j wr hs D g)
     cases hp:piece s j with
     | none=>
      have z:Hid (ZT s i=ν):=by
       show _=_
       rw[uh A,uh f,WW g hp];rfl
      rw[hp]at J;go_wp2_with fail;go_call J as e w2 ⟨⟨t,rfl⟩,b2⟩;have H:=zh I b2;go_wp2;go_ret3;exact⟨H,by rw[uh z];exact⟨_,j,om,yu _,rfl⟩⟩
     | some p=>
      obtain⟨r,n⟩:=p;obtain⟨p1,p2,p3⟩:=Wk hp;have aa:=FC r;have B:Hid (qX s (i+1)=(qX s (j+n)).map fun q=>(a++enc r++q.1,q.2)):=by
       show _=_
       rw[uh f,Wm g hp,Option.map_map];congr 1;funext q;simp
      rw[hp]at J;have t0:((n:Int) ==0)=ζ:=by rw[yd];omega
      go_wp2_with fail;go_call J as e w2 ⟨rfl,b2⟩;have H:=zh I b2;have F:=Zh d b2;obtain⟨K,W3,C,u,Y,O,ab⟩:=Ur w2 (enc r);have l:=O _ _ _ _ _ F;have W:=zh H Y;have o:=zb u;have U:=H.size;go_wp2_with (at_builtin;refine wpList_append_own _ rfl (.tmp 37) (.tmp 39) 22 rfl w 5 i0 (.int .u8 0) 1 1 underlying22 N Q R S rfl dc _ _ _ rfl l w2 (enc r).length K (Τ (enc r)) rfl (by rw[yL];omega) o (Kv (enc r)) (by rw[yL];unfold maxLen;omega) (by rw[yL];omega) om ?_);intro v4 w4 G M _;have X:=W.grown M om (fun k hk=>(l.lt k hk).1);have x:=Qk (m:=(enc r)) G rfl rfl;go_wp2;go_roundw
      case rel=>exact⟨j+n,a++(enc r),om,by go_num,by rw[yh];omega,x,X,B⟩
      case measure=>simp[intOf];omega
   .have E:¬ (j:Int)<(s.size:Int):=om;have d1:decide ((j:Int)<(s.size:Int))=ζ:=so;have z:Hid (ZT s i=ν):=by
     show _=_
     rw[uh A,uh f,zgQ om];rfl
    have C:=Up d;go_wp2;go_ret3;exact⟨I,by rw[uh z];exact⟨_,j+1,om,by show a.toArray.size<=_;simp;omega,rfl⟩⟩
 .have A:Hid (ZT s i=ν):=by show _=_;unfold ZT;rw[yf h]
  have L:J7 s i 34=ζ:=by
   by_cases b:i<s.size
   .rw[Gf b,yd,← Zx s i b];omega
   .exact Ku b
  have y:=zb (WD s (i:Int) i rfl 34 w);rw[L]at y;go_in;go_wp2_with fail;go_call y as e w1 ⟨rfl,rfl⟩;go_wp2;go_ret3;exact⟨yI _ _,by rw[uh A];exact⟨_,i,hi,yu _,rfl⟩⟩
theorem AX{j2:Nat}(h:Yu T j=η j2)(hj:j<T.size):j<j2/\j2<=T.size:=by
 unfold Yu at h;split at h
 .cases hq:ZT T j with
  | none=>rw[hq]at h;simp at h
  | some q=>
   obtain⟨l,n⟩:=q;rw[hq]at h;simp at h;have:=Yt hq;omega
 .injection h with h;omega
theorem ziq{g:Nat}(hj:n<=T.size)(h:(if o=0/\VT T n=ξ then η n else Qe T g o n)=η k):
  ((¬ o=0∨o=0/\n<T.size/\¬ bt T n=44/\¬ bt T n=93/\¬ bt T n=125)/\Qe T g o n=η k)∨((o=0/\n=T.size∨o=0/\n<T.size/\(bt T n=44∨bt T n=93∨bt T n=125))/\n=k):=by
 by_cases b:o=0
 .by_cases a:VT T n=ξ
  .rw[yg ⟨b,a⟩]at h;injection h with h;refine .inr ⟨?_,h⟩;by_cases e:n=T.size
   .exact .inl ⟨b,e⟩
   .unfold VT at a;simp[e]at a;exact .inr ⟨b,om,om⟩
  .rw[yf (fun x=>a x.2)]at h;unfold VT at a;simp at a;exact .inl ⟨.inr ⟨b,om,a.1.1.2,a.1.2,a.2⟩,h⟩
 .rw[yf (fun x=>b x.1)]at h;exact .inl ⟨.inl b,h⟩
theorem AY(hn:Yu T j=η n):(bt T j≠34->j+1=n)/\(bt T j=34->∃ l,ZT T j=η (l,n)):=by
 unfold Yu at hn;refine⟨fun h=>by rw[yf h]at hn;injection hn,fun h=>?_⟩;rw[yg h]at hn
 cases hq:ZT T j with
 | none=>rw[hq]at hn;simp at hn
 | some q=>rw[hq]at hn;simp at hn;exact⟨q.1,by rw[← hn]⟩
theorem Lo{c:Nat}(ho:JD c op=η o):(c=91/\(op:Int)+1=(o:Int))∨(c=123/\(op:Int)+1=(o:Int))∨(c=93/\(op:Int) - 1=(o:Int))∨(c=125/\(op:Int) - 1=(o:Int))∨(¬ c=91/\¬ c=123/\¬ c=93/\¬ c=125/\op=o):=by
 unfold JD Wt U0 at ho;by_cases a:c=91
 .subst a;simp at ho;omega
 .by_cases b:c=123
  .subst b;simp at ho;omega
  .by_cases d:c=93
   .subst d;simp at ho;omega
   .by_cases f:c=125
    .subst f;simp at ho;omega
    .simp[a,b,d,f]at ho;omega
theorem AZ{c:Nat}(ho:JD c op=η o):o<=op+1:=by
 rcases Lo ho with h | h | h | h | h<;>omega
theorem bI{a c:Nat}(h:a=c)(x:Nat):((a:Int) ==(x:Int))=decide (c=x):=by rw[Bool.eq_iff_iff,yD,decide_eq_true_iff];omega
theorem A4(T:Bs)(i k f:Nat)(w:Wo)(hT:T.size<=1048576)(h:Qe T f 0 i=η k):
  δ prog 124 #[T,ι κ (i:Int)] w fun e w'=>e=ε (ι κ (k:Int))/\Below w w w':=by
 have H:=zb fun (j:Nat) (w:Wo) (hj:j<T.size)=>U2 T j w om om;have aa:i<T.size:=by
  cases f with
  | zero=>simp[Qe]at h
  | succ f=>
   rw[Qe]at h;split at h
   .assumption
   .cases h
 have S:=zb h;go_in;go_wp2;go_loopw [1,5] (fun iv ov wr=>∃ (j r g:Nat),iv=ι κ (j:Int)/\ov=ι κ (r:Int)/\j<=T.size/\r<=j/\Qe T g r j=η k/\Below w w wr) (fun iv _ _=>T.size - (intOf iv).toNat)
 case atStart=>exact⟨i,0,f,rfl,rfl,om,om,S,yI _ _⟩
 case round=>
  obtain⟨j,r,g,rfl,rfl,hj,hop,d,U⟩:=hrel;obtain⟨g,rfl⟩:∃ g',g=g'+1:=by cases g with
   | zero=>simp[Qe]at d
   | succ g=>exact⟨g,rfl⟩
  rw[Qe]at d;by_cases J:j<T.size
  .rw[yg J]at d;have R:(j:Int)<(T.size:Int):=om;have F:=Zx T j J;obtain⟨n,K,o,q,hz⟩:∃ j2,Yu T j=η j2/\∃ o,JD (bt T j) r=η o/\(if o=0/\VT T j2=ξ then η j2 else Qe T g o j2)=η k:=by
    cases K:Yu T j with
    | none=>rw[K]at d;simp at d
    | some j2=>
     rw[K]at d;simp only[yB]at d
     cases q:JD (bt T j) r with
     | none=>rw[q]at d;simp at d
     | some o=>rw[q]at d;exact⟨j2,rfl,o,rfl,by simpa using d⟩
   have L:=AX K J;have A:=L.2;have hjn:=L.1;obtain⟨C,B⟩:=AY K;have p:=ziq A hz;have E:=zb U;obtain⟨c,y⟩:∃ c,bt T j=c:=⟨_,rfl⟩;have V:((T[j].toNat:Int) ==34)=decide (c=34):=bI (F ▸ y) 34;have W:((T[j].toNat:Int) ==91)=decide (c=91):=bI (F ▸ y) 91;have P:((T[j].toNat:Int) ==123)=decide (c=123):=bI (F ▸ y) 123;have X:((T[j].toNat:Int) ==93)=decide (c=93):=bI (F ▸ y) 93;have Q:((T[j].toNat:Int) ==125)=decide (c=125):=bI (F ▸ y) 125;have tz:((o:Int) ==0)=decide (o=0):=bI rfl 0;have te:((n:Int) ==(T.size:Int))=decide (n=T.size):=bI rfl _;have hoj:=AZ q;rw[y]at C B q;by_cases I:c=34
   .subst I;obtain⟨l,hq⟩:=B rfl;obtain rfl:r=o:=by injection q
    have G:=zb (uh H j wr J);rw[hq]at G;go_wp2_with fail;go_call G as e w2 ⟨b2,rfl⟩
    replace E:=zb (zh E b2)
    rcases p with ⟨p,b⟩ |⟨p,b⟩
    .have M:=zb b;rcases p with v |⟨v,b,x,Y,Z⟩
     all_goals (
      try (
         have a:=(Zx T n b).symm;have z:(n:Int)<(T.size:Int):=om;have s:((T[n].toNat:Int) ==44)=decide (bt T n=44):=bI a 44;have u:((T[n].toNat:Int) ==93)=decide (bt T n=93):=bI a 93;have m:((T[n].toNat:Int) ==125)=decide (bt T n=125):=bI a 125;clear a)
      go_wp2
      all_goals (
       go_roundw
       case rel=>exact⟨n,r,g,by go_num,by go_num,A,om,M,E⟩
       case measure=>simp[intOf];omega))
    .have N:=zb b;clear b;rcases p with ⟨v,b⟩ |⟨v,b,x | x | x⟩
     all_goals (
      try (
         have a:=(Zx T n b).symm;have z:(n:Int)<(T.size:Int):=om;have s:((T[n].toNat:Int) ==44)=decide (bt T n=44):=bI a 44;have u:((T[n].toNat:Int) ==93)=decide (bt T n=93):=bI a 93;have m:((T[n].toNat:Int) ==125)=decide (bt T n=125):=bI a 125;clear a)
      go_wp2
      all_goals (
       go_ret;exact⟨by rw[← uh N];first | rfl | go_num,E⟩))
   .have hnI:(j:Int)+1=(n:Int):=by have:=C I;omega
    have O:=Lo q;clear B C F y H q;rcases O with ⟨rfl,D⟩ |⟨rfl,D⟩ |⟨rfl,D⟩ |⟨rfl,D⟩ |⟨c1,c2,c3,c4,rfl⟩
    all_goals (
     rcases p with ⟨p,b⟩ |⟨p,b⟩
     .have M:=zb b;clear b;rcases p with v |⟨v,b,x,Y,Z⟩
      all_goals (
       try (
          have a:=(Zx T n b).symm;have z:(n:Int)<(T.size:Int):=om;have s:((T[n].toNat:Int) ==44)=decide (bt T n=44):=bI a 44;have u:((T[n].toNat:Int) ==93)=decide (bt T n=93):=bI a 93;have m:((T[n].toNat:Int) ==125)=decide (bt T n=125):=bI a 125;clear a)
       go_wp2
       all_goals (
        go_roundw
        case rel=>exact⟨n,_,g,by go_num,by go_num,A,om,M,E⟩
        case measure=>simp[intOf];omega))
     .have N:=zb b;clear b;rcases p with ⟨v,b⟩ |⟨v,b,x | x | x⟩
      all_goals (
       try (
          have a:=(Zx T n b).symm;have z:(n:Int)<(T.size:Int):=om;have s:((T[n].toNat:Int) ==44)=decide (bt T n=44):=bI a 44;have u:((T[n].toNat:Int) ==93)=decide (bt T n=93):=bI a 93;have m:((T[n].toNat:Int) ==125)=decide (bt T n=125):=bI a 125;clear a)
       go_wp2
       all_goals (
        go_ret;exact⟨by rw[← uh N];first | rfl | go_num,E⟩)))
  .rw[yf J]at d;cases d
theorem A5(T:Bs)(w:Wo)(h0:0<T.size)(h1:bt T 0≠91)(h2:bt T 0≠123):
  δ prog 64 #[T] w fun e w'=>∃ v,e=ε v/\PR w' w v []/\Below w w w':=by
 rw[Zx T 0 h0]at h1 h2;have a:((T[0].toNat:Int) !=91)=ξ:=by rw[bne_iff_ne];omega
 have b:((T[0].toNat:Int) !=123)=ξ:=by rw[bne_iff_ne];omega
 go_in;go_wp2;go_ret;exact⟨_,rfl,World.ownsRow_lit (base:=w.heap.size) (e:=120) (size:=2) w #[] 0 (ye _) mo rfl,(yI _ _).alloc (ye _) _⟩
theorem A6(l:JL)(hok:qT l)(w:Wo)(hT:(ze (ct (.arr l))).size<=1000000):
  δ prog 64 #[σ (ze (ct (.arr l)))] w fun e w'=>∃ v,e=ε v/\PR w' w v (qY 0 (zu l))/\Below w w w':=by
 obtain⟨i0,G,M,N,O⟩:=info_parts WY;have a:(ze (ct (.arr l))).data.toList=91 ::(joinC (zu l)++[93]):=by rw[Zb];rfl
 have z:=Pc (ze (ct (.arr l))) l hok;generalize ze (ct (.arr l))=T at *;generalize zu l=cs at *;have h0:0<T.size:=by have:=congrArg Ν a;rw[Zo]at this;simp at this;omega
 have hb0:T[0].toNat=91:=by rw[← Zx T 0 h0];unfold bt;rw[a];rfl
 have f1:((T[0].toNat:Int) !=91)=ζ:=by rw[bne_eq_false_iff_eq];omega
 have f2:((T[0].toNat:Int) ==123)=ζ:=by rw[yd];omega
 have hI:(0:Int)<(T.size:Int):=om;have hn:cs.length<=T.size:=by
  have h1:=Pg a;have:∀ k,k<=cs.length->k<=pk cs k:=by
   intro k;induction k with
   | zero=>intro _;omega
   | succ k ih=>intro b;rw[Pf cs k om];have:=ih om;omega
  cases hl:cs.length with
  | zero=>omega
  | succ m=>
   have U:=FL a m om;have h3:=this m om;omega
 have S:Hid (∀ k (b:k<cs.length) (w:Wo),pk cs k+cs[k].length+1<=T.size/\1<=cs[k].length/\T.extract (pk cs k) (pk cs k+cs[k].length)=ze cs[k]/\pk cs (k+1)=pk cs k+cs[k].length+1/\qY 0 (cs.take (k+1))=qY 0 (cs.take k)++[(Zj k,cs[k])] /\
   δ prog 124 #[T,ι κ ((pk cs k:Nat):Int)] w fun e w'=>e=ε (ι κ ((pk cs k+cs[k].length:Nat):Int))/\Below w w w'):=fun k b w=>by
  have W:=FK a k b;obtain⟨ht,K⟩:=z cs[k] (yt b);obtain⟨f,hf⟩:=ht _ _ W (Pe _ 93 (.inl rfl));refine⟨FL a k b,?_,Ay W,Pf cs k b,?_,A4 T _ _ f w om hf⟩
  .cases h:cs[k]with
   | nil=>exact absurd h K
   | cons _ _=>simp
  .rw[yz b,Aw];simp[Nat.min_eq_left (Nat.le_of_lt b)]
 have r:=zb (Pg a);have I:∀ k,k<=cs.length->(qY 0 (cs.take k)).length=k:=fun k b=>by rw[Wu,ym];omega
 have D:=zb I;have q:=zb fun (n:Nat) (w:Wo) (hn:n<=1000000)=>Xw n n w (ye _) om;go_in;go_wp2;go_loopw [3,4] (fun v i wr=>∃ k:Nat,k<=cs.length/\i=ι κ ((pk cs k:Nat):Int)/\PR wr w v (qY 0 (cs.take k))/\Below w w wr) (fun _ i _=>T.size+1 - (intOf i).toNat)
 case atStart=>exact⟨0,yu _,rfl,World.ownsRow_lit (base:=w.heap.size) (e:=120) (size:=2) w #[] 0 (ye _) mo rfl,(yI _ _).alloc (ye _) _⟩
 case round=>
  obtain⟨k,b,rfl,j,V⟩:=hrel;have o:=uh D k b;have Q:=zb V;have X:=V.size;by_cases y:k<cs.length
  .obtain⟨k1,k2,k3,k4,k5,_⟩:=uh S k y w;have R:=zb fun w=>(uh S k y w).2.2.2.2.2;have s:=zb k4;have C:=zb k5;have tl:((pk cs k:Nat):Int)<(T.size:Int) - 1:=om;obtain⟨x,len,d,rfl,J⟩:∃ x len d,u3=ς x len d/\len=k:=by
    rcases j.2 with ⟨L,h0'⟩ |⟨g,d,cur,L,_⟩
    .exact⟨_,_,_,L,om⟩
    .exact⟨_,_,_,L,o⟩
   obtain rfl:=J;have HD:=zb (uh q len wr om);generalize qY 0 (cs.take len)=B at *;generalize pk cs len=P at *;generalize cs[len]=t at *;obtain⟨E,hE⟩:∃ E,P+t.length=E:=⟨_,rfl⟩;rw[hE]at k3 k1 R s;have hPE:P<=E:=om;go_wp2_with fail;go_call HD as e w1 ⟨rfl,b1⟩;have p1:=j.below b1;have B1:=zb (zh Q b1);have hw1:=b1.size;go_wp2_with fail;go_call uh R _ as e w2 ⟨rfl,b2⟩;have p2:=p1.below b2;have B2:=zb (zh B1 b2);have hw2:=b2.size;have p:w2.ownsRow w 120 2 (ς x len d) B.length (B.flatMap Zc):=p2;go_wp2_with (at_builtin;refine wpList_append_own _ rfl (.tmp 44) (.tmp 51) 116 rfl w 120 i0 (γ #[ByteArray.empty,ByteArray.empty]) 2 32 underlying116 G M N O rfl dc _ _ _ rfl (p.alloc _) w2 1 1 (Zc (Zj len,t)) rfl rfl (Yf _ _ _ _) (fun u hu=>by {simp[Zc]at hu;rcases hu with rfl | rfl<;>rfl}) mo om so ?_);intro Y Z A F _;have P3:Hid (PR Z w Y (B++[(Zj len,t)])):=by
    show PR Z w Y (B++[(Zj len,t)])
    unfold PR;rw[yh,Ρ,o];simpa using A
   have B3:=zb ((B2.alloc om _).grown F so (fun k b=>(p.lt k b).1));go_wp2;go_roundw
   case rel=>exact⟨len+1,om,by rw[uh s];go_num,by rw[uh C];exact uh P3,B3⟩
   case measure=>simp[intOf];omega
  .have H:k=cs.length:=om;have U:=uh r;rw[← H]at U;have e:cs.take k=cs:=yr om;rw[e]at j;have HP:=zb j;generalize pk cs k=P at *;go_wp2;go_ret;exact⟨_,rfl,HP,Q⟩
theorem Lp{a:UInt8}(hTL:T.data.toList=a ::(joinC cs++[c])):cs.length<=T.size:=by
 have:∀ k,k<=cs.length->k<=pk cs k:=by
  intro k;induction k with
  | zero=>intro _;omega
  | succ k ih=>intro f;rw[Pf cs k om];have:=ih om;omega
 cases hl:cs.length with
 | zero=>omega
 | succ m=>
  have b:=FL hTL m om;have d:=this m om;omega
theorem A9(m:JM)(hok:qR m)(w:Wo)(hT:(ze (ct (.obj m))).size<=1000000):
  δ prog 64 #[σ (ze (ct (.obj m)))] w fun e w'=>∃ v,e=ε v/\PR w' w v (zI (zm m))/\Below w w w':=by
 obtain⟨i0,W,aa,ab,ad⟩:=info_parts WY;have a:(ze (ct (.obj m))).data.toList=123 ::(joinC ((zI (zm m)).map zo)++[125]):=by rw[Zb];rfl
 have H:∀ p∈zI (zm m),J3 (ze (ct (.obj m))) p.2/\p.2≠[]/\Ζ p.1=ξ:=fun p hp=>Pd _ m hok p ((Qc _).subset hp);generalize ze (ct (.obj m))=T at *;generalize zI (zm m)=qs at *;have Y:(qs.map zo).length=qs.length:=yl _;have h0:0<T.size:=by have:=congrArg Ν a;rw[Zo]at this;simp at this;omega
 have hb0:T[0].toNat=123:=by rw[← Zx T 0 h0];unfold bt;rw[a];rfl
 have f1:((T[0].toNat:Int) !=91)=ξ:=by rw[bne_iff_ne];omega
 have f1':((T[0].toNat:Int) !=123)=ζ:=by rw[bne_eq_false_iff_eq];omega
 have f2:((T[0].toNat:Int) ==123)=ξ:=by rw[yD];omega
 have hI:(0:Int)<(T.size:Int):=om;have hn:qs.length<=T.size:=by have:=Lp a;omega
 have Q:Hid (∀ k (z:k<qs.length) (w:Wo),pk (qs.map zo) k+(quoted qs[k].1).length+1+qs[k].2.length+1<=T.size/\1<=qs[k].2.length/\T.extract (pk (qs.map zo) k+(quoted qs[k].1).length+1) (pk (qs.map zo) k+(quoted qs[k].1).length+1+qs[k].2.length)=ze qs[k].2/\pk (qs.map zo) (k+1)=pk (qs.map zo) k+(quoted qs[k].1).length+1+qs[k].2.length+1/\qs.take (k+1)=qs.take k++[(qs[k].1,qs[k].2)] /\
   δ prog 124 #[T,ι κ ((pk (qs.map zo) k+(quoted qs[k].1).length+1:Nat):Int)] w (fun e w'=>e=ε (ι κ ((pk (qs.map zo) k+(quoted qs[k].1).length+1+qs[k].2.length:Nat):Int))/\Below w w w') /\
   δ prog 111 #[T,ι κ ((pk (qs.map zo) k:Nat):Int)] w fun e w'=>e=ε (τ #[(ze qs[k].1),ι κ ((pk (qs.map zo) k+(quoted qs[k].1).length:Nat):Int),θ ξ])/\Below w w w'):=fun k z w=>by
  have b:k<(qs.map zo).length:=om;have N:=FK a k b;have F:=FL a k b;have G:=Pf (qs.map zo) k b;have em:(qs.map zo)[k]=quoted qs[k].1++58 :: qs[k].2:=by simp[zo]
  rw[em]at N F G;rw[List.append_assoc]at N;simp only[yh,yp]at F G;obtain⟨ht,Z,I⟩:=H qs[k] (yt z);have D:T.data.toList.drop (pk (qs.map zo) k+(quoted qs[k].1).length+1)=qs[k].2++(joinT ((qs.map zo).drop (k+1))++[125]):=by
   have h1:=JC N;have S:=ZI (T:=T) (c:=58) (m:=qs[k].2++(joinT ((qs.map zo).drop (k+1))++[125])) (by rw[h1];rfl);exact S.2.2
  obtain⟨f,hf⟩:=ht _ _ D (Pe _ 125 (.inr rfl));have hs:=GF qs[k].1 T _ I (pk (qs.map zo) k) N;refine⟨om,?_,Ay D,om,yz z,A4 T _ _ f w om hf,?_⟩
  .cases h:qs[k].2 with
   | nil=>exact absurd h Z
   | cons _ _=>simp
  .have:=U2 T (pk (qs.map zo) k) w om om;rw[hs]at this;exact this.mono fun e w' h=>⟨h.2,h.1⟩
 have q:=zb (Pg a);have A:=zb fun (n:Nat) (w:Wo) (hn:n<=1000000)=>Xw n n w (ye _) om;rw[Y]at q;go_in;go_wp2;go_loopw [3,4] (fun v i wr=>∃ k:Nat,k<=qs.length/\i=ι κ ((pk (qs.map zo) k:Nat):Int)/\PR wr w v (qs.take k)/\Below w w wr) (fun _ i _=>T.size+1 - (intOf i).toNat)
 case atStart=>exact⟨0,yu _,rfl,World.ownsRow_lit (base:=w.heap.size) (e:=120) (size:=2) w #[] 0 (ye _) mo rfl,(yI _ _).alloc (ye _) _⟩
 case round=>
  obtain⟨k,z,rfl,l,hb⟩:=hrel;have r:(qs.take k).length=k:=by rw[ym];omega
  have HB:=zb hb;have hwsz:=hb.size;by_cases y:k<qs.length
  .obtain⟨k1,k2,k3,k4,k5,_,_⟩:=uh Q k y w;have L:=zb fun w=>(uh Q k y w).2.2.2.2.2.1;have HS:=zb fun w=>(uh Q k y w).2.2.2.2.2.2;have d:=zb k4;have R:=zb k5;have tl:((pk (qs.map zo) k:Nat):Int)<(T.size:Int) - 1:=om;obtain⟨x,len,j,rfl,X⟩:∃ x len j,u3=ς x len j/\len=k:=by
    rcases l.2 with ⟨I,h0'⟩ |⟨g,j,cur,I,_⟩
    .exact⟨_,_,_,I,om⟩
    .exact⟨_,_,_,I,r⟩
   obtain rfl:=X;have HD:=zb (uh A len wr om);generalize qs.take len=K at *;generalize pk (qs.map zo) len=P at *;generalize qs[len].2=t at *;generalize qs[len].1=o at *;obtain⟨M,hM⟩:∃ M,P+(quoted o).length=M:=⟨_,rfl⟩;rw[hM]at k3 k1 L d HS;have hPM:P<=M:=om;have U:((M:Nat):Int)+1=((M+1:Nat):Int):=om;obtain⟨B,C⟩:∃ B,M+1=B:=⟨_,rfl⟩;rw[C]at k3 k1 L d U;obtain⟨E,hE⟩:∃ E,B+t.length=E:=⟨_,rfl⟩;rw[hE]at k3 k1 L d;have hPE:B<=E:=om;have hPM1:P<B:=om;go_wp2_with fail;go_call HD as e w1 ⟨rfl,b1⟩;have p1:=l.below b1;have B1:=zb (zh HB b1);have hw1:=b1.size;go_wp2_with fail;go_call uh HS _ as e w1' ⟨rfl,b1'⟩;have p1':=p1.below b1';have O:=zb (zh B1 b1');have hw1':=b1'.size;go_wp2_with fail;go_call uh L _ as e w2 ⟨rfl,b2⟩;have p2:=p1'.below b2;have B2:=zb (zh O b2);have hw2:=b2.size;have s:w2.ownsRow w 120 2 (ς x len j) K.length (K.flatMap Zc):=p2;have hal:K.length<=1000000:=om;go_wp2_with (at_builtin;refine wpList_append_own _ rfl (.tmp 44) (.tmp 51) 116 rfl w 120 i0 (γ #[ByteArray.empty,ByteArray.empty]) 2 32 underlying116 W aa ab ad rfl dc _ _ _ rfl (s.alloc _) w2 1 1 (Zc (o,t)) rfl rfl (Yf _ _ _ _) (fun u hu=>by {simp[Zc]at hu;rcases hu with rfl | rfl<;>rfl}) mo om so ?_);intro v3 w3 J V _;have P3:Hid (PR w3 w v3 (K++[(o,t)])):=by
    show PR w3 w v3 (K++[(o,t)])
    unfold PR;rw[yh,Ρ,r];simpa using J
   have B3:=zb ((B2.alloc om _).grown V so (fun k z=>(s.lt k z).1));go_wp2;go_roundw
   case rel=>exact⟨len+1,om,by rw[uh d];go_num,by rw[uh R];exact uh P3,B3⟩
   case measure=>simp[intOf];omega
  .have b:k=qs.length:=om;have S:=uh q;rw[← b]at S;have tl:¬ ((pk (qs.map zo) k:Nat):Int)<(T.size:Int) - 1:=om;have e:qs.take k=qs:=yr om;rw[e]at l;have HP:=zb l;generalize pk (qs.map zo) k=P at *;go_wp2;go_ret;exact⟨_,rfl,HP,HB⟩
theorem Lq{α β:Type}(f:α->β):∀ (l1:List β) (l2:List α),l1.Perm (l2.map f)->∃ l3:List α,l3.Perm l2/\l3.map f=l1
 | [],l2,h=>by
  have:=h.length_eq;simp at this;obtain rfl:=yO this.symm;exact⟨[],List.Perm.refl _,rfl⟩
 | a :: r,l2,h=>by
  have g:=h.subset yq;obtain⟨b,i,rfl⟩:=yP.1 g;obtain⟨s,t,rfl⟩:=List.append_of_mem i;have j:r.Perm ((s++t).map f):=by
   rw[yx,yi]at h;rw[yx];exact (h.trans List.perm_middle).cons_inv
  obtain⟨l3,d,rfl⟩:=Lq f r (s++t) j;exact⟨b :: l3,(d.cons b).trans List.perm_middle.symm,rfl⟩
theorem Ha(h:a.Perm b):dl a=dl b:=by
 induction h with
 | nil=>rfl
 | cons x _ ih=>simp[dl,ih]
 | swap x y l=>simp only[dl];omega
 | trans _ _ h1 h2=>exact h1.trans h2
theorem Hc(h:a.Perm b):cl a=cl b:=by unfold cl;exact (h.map zn).sum_nat
def Pk(v:JV):Prop:=(ct v).length<=1000000->zn v<=1000000->∀ w:Wo,δ prog 120 #[σ (ze (ct v))] w fun e w'=>e=ε (τ #[ι κ (zJ v:Int),ι κ (zn v:Int)])/\Bw w w'
theorem Lr (T:Bs) (ps:List (List UInt8×List UInt8)) (vs:List JV) (w:Wo) (hpv:ps.map (·.2)=vs.map ct) (hc:cl vs<=1000000) (hd:dl vs<=1000000) (hn:ps.length<=1000000)
  (hp:δ prog 64 #[T] w fun e w'=>∃ v,e=ε v/\PR w' w v ps/\Below w w w')
  (hs:∀ v∈vs,∀ w:Wo,δ prog 120 #[σ (ze (ct v))] w fun e w'=>e=ε (τ #[ι κ (zJ v:Int),ι κ (zn v:Int)])/\Below w w w'):
  δ prog 120 #[T] w fun e w'=>e=ε (τ #[ι κ ((dl vs+1:Nat):Int),ι κ ((cl vs+1:Nat):Int)])/\Below w w w':=by
 have H:=zb hp;have U:ps.length=vs.length:=by have:=congrArg Ν hpv;simpa using this
 have o:Hid (∀ k (z:k<ps.length),∃ d s:Nat,dl (vs.take (k+1))=max (dl (vs.take k)) d/\cl (vs.take (k+1))=cl (vs.take k)+s/\d<=dl vs/\s<=cl vs/\∀ w:Wo,δ prog 120 #[(ze ps[k].2)] w fun e w'=>e=ε (τ #[ι κ (d:Int),ι κ (s:Int)])/\Below w w w'):=fun k z=>by
  have a:k<vs.length:=om;have e:ps[k].2=ct vs[k]:=by
   have:=congrArg (fun l=>l[k]?) hpv;simpa [z,a]using this
  refine⟨zJ vs[k],zn vs[k],?_,?_,Lf vs k a,?_,?_⟩
  .rw[yz a];exact Am _ _
  .rw[yz a];exact An _ _
  .have:=Wq (vs.map zn) k (by simpa using a);simpa [cl]using this
  .rw[e];exact hs _ (yt a)
 have u:Hid (∀ k,dl (vs.take k)<=dl vs/\cl (vs.take k)<=cl vs):=fun k=>by
  refine⟨Ao _ _,?_⟩;unfold cl;rw[List.map_take];exact N7 _ _
 have G:Hid (vs.take ps.length=vs):=yr om;go_in;go_wp2_with fail;go_call H as e w1 ⟨v1,rfl,p1,b1⟩;have I:=zb p1;have F:=zb b1;obtain⟨x,len,i,rfl,q⟩:∃ x len i,v1=ς x len i/\len=ps.length:=by
  rcases p1.2 with ⟨A,M⟩ |⟨g,i,J,A,_⟩
  .exact⟨_,_,_,A,M.symm⟩
  .exact⟨_,_,_,A,rfl⟩
 subst q;go_wp2_with fail;go_loopw [5,6,7] (fun dv cv iv wr=>∃ k:Nat,k<=ps.length/\iv=ι κ (k:Int)/\dv=ι κ ((dl (vs.take k):Nat):Int)/\cv=ι κ ((cl (vs.take k):Nat):Int)/\Below w1 w1 wr) (fun _ _ iv _=>ps.length - (intOf iv).toNat)
 case atStart=>exact⟨0,yu _,rfl,rfl,rfl,yI _ _⟩
 case round=>
  obtain⟨k,z,rfl,rfl,rfl,y⟩:=hrel;by_cases r:k<ps.length
  .have E:(k:Int)<(ps.length:Int):=om;obtain⟨g,B,P,Q,R,c0,c1⟩:=(I.below y).cells k r;injection P with he1 he2 he3;subst he1;subst he3;obtain⟨d,s,K,L,O,N,j⟩:=uh o k r;obtain⟨X,Y⟩:=uh u k;have b:=zb (j wr);have h:=zb K;have p:=zb L;have f:=zb y;generalize dl (vs.take k)=D at *;generalize cl (vs.take k)=C at *;generalize ze ps[k].2=W at *;by_cases V:D<d
   .have S:((D:Int)<(d:Int))=True:=eq_true om;have m:max D d=d:=om;rw[m]at h;go_wp2_with fail;go_call b as e w2 ⟨rfl,b2⟩;have n:=zb (f.trans (b2.mono f.size));go_wp2;go_roundw
    case rel=>exact⟨k+1,om,by go_num,by rw[uh h],by rw[uh p];go_num,n⟩
    case measure=>simp[intOf];omega
   .have S:((D:Int)<(d:Int))=False:=yR om;have m:max D d=D:=om;rw[m]at h;go_wp2_with fail;go_call b as e w2 ⟨rfl,b2⟩;have n:=zb (f.trans (b2.mono f.size));go_wp2;go_roundw
    case rel=>exact⟨k+1,om,by go_num,by rw[uh h],by rw[uh p];go_num,n⟩
    case measure=>simp[intOf];omega
  .have a:k=ps.length:=om;subst a;rw[uh G];have n:=zh F y;go_wp2;go_ret2;exact⟨by first | rfl | go_num,n⟩
mutual
def Jm:JV->Nat
 | .arr l=>U3 l+1
 | .obj m=>XC m+1
 | .nul=>0
 | .tt=>0
 | .ff=>0
 | .num _=>0
 | .str _=>0
def U3:JL->Nat
 | .nil=>0
 | .cons v r=>max (Jm v) (U3 r)
def XC:JM->Nat
 | .nil=>0
 | .cons _ v r=>max (Jm v) (XC r)
end
mutual
theorem Ls:∀ v:JV,Jm v<=zJ v
 | .nul=>yu _
 | .tt=>yu _
 | .ff=>yu _
 | .num _=>yu _
 | .str _=>yu _
 | .arr l=>by rw[Jm,zJ];have:=Hd l;omega
 | .obj m=>by rw[Jm,zJ];have:=He m;omega
theorem Hd:∀ l:JL,U3 l<=YO l
 | .nil=>ye _
 | .cons v r=>by rw[U3,YO];have:=Hd r;have:=Ls v;omega
theorem He:∀ m:JM,XC m<=Yd m
 | .nil=>ye _
 | .cons k v r=>by rw[XC,Yd];have:=He r;have:=Ls v;omega
end
def GI:List JV->Nat
 | []=>0
 | v :: r=>max (Jm v) (GI r)
theorem zir(h:a.Perm b):GI a=GI b:=by
 induction h with
 | nil=>rfl
 | cons x _ ih=>simp[GI,ih]
 | swap x y l=>simp only[GI];omega
 | trans _ _ h1 h2=>exact h1.trans h2
theorem Hf:∀ m:JM,XC m=GI (m.toL.map (·.2))
 | .nil=>rfl
 | .cons k v r=>by rw[XC,JM.toL,yi,GI,Hf r]
section
variable {T:Bs}
def ZU(T:Bs)(t:List UInt8)(d:Nat):Prop:=∀ op mo i m f r,op<=mo->T.data.toList.drop i=t++m->Yv T f op (max mo (op+d)) (i+t.length)=η r->∃ f',Yv T f' op mo i=η r
theorem ZU.nil:ZU T [] 0:=fun op mo _ _ f _ ho _ h=>⟨f,by rwa [show max mo (op+0)=mo by omega]at h⟩
theorem ZU.app{a b:List UInt8}(ha:ZU T a d)(hb:ZU T b e):ZU T (a++b) (max d e):=fun op mo i m f r ho h he=>by
 rw[List.append_assoc]at h;rw[yh,← Nat.add_assoc,show max mo (op+max d e)=max (max mo (op+d)) (op+e) by omega]at he;obtain⟨g,j⟩:=hb op _ (i+a.length) m f r om (JC h) he;exact ha op mo i (b++m) g r ho h j
theorem ZU.one(hc:VU c):ZU T [c] 0:=fun op mo i m f r ho h he=>by
 obtain⟨b,a,_⟩:=ZI h;refine⟨f+1,?_⟩;rw[Yv,yg b,GH a hc.1,a,N9 hc];exact he
theorem ZU.plain:∀ {t:List UInt8},(∀ c∈t,VU c)->ZU T t 0
 | [],_=>ZU.nil
 | c :: _,h=>ZU.app (a:=[c]) (d:=0) (e:=0) (ZU.one (h c yq)) (ZU.plain fun d hd=>h d (yw _ hd))
theorem ZU.quoted(hv:Ζ l=ξ):ZU T (Go.Proofs.YtgoafoojaceadaaGreatDoor.quoted l) 0:=fun op mo i m f r ho h he=>by
 obtain⟨b,a,d⟩:=Lh hv h;refine⟨f+1,?_⟩;rw[Yv,yg b,d,a,Li];exact he
theorem ZU.wrap{a b:UInt8}(ha:Wt a.toNat=ξ)(hb:U0 b.toNat=ξ)(ht:ZU T t d):ZU T (a ::(t++[b])) (d+1):=by
 have j:a.toNat≠34:=by intro e;rw[e]at ha;cases ha
 have k:b.toNat≠34:=by intro e;rw[e]at hb;cases hb
 have o:Wt b.toNat=ζ:=by
  simp only[U0,Bool.or_eq_true,yD]at hb;rcases hb with h | h<;>simp[Wt,h]
 intro g mo i m f r A h y;have w:T.data.toList.drop i=a ::(t++(b :: m)):=by rw[h];simp
 obtain⟨z,l,s⟩:=ZI w;obtain⟨q,n,x⟩:=ZI (JC s);have u:Yv T (f+1) (g+1) (max (max mo (g+1)) (g+1+d)) (i+1+t.length)=η r:=by
  rw[Yv,yg q,GH n k,n];simp only[yB,JD,o,hb,if_true,Bool.false_eq_true,if_false];rw[yf om];simp only[yB,Nat.add_sub_cancel];rw[show i+1+t.length+1=i+(a ::(t++[b])).length by simp;omega,show max (max (max mo (g+1)) (g+1+d)) g=max mo (g+(d+1)) by omega];exact y
 obtain⟨v,p⟩:=ht (g+1) _ (i+1) (b :: m) _ r om s u;refine⟨v+1,?_⟩;rw[Yv,yg z,GH l j,l];simp only[yB,JD,ha,if_true];exact p
theorem Hg:VU 44:=⟨dc,dc,dc,dc,dc⟩
theorem zis:VU 58:=⟨dc,dc,dc,dc,dc⟩
mutual
theorem Pl:∀ v:JV,zz v->ZU T (ct v) (Jm v)
 | .nul,_=>ZU.plain fun c hc=>((XA (l:=[110,117,108,108]) sm).2 c hc).1
 | .tt,_=>ZU.plain fun c hc=>((XA (l:=[116,114,117,101]) sm).2 c hc).1
 | .ff,_=>ZU.plain fun c hc=>((XA (l:=[102,97,108,115,101]) sm).2 c hc).1
 | .num l,h=>ZU.plain fun c hc=>((Xz h).2 c hc).1
 | .str l,h=>by rw[zz]at h;exact ZU.quoted h
 | .arr l,h=>by
  rw[zz]at h;rw[Jm];refine ZU.wrap rfl rfl ?_
  cases l with
  | nil=>exact ZU.nil
  | cons v r=>
   rw[qT]at h;exact ZU.app (Pl v h.1) (Hh r h.2)
 | .obj m,h=>by
  rw[zz]at h;rw[Jm];refine ZU.wrap rfl rfl ?_;have hm:=Hi m h;obtain⟨qs,hq,he⟩:=Lq (fun q:List UInt8×JV=>(q.1,ct q.2)) (zI (zm m)) m.toL (by rw[← Qn];exact Qc _);rw[← he,Hf,← zir (hq.map (·.2))];have hall:∀ q∈qs,ZU T (zo (q.1,ct q.2)) (Jm q.2):=fun q hqm=>hm q (hq.subset hqm);clear hm he hq;have hj:∀ qs:List (List UInt8×JV),(∀ q∈qs,ZU T (zo (q.1,ct q.2)) (Jm q.2))->ZU T (joinT ((qs.map fun q=>(q.1,ct q.2)).map zo)) (GI (qs.map (·.2))):=by
   intro qs;induction qs with
   | nil=>intro _;exact ZU.nil
   | cons q r ih=>
    intro hh;have:=ZU.app (a:=[44]) (d:=0) (ZU.one Hg) (ZU.app (hh q yq) (ih fun x hx=>hh x (yw _ hx)));rw[show max 0 (max (Jm q.2) (GI (r.map (·.2))))=max (Jm q.2) (GI (r.map (·.2))) by omega]at this;exact this
  cases qs with
  | nil=>exact ZU.nil
  | cons q r=>exact ZU.app (hall q yq) (hj r fun x hx=>hall x (yw _ hx))
theorem Hh:∀ l:JL,qT l->ZU T (joinT (zu l)) (U3 l)
 | .nil,_=>ZU.nil
 | .cons v r,h=>by
  rw[qT]at h;have:=ZU.app (a:=[44]) (d:=0) (ZU.one (T:=T) Hg) (ZU.app (Pl v h.1) (Hh r h.2));rw[show max 0 (max (Jm v) (U3 r))=max (Jm v) (U3 r) by omega]at this;exact this
theorem Hi:∀ m:JM,qR m->∀ q∈m.toL,ZU T (zo (q.1,ct q.2)) (Jm q.2)
 | .nil,_,q,hq=>by simp[JM.toL]at hq
 | .cons k v r,h,q,hq=>by
  rw[qR]at h;rw[JM.toL]at hq;rcases Β.1 hq with e | hq
  .rw[e];have:=ZU.app (ZU.quoted (T:=T) h.1) (ZU.app (a:=[58]) (d:=0) (ZU.one zis) (Pl v h.2.1));rw[show max 0 (max 0 (Jm v))=Jm v by omega]at this;exact this
  .exact Hi r h.2.2 q hq
end
end
theorem zit(v:JV)(h:zz v):∃ f,Yv (ze (ct v)) f 0 0 0=η (Jm v):=by
 refine Pl (T:=ze (ct v)) v h 0 0 0 [] 1 (Jm v) (ye _) (by rw[Zb];simp) ?_;rw[Yv,yf (by rw[zL];omega)];simp
theorem Hj:∀ (b:Nat) (cs:List (List UInt8)),(qY b cs).map (·.2)=cs
 | _,[]=>rfl
 | b,t :: r=>by simp[qY,Hj (b+1) r]
theorem VX{r:List UInt8}:0<(ze (c :: r)).size/\bt (ze (c :: r)) 0=c.toNat:=by
 refine⟨by rw[zL];simp,?_⟩;unfold bt;rw[Zb];rfl
theorem FN(v:JV)(c:UInt8)(r:List UInt8)(hc:ct v=c :: r)(h1:c.toNat≠91)(h2:c.toNat≠123)(hd:zJ v=1)(hn:zn v=1):Pk v:=by
 intro _ _ w;rw[hd,hn];obtain⟨a,b⟩:=VX (c:=c) (r:=r);refine Lr (ze (ct v)) [] [] w rfl (by simp[cl]) (by simp[dl]) sm ?_ (fun v hv=>by simp at hv);rw[hc];exact A5 _ w a (by rw[b];exact h1) (by rw[b];exact h2)
mutual
theorem Lt:∀ v:JV,zz v->Pk v
 | .nul,_=>FN .nul 110 _ rfl dc dc rfl rfl
 | .tt,_=>FN .tt 116 _ rfl dc dc rfl rfl
 | .ff,_=>FN .ff 102 _ rfl dc dc rfl rfl
 | .num l,h=>by
  have hp:=Xz h
  cases l with
  | nil=>exact absurd rfl hp.1
  | cons c r=>
   have:=(hp.2 c yq).1;exact FN (.num (c :: r)) c r rfl this.2.1 this.2.2.1 rfl rfl
 | .str l,_=>FN (.str l) 34 (qs l++[34]) rfl dc dc rfl rfl
 | .arr l,h=>by
  rw[zz]at h;intro hlen hcn w;have hs:=Hk l h;have hd:=(YP (.arr l)).1;have hct:(ct (.arr l)).length=hold (zu l).length+nl (zu l):=by
   show (qg (zu l)).length=_
   have:=Xx (zu l);simp[qg];omega
  have e1:zJ (.arr l)=dl l.toL+1:=by rw[zJ,UY]
  have e2:zn (.arr l)=cl l.toL+1:=by rw[zn,FJ]
  rw[e1]at hd;rw[e2]at hd hcn;rw[e1,e2];refine Lr _ (qY 0 (zu l)) l.toL w (by rw[Hj,Qd]) om om (by rw[Wu];unfold hold at hct;omega) (A6 l h w (by rw[zL];exact hlen)) (fun v hv=>?_);obtain⟨k,hk,rfl⟩:=Θ hv;have c1:zn l.toL[k]<=cl l.toL:=by have:=Wq (l.toL.map zn) k (by simpa using hk);simpa [cl]using this
  have n1:(ct l.toL[k]).length<=nl (zu l):=by have:=Wq ((zu l).map Ν) k (by rw[Qd];simpa using hk);simpa [nl,Qd]using this
  exact hs _ hv om om
 | .obj m,h=>by
  rw[zz]at h;intro hlen hcn w;have hs:=Hl m h;have hd:=(YP (.obj m)).1;have hct:=Y6 m;have e1:zJ (.obj m)=dl (m.toL.map (·.2))+1:=by rw[zJ,Wr]
  have e2:zn (.obj m)=cl (m.toL.map (·.2))+1:=by rw[zn,UZ];simp[cl,Function.comp_def]
  obtain⟨qs,hq,he⟩:=Lq (fun q:List UInt8×JV=>(q.1,ct q.2)) (zI (zm m)) m.toL (by rw[← Qn];exact Qc _);have hp2:=hq.map (·.2);rw[e1]at hd;rw[e2]at hd hcn;rw[e1,e2,← Ha hp2,← Hc hp2];have hml:(zI (zm m)).length=m.toL.length:=by rw[(Qc _).length_eq,Qn,yl]
  refine Lr _ (zI (zm m)) (qs.map (·.2)) w (by rw[← he];simp) (by rw[Hc hp2];omega) (by rw[Ha hp2];omega) (by unfold hold at hct;omega) (A9 m h w (by rw[zL];exact hlen)) (fun v hv=>?_);obtain⟨q,hqm,rfl⟩:=yP.1 hv;have hqm':=hq.subset hqm;have c1:zn q.2<=cl (m.toL.map (·.2)):=by
   have:=Ws (fun q=>zn q.2) hqm';simpa [cl,Function.comp_def]using this
  have n1:=Ws qr hqm';simp only[qr]at n1;exact hs q hqm' om om
theorem Hk:∀ l:JL,qT l->∀ v∈l.toL,Pk v
 | .nil,_,v,hv=>by simp[JL.toL]at hv
 | .cons x r,h,v,hv=>by
  rw[qT]at h;rw[JL.toL]at hv;rcases Β.1 hv with e | hv
  .rw[e];exact Lt x h.1
  .exact Hk r h.2 v hv
theorem Hl:∀ m:JM,qR m->∀ q∈m.toL,Pk q.2
 | .nil,_,q,hq=>by simp[JM.toL]at hq
 | .cons k x r,h,q,hq=>by
  rw[qR]at h;rw[JM.toL]at hq;rcases Β.1 hq with e | hq
  .rw[e];exact Lt x h.2.1
  .exact Hl r h.2.2 q hq
end
theorem ziu (T:Bs) (r f d c:Nat) (w:Wo) (hT:T.size<=1000000) (h:Yv T f 0 0 0=η r) (hrd:r<=d) (hd:d<=1000000) (hc:c<=1000000) (q:Bool) (hq0:q=decide (d<=100/\c<=3000))
  (hs:∀ w:Wo,δ prog 120 #[T] w fun e w'=>e=ε (τ #[ι κ (d:Int),ι κ (c:Int)])/\Below w w w'):
  δ prog 60 #[T] w fun e w'=>e=ε (θ q)/\Below w w w':=by
 have b:=zb hq0;clear hq0;have i:=zb fun (j:Nat) (w:Wo) (hj:j<T.size)=>U2 T j w om om;have k:=zb hs;have H0:=zb h;go_in;go_wp2;go_loopw [3,4,5] (fun ov mv iv wr=>∃ (y mo j g:Nat),ov=ι κ (y:Int)/\mv=ι κ (mo:Int)/\iv=ι κ (j:Int)/\j<=T.size/\y<=mo/\mo<=j/\Yv T g y mo j=η r/\Below w w wr) (fun _ _ iv _=>T.size - (intOf iv).toNat)
 case atStart=>exact⟨0,0,0,f,rfl,rfl,rfl,yu _,ye _,ye _,H0,yI _ _⟩
 case round=>
  obtain⟨y,mo,j,g,rfl,rfl,rfl,hj,hop,hmo,a,N⟩:=hrel;obtain⟨g,rfl⟩:∃ g',g=g'+1:=by cases g with
   | zero=>simp[Yv]at a
   | succ g=>exact⟨g,rfl⟩
  rw[Yv]at a;by_cases K:j<T.size
  .rw[yg K]at a;have aa:(j:Int)<(T.size:Int):=om;have C:=Zx T j K;obtain⟨n,H,o,u,W⟩:∃ j2,Yu T j=η j2/\∃ o,JD (bt T j) y=η o/\Yv T g o (max mo o) j2=η r:=by
    cases H:Yu T j with
    | none=>rw[H]at a;simp at a
    | some j2=>
     rw[H]at a;simp only[yB]at a
     cases u:JD (bt T j) y with
     | none=>rw[u]at a;simp at a
     | some o=>rw[u]at a;exact⟨j2,rfl,o,rfl,by simpa using a⟩
   have F:=AX H K;have E:=F.2;have hjn:=F.1;obtain⟨s,p⟩:=AY H;have z:=zb N;clear H F N k;obtain⟨x,hx⟩:∃ x,bt T j=x:=⟨_,rfl⟩;have f34:((T[j].toNat:Int) ==34)=decide (x=34):=bI (C ▸ hx) 34;have f91:((T[j].toNat:Int) ==91)=decide (x=91):=bI (C ▸ hx) 91;have Y:((T[j].toNat:Int) ==123)=decide (x=123):=bI (C ▸ hx) 123;have f93:((T[j].toNat:Int) ==93)=decide (x=93):=bI (C ▸ hx) 93;have Z:((T[j].toNat:Int) ==125)=decide (x=125):=bI (C ▸ hx) 125;have hoj:=AZ u;obtain⟨X,M,L⟩:∃ m,max mo o=m/\(mo<o/\m=o∨¬ mo<o/\m=mo):=⟨_,rfl,om⟩;rw[M]at W;have S:=zb W;clear W M;rw[hx]at s p u;by_cases J:x=34
   .subst J;obtain⟨l,hq⟩:=p rfl;obtain rfl:y=o:=by injection u
    have B:=zb (uh i j wr K);rw[hq]at B;obtain rfl:X=mo:=by omega
    have Q:¬ (X:Int)<(y:Int):=om;clear p s hq C hx i u L;go_wp2_with fail;go_call B as e w2 ⟨b2,rfl⟩;have R:=zb (zh z b2);clear B b2;go_wp2;go_roundw
    case rel=>exact⟨y,X,n,g,by go_num,by go_num,by go_num,E,om,om,S,R⟩
    case measure=>simp[intOf];omega
   .have hnI:(j:Int)+1=(n:Int):=by have:=s J;omega
    have V:=Lo u;clear p s C hx i u;rcases V with ⟨rfl,v⟩ |⟨rfl,v⟩ |⟨rfl,v⟩ |⟨rfl,v⟩ |⟨c1,c2,c3,c4,v⟩
    all_goals (
     rcases L with ⟨P,D⟩ |⟨P,D⟩
     .have Q:(mo:Int)<(o:Int):=om;subst D;go_wp2
      all_goals (
       go_roundw
       case rel=>exact⟨_,_,n,g,by go_num,by go_num,by go_num,E,om,om,S,z⟩
       case measure=>simp[intOf];omega)
     .have Q:¬ (mo:Int)<(o:Int):=om;subst D;go_wp2
      all_goals (
       go_roundw
       case rel=>exact⟨_,_,n,g,by go_num,by go_num,by go_num,E,om,om,S,z⟩
       case measure=>simp[intOf];omega))
  .rw[yf K]at a;injection a with a;subst a;have z:=zb N;have tl:¬ (j:Int)<(T.size:Int):=om;clear N i;by_cases P:100<mo
   .have Q:(100:Int)<(mo:Int):=om;have A:Hid (q=ζ):=zb (by rw[uh b,decide_eq_false_iff_not];omega);clear P k;go_wp2;go_ret;exact⟨by rw[uh A];rfl,z⟩
   .have Q:¬ (100:Int)<(mo:Int):=om;have G:=zb (uh k wr);clear P k;by_cases O:d<=100
    .have t1:((d:Int)<=100)=True:=eq_true om;have s1:decide ((d:Int)<=100)=ξ:=yj om;by_cases U:c<=3000
     .have t2:((c:Int)<=3000)=True:=eq_true om;have s2:decide ((c:Int)<=3000)=ξ:=yj om;have A:Hid (q=ξ):=zb (by rw[uh b,decide_eq_true_iff];exact⟨O,U⟩);clear O U;go_wp2_with fail;go_call G as e w2 ⟨rfl,b2⟩;have I:=zh z b2;clear G;go_wp2;go_ret;exact⟨by rw[uh A];rfl,I⟩
     .have t2:((c:Int)<=3000)=False:=yR om;have s2:decide ((c:Int)<=3000)=ζ:=yk om;have A:Hid (q=ζ):=zb (by rw[uh b,decide_eq_false_iff_not];omega);clear O U;go_wp2_with fail;go_call G as e w2 ⟨rfl,b2⟩;have I:=zh z b2;clear G;go_wp2;go_ret;exact⟨by rw[uh A];rfl,I⟩
    .have t1:((d:Int)<=100)=False:=yR om;have s1:decide ((d:Int)<=100)=ζ:=yk om;have A:Hid (q=ζ):=zb (by rw[uh b,decide_eq_false_iff_not];omega);clear O;go_wp2_with fail;go_call G as e w2 ⟨rfl,b2⟩;have I:=zh z b2;clear G;go_wp2;go_ret;exact⟨by rw[uh A];rfl,I⟩
theorem Lu(v:JV)(hok:zz v)(w:Wo)(hl:(ct v).length<=1000000)(hc:zn v<=1000000):
  δ prog 60 #[σ (ze (ct v))] w fun e w'=>e=ε (θ (decide (zJ v<=100/\zn v<=3000)))/\Below w w w':=by
 obtain⟨f,a⟩:=zit v hok;have b:=(YP v).1;exact ziu _ (Jm v) f (zJ v) (zn v) w (by rw[zL];exact hl) a (Ls v) om hc _ rfl (fun w=>Lt v hok hl hc w)
theorem ziv (s:Bs) (i:Nat) (w:Wo) (hs:s.size<=1048576) (hi:i<s.size) (h91:bt s i=91)
  (IH:∀ (j:Nat) (w:Wo),i<j->j<=s.size->δ prog 121 #[.string s,ι κ j] w (GP w (val s j))):
  δ prog 169 #[.string s,ι κ i] w (GP w (val s i)):=by
 have m:=zb (D7 s hs);have g0:=Ze s (i+1);have g1:=(Jz (s:=s) (i:=i+1) om).2;have HV:=zb (NS h91);have aa:=zb IH;generalize hk0:sk s (i+1)=u at *;go_in;go_wp2_with fail;go_call (uh m).1 _ (i+1) _ om as e w1 ⟨rfl,rfl⟩;rw[hk0];go_wp2_with fail;go_call (uh m).2 93 u _ dc as e w1 ⟨rfl,rfl⟩;by_cases h:bt s u=93
 .rw[yj h];have HR:Hid (val s i=η (.arr .nil,u+1)):=zb (by rw[uh HV,yg h]);go_wp2;go_returns;rw[uh HR];exact⟨(ZO w _).trans ((yI _ _).alloc sm _),rfl⟩
 .rw[yk h];have HR:Hid (val s i=(elems s u).map fun q=>(.arr q.1,q.2)):=zb (by rw[uh HV,yf h]);go_wp2_with fail;go_loopg [1] (s.size+1 - u) (fun g k wr=>∃ (j:Nat) (f:JL),g=s.size+1 - j/\k=ι κ (j:Int)/\u<=j/\j<=s.size/\Zs w ⟨#[]⟩ 0 ζ ζ ζ wr/\Zs (w.heap.size+1) (ze (91 :: QG f)) 0 ξ (qG f) (qh f) wr/\Below w w wr/\(QG f).length<=31*j/\elems s u=(elems s j).map fun q=>(f.app q.1,q.2))
  case atStart=>
   refine⟨u,.nil,rfl,rfl,ye _,g1,?_,?_,(ZO w _).trans ((yI _ _).alloc sm _),by simp[QG],by simp[JL.app]⟩
   .show (World.alloc _ _).heap[_]?=_
    rw[Lib.alloc_old _ _ _ sm];exact yH w _
   .have:=yH (w.alloc (Qb ⟨#[]⟩ 0 ζ ζ ζ)) (Qb (ze [91]) 0 ξ ζ ζ);rw[show (w.alloc (Qb ⟨#[]⟩ 0 ζ ζ ζ)).heap.size=w.heap.size+1 from by simp]at this;exact this
  case round=>
   obtain⟨j,f,hg,rfl,hj1,hj2,hr,z,hb,hpl,hst⟩:=hrel;have K:=zb hst;have HG:=zb z;have J:=zb hr;have HB:=zb hb;have hgl:=z.lt;have R:=zb (uh aa j wr om om)
   cases hv:val s j with
   | none=>
    have HN:Hid (val s i=ν):=by
     show _=_
     rw[uh HR,uh K,UR,hv];rfl
    rw[hv]at R;go_wp2_with fail;go_call R as e w2 ⟨b2,t,n,bb,tw,rfl⟩;have R2:=J.below b2;have B2:=zh HB b2;have l:=R2.alloc (Qb t n ζ bb tw);have P:Below w w (w2.alloc (Qb t n ζ bb tw)):=B2.alloc (by have:=b2.size;omega) _;have c0:=l.c0;have c1:=l.c1;have c2:=l.c2;have c3:=l.c3;have c4:=l.c4;have f0:=l.fz 0;have f1:=l.fz 1;have f2:=l.fz 2;have f3:=l.fz 3;have f4:=l.fz 4;have O:=zb (l.put ⟨#[]⟩ 0 0 rfl ζ ζ ζ);have G:=zb (Vl P (ye _) (σ ⟨#[]⟩) (ι κ 0) (θ ζ) (θ ζ) (θ ζ));simp only[QF];go_wp2;try simp only[Exit.inBlock,Exit.then]
    refine bodyPost_ret (Vm rfl rfl O) rfl ?_;exact GP.bad HN G
   | some q=>
    obtain⟨v,n⟩:=q;have hvo:=VO hv;have hvl:=NX hv;have HPL:Hid ((QG (f.app (.cons v .nil))).length<=31*n):=by
     show _<=_
     rw[D6];simp only[yh,yp,yE];omega
    have z1:(ze (91 :: QG f)).size<=40000000:=by rw[zL];simp only[yp];omega
    have z2:(ze (ct v)).size<=40000000:=by rw[zL];omega
    have z3:(ze (91 ::(QG f++ct v))).size<=80000000:=by rw[zL];simp only[yp,yh];omega
    have hn1:=Ze s n;have hn2:=(Jz hvo.2).2;have B:Hid (elems s u=(if bt s (sk s n)=93 then η (JL.cons v .nil,sk s n+1)else if bt s (sk s n)=44 then (elems s (sk s (sk s n+1))).map fun r=>(JL.cons v r.1,r.2)else ν).map fun q=>(f.app q.1,q.2)):=by
     show _=_
     rw[uh K,UR,hv];rfl
    rw[hv]at R;have hcat1:ze (91 :: QG f)++ze (ct v)=ze (91 ::(QG f++ct v)):=Vn _ _;have Y:Hid (ze (91 ::(QG f++ct v))++⟨#[93]⟩=ze (ct (.arr (f.app (.cons v .nil))))):=by
     show _=_
     rw[show (⟨#[93]⟩:Bs)=ze [93]from rfl,Vn,ct,qg,← zgY];simp
    have X:Hid (ze (91 ::(QG f++ct v))++⟨#[44]⟩=ze (91 :: QG (f.app (.cons v .nil)))):=by
     show _=_
     rw[show (⟨#[44]⟩:Bs)=ze [44]from rfl,Vn,D6];simp
    have I:Hid (qG (f.app (.cons v .nil))=(qG f || zY v)):=by show _=_;rw[D1];simp[qG]
    have M:Hid (qh (f.app (.cons v .nil))=(qh f || zF v)):=by show _=_;rw[D3];simp[qh]
    go_wp2_with fail;go_call R as e w2 ⟨b2,rfl⟩;simp only[QF];have l:=zb ((J.below b2).alloc (Qb (ze (ct v)) n ξ (zY v) (zF v)));have Q:=(HG.below b2).alloc (Qb (ze (ct v)) n ξ (zY v) (zF v));have S:Zs w2 (ze (ct v)) n ξ (zY v) (zF v) (w2.alloc (Qb (ze (ct v)) n ξ (zY v) (zF v))):=yH w2 _;have P:Hid (Below w w (w2.alloc (Qb (ze (ct v)) n ξ (zY v) (zF v)))):=(zh HB b2).alloc (by have:=b2.size;omega) _;have hw2:=b2.size;simp only[Qb]at Q S l P;generalize qG f=ba at *;generalize qh f=ta at *;generalize zY v=T at *;generalize zF v=U at *;generalize ze (91 :: QG f)=sa at *;generalize ze (91 ::(QG f++ct v))=sb at *;generalize ze (ct v)=sc at *;generalize hw3:w2.alloc (χ #[.string sc,ι κ (n:Int),θ ξ,θ T,θ U] 197 (0,0))=w3 at *;have E:w2.heap.size≠w.heap.size+1:=om;have ok3:=S.c2;have go0:=Q.c0;have gf0:=Q.fz 0;have v0:=S.c0;have V:=Q.set0 sb;have V4:=S.other (p:=⟨w.heap.size+1,0,ν⟩) E (.string sb);have W:=V.set3 (ba || T);have V5:=V4.other (p:=⟨w.heap.size+1,3,ν⟩) E (θ (ba || T));have o:=W.set4 (ta || U);have V6:=V5.other (p:=⟨w.heap.size+1,4,ν⟩) E (θ (ta || U));have g43:=V.c3;have v43:=V4.c3;have f43:=V.fz 3;have g54:=W.c4;have v54:=V5.c4;have f54:=W.fz 4;have v61:=V6.c1;have Z:=zb o;generalize hbb:(ba || T)=bb at *;generalize htt:(ta || U)=tt at *;have hb':=EU _ _ _ hbb;have ht':=EU _ _ _ htt;rcases hb' with ⟨rfl,rfl⟩ |⟨rfl,rfl⟩<;>rcases ht' with ⟨rfl,rfl⟩ |⟨rfl,rfl⟩
    all_goals
     go_wp2_with fail;go_call (uh m).1 _ n _ rfl as e w6 ⟨rfl,hw6⟩;have o:=hw6 ▸ uh Z;have N:=hw6 ▸ ((l.other (p:=⟨w.heap.size+1,0,ν⟩) (by show _≠w.heap.size+1;omega) _).other (p:=⟨w.heap.size+1,3,ν⟩) (by show _≠w.heap.size+1;omega) _).other (p:=⟨w.heap.size+1,4,ν⟩) (by show _≠w.heap.size+1;omega) _;have B6:=hw6 ▸ ((P.setCell (p:=⟨w.heap.size+1,0,ν⟩) (by show _<=w.heap.size+1;omega) _).setCell (p:=⟨w.heap.size+1,3,ν⟩) (by show _<=w.heap.size+1;omega) _).setCell (p:=⟨w.heap.size+1,4,ν⟩) (by show _<=w.heap.size+1;omega) _;have A:=zb B6;have C:=zb N;have y:=zb o;generalize sk s n=k at *;go_wp2_with fail;go_call (uh m).2 93 k _ dc as e w7 ⟨rfl,rfl⟩;by_cases h:bt s k=93
     .rw[yj h];have HVV:Hid (val s i=η (.arr (f.app (.cons v .nil)),k+1)):=by
       show _=_
       rw[uh HR,uh B,yg h];rfl
      have hfi:=uh Y;generalize hsf:ze (ct (.arr (f.app (.cons v .nil))))=F at *;have D:=zb hsf;have o:=uh y;have c0:=o.c0;have f0:=o.fz 0;have H:=o.set0 F;have c71:=H.c1;have f71:=H.fz 1;have G8:=H.set1 ((k:Int)+1) (k+1) om;have R8:=(C.other (p:=⟨w.heap.size+1,0,ν⟩) (by show _≠w.heap.size+1;omega) (.string F)).other (p:=⟨w.heap.size+1,1,ν⟩) (by show _≠w.heap.size+1;omega) (ι κ ((k:Int)+1));have B8:=(A.setCell (p:=⟨w.heap.size+1,0,ν⟩) (by show _<=w.heap.size+1;omega) (.string F)).setCell (p:=⟨w.heap.size+1,1,ν⟩) (by show _<=w.heap.size+1;omega) (ι κ ((k:Int)+1));obtain⟨a0,a1',a2,a3,a4⟩:=G8.cells;have a1:=a1'.trans (show _=η (Value.int .i64 ((k:Int)+1)) by rw[show ((k+1:Nat):Int)=(k:Int)+1 from by omega]);obtain⟨r0,r1,r2,r3,r4⟩:=R8.cells;obtain⟨q0,q1,q2,q3,q4⟩:=R8.fzs;have O:=zb (R8.copyTo G8 ((k:Int)+1) om);have G:=zb (fun a b c d e=>Vl B8 (ye _) a b c d e);go_wp2;try simp only[Exit.inBlock,Exit.then]
      refine bodyPost_ret (Vm rfl rfl O) rfl ?_;rw[uh HVV];refine⟨uh G _ _ _ _ _,?_⟩;show _=Ending.returned (QF (ze (ct (.arr (f.app (.cons v .nil))))) (k+1) ξ (qG (f.app (.cons v .nil))) (qh (f.app (.cons v .nil))))
      rw[uh D,uh I,uh M]
     .rw[yk h];go_wp2_with fail;go_call (uh m).2 44 k _ dc as e w8 ⟨rfl,rfl⟩;by_cases x:bt s k=44
      .rw[yj x];have hkl:k<s.size:=Zi om;have L:Hid (elems s u=(elems s (sk s (k+1))).map fun q=>((f.app (.cons v .nil)).app q.1,q.2)):=by
        show _=_
        rw[uh B,yf h,yg x,Option.map_map];congr 1;funext q;simp[JL.app_assoc,JL.app]
       have hco:=uh X;generalize hsf:ze (91 :: QG (f.app (.cons v .nil)))=F at *;have D:=zb hsf;have o:=uh y;have c0:=o.c0;have f0:=o.fz 0;have H:=zb (o.set0 F);have R7:=zb (C.other (p:=⟨w.heap.size+1,0,ν⟩) (by show _≠w.heap.size+1;omega) (.string F));have B7:=zb (A.setCell (p:=⟨w.heap.size+1,0,ν⟩) (by show _<=w.heap.size+1;omega) (.string F));go_wp2_with fail;go_call (uh m).1 _ (k+1) _ om as e w9 ⟨rfl,hw9⟩;have G9:=hw9 ▸ uh H;have R9:=hw9 ▸ uh R7;have B9:=hw9 ▸ uh B7;have hs1:=Ze s (k+1);have hs2:=(Jz (s:=s) (i:=k+1) om).2;go_wp2;go_roundg (s.size+1 - sk s (k+1))
       case rel=>exact⟨sk s (k+1),f.app (.cons v .nil),rfl,rfl,om,hs2,R9,by rw[uh D,uh I,uh M];exact G9,B9,by have:=uh HPL;omega,L⟩
       case measure=>omega
      .rw[yk x];have HN:Hid (val s i=ν):=by
        show _=_
        rw[uh HR,uh B,yf h,yf x];rfl
       have N:=uh C;obtain⟨r0,r1,r2,r3,r4⟩:=N.cells;obtain⟨q0,q1,q2,q3,q4⟩:=N.fzs;have O:=zb (N.put ⟨#[]⟩ 0 0 rfl ζ ζ ζ);have G:=zb (Vl A (ye _) (σ ⟨#[]⟩) (ι κ 0) (θ ζ) (θ ζ) (θ ζ));go_wp2;try simp only[Exit.inBlock,Exit.then]
       refine bodyPost_ret (Vm rfl rfl O) rfl ?_;exact GP.bad HN G
theorem U4(s:Bs):∀ f i,(∀ v j,pv s f i=η (v,j)->zn v+i<=j)/\(∀ l j,pa s f i=η (l,j)->Q1 l+i<=j)/\(∀ m j,po s f i=η (m,j)->Qu m+i<=j)
 | 0,i=>⟨fun v j h=>by simp[pv]at h,fun v j h=>by simp[pa]at h,fun v j h=>by simp[po]at h⟩
 | f+1,i=>by
  refine⟨fun v j h=>?_,fun l j h=>?_,fun m j h=>?_⟩
  .rw[pv]at h;have g:=Ze s (i+1);split at h
   .split at h
    .have:=Zi (s:=s) (i:=sk s (i+1)) om;injection h with h;injection h with hv h;subst hv;(try simp only[zn]);(try simp only[Q1]);(try simp only[Qu]);omega
    .simp only[yA]at h;obtain⟨⟨l,k⟩,b,h⟩:=h;injection h with hv h;have:=(U4 s f (sk s (i+1))).2.1 l k b;subst hv;simp only at h;(try simp only[zn]);(try simp only[Q1]);(try simp only[Qu]);omega
   .split at h
    .split at h
     .have:=Zi (s:=s) (i:=sk s (i+1)) om;injection h with h;injection h with hv h;subst hv;(try simp only[zn]);(try simp only[Q1]);(try simp only[Qu]);omega
     .simp only[yA]at h;obtain⟨⟨l,k⟩,b,h⟩:=h;injection h with hv h;have:=(U4 s f (sk s (i+1))).2.2 l k b;subst hv;simp only at h;(try simp only[zn]);(try simp only[Q1]);(try simp only[Qu]);omega
    .split at h
     .simp only[yA]at h;obtain⟨⟨l,k⟩,b,h⟩:=h;injection h with hv h;have:=Yt b;subst hv;simp only at h;(try simp only[zn]);(try simp only[Q1]);(try simp only[Qu]);omega
     .split at h
      .rename_i hw;have:=Xp hw;injection h with h;injection h with hv h;subst hv;(try simp only[zn]);(try simp only[Q1]);(try simp only[Qu]);omega
      .split at h
       .rename_i hw;have:=Xq hw;injection h with h;injection h with hv h;subst hv;(try simp only[zn]);(try simp only[Q1]);(try simp only[Qu]);omega
       .split at h
        .rename_i hw;have:=FE hw;injection h with h;injection h with hv h;subst hv;(try simp only[zn]);(try simp only[Q1]);(try simp only[Qu]);omega
        .simp only[yA]at h;obtain⟨⟨l,k⟩,b,h⟩:=h;injection h with hv h;have:=FD b;subst hv;simp only at h;(try simp only[zn]);(try simp only[Q1]);(try simp only[Qu]);omega
  .rw[pa]at h;simp only[Α]at h;obtain⟨⟨v,k⟩,b,h⟩:=h;have q:=(U4 s f i).1 v k b;have o:=Ze s k;simp only at h;split at h
   .have:=Zi (s:=s) (i:=sk s k) om;injection h with h;injection h with hv h;subst hv;(try simp only[zn]);(try simp only[Q1]);(try simp only[Qu]);omega
   .split at h
    .simp only[yA]at h;obtain⟨⟨l,n⟩,d,h⟩:=h;injection h with hv h;have:=(U4 s f _).2.1 l n d;have p:=Ze s (sk s k+1);subst hv;simp only at h;(try simp only[Q1]);(try simp only[Qu]);omega
    .cases h
  .rw[po]at h;simp only[Α]at h;obtain⟨⟨u,a⟩,r,h⟩:=h;have y:=Yt r;simp only at h;split at h
   .simp only[Α]at h;obtain⟨⟨v,k⟩,b,h⟩:=h;have q:=(U4 s f _).1 v k b;have w:=Ze s a;have x:=Ze s (sk s a+1);have o:=Ze s k;simp only at h;split at h
    .have:=Zi (s:=s) (i:=sk s k) om;injection h with h;injection h with hv h;subst hv;(try simp only[zn]);(try simp only[Q1]);(try simp only[Qu]);omega
    .split at h
     .simp only[yA]at h;obtain⟨⟨l,n⟩,d,h⟩:=h;injection h with hv h;have:=(U4 s f _).2.2 l n d;have p:=Ze s (sk s k+1);subst hv;simp only at h;(try simp only[Qu]);omega
     .cases h
   .cases h
theorem Hm(h:val s i=η (v,j)):zn v+i<=j:=(U4 s _ i).1 v j h
def Qv(s:Bs):Option JV:=(val s (sk s 0)).bind fun q=>if sk s q.2=s.size then η q.1 else ν
def Zn(s:Bs):Sum Nat JV:=
 if 20000<s.size then .inl 1 else
 match Qv s with
 | none=>.inl 2
 | some v=>if zY v then .inl 3 else if zF v then .inl 4 else if 100<zJ v∨3000<zn v then .inl 5 else .inr v
theorem FP(h:Qv s=η v):zz v/\zn v<=s.size/\(ct v).length<=30*s.size:=by
 unfold Qv at h
 cases hv:val s (sk s 0)with
 | none=>rw[hv]at h;simp at h
 | some q=>
  obtain⟨u,j⟩:=q;have e:u=v:=by
   rw[hv]at h;simp only[yB]at h;split at h
   .injection h
   .cases h
  subst e;have a:=Hm hv;have b:=NX hv;have d:=VO hv;exact⟨Ai hv,om,om⟩
def qk(s:Bs):ω:=match Zn s with
 | .inl c=>.tuple #[σ ⟨#[]⟩,ι κ (c:Int)]
 | .inr v=>.tuple #[σ (ze (ct v)),ι κ 0]
theorem Hn(h:Zn s= .inr v):s.size<=20000/\Qv s=η v/\zF v=ζ/\zY v=ζ/\zJ v<=100/\zn v<=3000:=by
 unfold Zn at h;split at h
 .cases h
 .rename_i hs
  cases hd:Qv s with
  | none=>rw[hd]at h;simp at h
  | some u=>
   rw[hd]at h;simp only at h;split at h
   .cases h
   .rename_i hb;split at h
    .cases h
    .rename_i ht;split at h
     .cases h
     .rename_i hg;injection h with h;subst h;exact⟨om,rfl,by simpa using ht,by simpa using hb,om,om⟩
theorem XD{c:Nat}(h:Zn s= .inl c):1<=c/\c<=5:=by
 unfold Zn at h;split at h
 .injection h with h;omega
 .split at h
  .injection h with h;omega
  .split at h
   .injection h with h;omega
   .split at h
    .injection h with h;omega
    .split at h
     .injection h with h;omega
     .cases h
def XE(t:List UInt8):Bool:=decide (1<=t.length) && decide (t.length<=6) && !(decide ((t.getD 0 0).toNat=48) && decide (1<t.length)) && t.all fun c=>zS c.toNat
def Qo(t:List UInt8):Option Nat:=if XE t=ξ then η (qN t)else ν
theorem VY:XE t=ξ↔1<=t.length/\t.length<=6/\¬ ((t.getD 0 0).toNat=48/\1<t.length)/\∀ c∈t,zS c.toNat=ξ:=by
 unfold XE;simp only[Bool.and_eq_true,decide_eq_true_eq,Bool.not_eq_true',Bool.and_eq_false_iff,decide_eq_false_iff_not,List.all_eq_true];constructor
 .rintro⟨⟨⟨a,b⟩,c⟩,d⟩;exact⟨a,b,fun ⟨x,y⟩=>c.elim (fun h=>h x) (fun h=>h y),d⟩
 .rintro⟨a,b,c,d⟩;refine⟨⟨⟨a,b⟩,?_⟩,d⟩;by_cases h:(t.getD 0 0).toNat=48
  .exact .inr fun y=>c ⟨h,y⟩
  .exact .inl h
theorem ziw:∀ (n:Nat) (t:List UInt8),t.length=n->t≠[]->(t.getD 0 0).toNat≠48->(∀ c∈t,zS c.toNat=ξ)->1<=qN t:=by
 intro n;induction n with
 | zero=>intro t h j;exact absurd (yO h) j
 | succ n ih=>
  intro t h _ d f;rcases List.eq_nil_or_concat t with e |⟨a,c,e⟩
  .subst e;simp at h
  .rw[List.concat_eq_append]at e;subst e;rw[Kr];have k:=QW.1 (f c sm);by_cases b:a=[]
   .subst b;have g:c.toNat≠48:=d;simp[qN];omega
   .have i:(a.getD 0 0).toNat≠48:=by
     cases a with
     | nil=>exact absurd rfl b
     | cons x r=>exact d
    have:=ih a (by simpa using h) b i (fun x hx=>f x (by simp[hx]));omega
theorem zix:∀ (n:Nat) (t:List UInt8),t.length=n->t≠[]->¬ ((t.getD 0 0).toNat=48/\1<t.length)->(∀ c∈t,zS c.toNat=ξ)->Zj (qN t)=t:=by
 intro n;induction n with
 | zero=>intro t h l;exact absurd (yO h) l
 | succ n ih=>
  intro t h _ j i;rcases List.eq_nil_or_concat t with e |⟨a,c,e⟩
  .subst e;simp at h
  .rw[List.concat_eq_append]at e;subst e;have m:=QW.1 (i c sm);have f:Γ (48+(c.toNat - 48))=c:=by rw[show 48+(c.toNat - 48)=c.toNat by omega];exact UInt8.ofNat_toNat
   rw[Kr];by_cases b:a=[]
   .subst b;simp only[qN,List.foldl_nil,Nat.zero_mul,Μ,Ε];rw[J2 om,f]
   .have k:1<=a.length:=by cases a with
     | nil=>exact absurd rfl b
     | cons _ _=>simp
    have g:(a.getD 0 0).toNat≠48:=by
     intro e;refine j ⟨?_,so⟩
     cases a with
     | nil=>exact absurd rfl b
     | cons x r=>exact e
    have d:∀ x∈a,zS x.toNat=ξ:=fun x hx=>i x (by simp[hx]);have o:=ziw _ a rfl b g d;rw[UU om,show (qN a*10+(c.toNat - 48)) / 10=qN a by omega,show (qN a*10+(c.toNat - 48)) % 10=c.toNat - 48 by omega,J2 (n:=c.toNat - 48) om,f];rw[ih a (by simpa using h) b (fun e=>g e.1) d]
theorem Pm(h:Qo t=η i):Zj i=t:=by
 unfold Qo at h;split at h
 .rename_i hk;injection h with h;subst h;obtain⟨a,b,c,d⟩:=VY.1 hk;exact zix _ t rfl (by intro e;subst e;simp at a) c d
 .cases h
theorem Pn:∀ (n:Nat),Zj n≠[]/\(∀ c∈Zj n,zS c.toNat=ξ)/\qN (Zj n)=n/\¬ (((Zj n).getD 0 0).toNat=48/\1<(Zj n).length):=by
 intro n;induction n using Φ with
 | _ n ih=>
  by_cases h:n<10
  .rw[J2 h];have e:(Γ (48+n)).toNat=48+n:=Y5 om;refine⟨sm,fun c a=>?_,?_,sm⟩
   .rw[List.mem_singleton]at a;subst a;rw[e];exact QW.2 ⟨om,om⟩
   .simp only[qN,Η,List.foldl_nil,Nat.zero_mul,Μ];rw[e];omega
  .obtain⟨f,g,i,j⟩:=ih (n / 10) om;rw[UU h,J2 (n:=n % 10) om];have e:(Γ (48+n % 10)).toNat=48+n % 10:=Y5 om;refine⟨sm,fun c a=>?_,?_,?_⟩
   .rcases List.mem_append.1 a with a | a
    .exact g c a
    .rw[List.mem_singleton]at a;subst a;rw[e];exact QW.2 ⟨om,om⟩
   .rw[Kr,i,e];omega
   .rintro⟨d,_⟩;have l:((Zj (n / 10)++[Γ (48+n % 10)]).getD 0 0)=(Zj (n / 10)).getD 0 0:=by
     cases hd:Zj (n / 10)with
     | nil=>exact absurd hd f
     | cons x r=>rfl
    rw[l]at d;by_cases b:n / 10<10
    .rw[J2 b]at d;have k:(Γ (48+n / 10)).toNat=48+n / 10:=Y5 om;have:([Γ (48+n / 10)].getD 0 0).toNat=48+n / 10:=k;rw[this]at d;omega
    .refine j ⟨d,?_⟩;rw[UU b,yh];have m:=(ih (n / 10 / 10) om).1;have o:1<=(Zj (n / 10 / 10)).length:=by cases hq:Zj (n / 10 / 10)with
      | nil=>exact absurd hq m
      | cons _ _=>simp
     rw[J2 (n:=n / 10 % 10) om];simp;omega
theorem FQ{a b:Nat}(h:Zj a=Zj b):a=b:=by
 have d:=(Pn a).2.2.1;have f:=(Pn b).2.2.1;rw[h,f]at d;exact d.symm
def zK:JV->List UInt8->Option JV
 | .arr l,t=>(Qo t).bind fun i=>l.toL[i]?
 | .obj m,t=>(m.toL.find? fun q=>q.1 ==t).map (·.2)
 | _,_=>ν
def zM:JV->List (List UInt8)->Option JV
 | v,[]=>η v
 | v,t :: ts=>(zK v t).bind fun u=>zM u ts
theorem JO(l:JL)(t:List UInt8):zK (.arr l) t=(Qo t).bind fun i=>l.toL[i]?:=rfl
theorem VZ(m:JM)(t:List UInt8):zK (.obj m) t=(m.toL.find? fun q=>q.1 ==t).map (·.2):=rfl
theorem XF:∀ (a b:List (List UInt8)) (v:JV),zM v (a++b)=(zM v a).bind fun u=>zM u b
 | [],b,v=>rfl
 | t :: r,b,v=>by
  rw[Ι,zM,zM]
  cases zK v t with
  | none=>rfl
  | some u=>simp only[yB];exact XF r b u
theorem Lv(h:k<ts.length)(hu:zM v (ts.take k)=η u):zM v (ts.take (k+1))=zK u ts[k]:=by
 rw[yz h,XF,hu];simp only[yB,zM]
 cases zK u ts[k]<;>rfl
theorem Ho(h:k<ts.length)(hu:zM v (ts.take k)=η u)(hc:zK u ts[k]=ν):zM v ts=ν:=by
 have e:ts=ts.take (k+1)++ts.drop (k+1):=(List.take_append_drop _ _).symm;rw[e,XF,Lv h hu,hc];rfl
theorem Lw:∀ (l:JL),qT l->qh l=ζ->∀ v∈l.toL,zz v/\zF v=ζ
 | .nil,_,_,v,hv=>by simp[JL.toL]at hv
 | .cons x r,h,t,v,hv=>by
  rw[qT]at h;rw[qh,Ξ]at t;rw[JL.toL]at hv;rcases Β.1 hv with e | hv
  .rw[e];exact⟨h.1,t.1⟩
  .exact Lw r h.2 t.2 v hv
theorem Lx:∀ (m:JM) (ks:List (List UInt8)),qR m->Z6 ks m=ζ->∀ q∈m.toL,zz q.2/\zF q.2=ζ
 | .nil,_,_,_,q,hq=>by simp[JM.toL]at hq
 | .cons k x r,ks,h,t,q,hq=>by
  rw[qR]at h;rw[Z6]at t;simp only[Ξ]at t;rw[JM.toL]at hq;rcases Β.1 hq with e | hq
  .rw[e];exact⟨h.2.1,t.1.1⟩
  .exact Lx r (ks++[k]) h.2.2 t.2 q hq
theorem GJ(h:zK v t=η u)(hok:zz v)(htw:zF v=ζ):zz u/\zF u=ζ/\(ct u).length<=(ct v).length/\zn u<=zn v:=by
 cases v with
 | arr l=>
  rw[zz]at hok;rw[zF]at htw;rw[JO]at h
  cases hi:Qo t with
  | none=>rw[hi]at h;simp at h
  | some i=>
   rw[hi]at h;simp only[yB]at h;obtain⟨g,rfl⟩:=List.getElem?_eq_some_iff.1 h;have d:=yt g;obtain⟨a,b⟩:=Lw l hok htw _ d;refine⟨a,b,?_,?_⟩
   .have f:(ct (.arr l)).length=hold (zu l).length+nl (zu l):=by
     show (qg (zu l)).length=_
     have:=Xx (zu l);simp[qg];omega
    have j:(ct l.toL[i]).length<=nl (zu l):=by have:=Wq ((zu l).map Ν) i (by rw[Qd];simpa using g);simpa [nl,Qd]using this
    omega
   .rw[zn,FJ];have:=Wq (l.toL.map zn) i (by simpa using g);have c1:zn l.toL[i]<=cl l.toL:=by simpa [cl]using this
    omega
 | obj m=>
  rw[zz]at hok;rw[zF]at htw;rw[VZ]at h
  cases hf:m.toL.find? fun q=>q.1 ==t with
  | none=>rw[hf]at h;simp at h
  | some q=>
   rw[hf]at h;simp at h;subst h;have d:=List.mem_of_find?_eq_some hf;obtain⟨a,b⟩:=Lx m [] hok htw _ d;refine⟨a,b,?_,?_⟩
   .have f:=Y6 m;have j:=Ws qr d;simp only[qr]at j;omega
   .rw[zn,UZ];have:zn q.2<=_:=Ws (fun q=>zn q.2) d;omega
 | nul=>simp[zK]at h
 | tt=>simp[zK]at h
 | ff=>simp[zK]at h
 | num l=>simp[zK]at h
 | str l=>simp[zK]at h
theorem FR:∀ (cs:List (List UInt8)) (b j:Nat) (h:j<(qY b cs).length),(qY b cs)[j]=(Zj (b+j),cs[j]'(by rw[Wu]at h;exact h))
 | [],b,j,h=>by simp[qY]at h
 | t :: r,b,0,h=>rfl
 | t :: r,b,j+1,h=>by
  simp only[qY,List.getElem_cons_succ];rw[FR r (b+1) j];rw[show b+1+j=b+(j+1) by omega]
theorem Po(hok:zz v)(htw:zF v=ζ)(hi:(∃ l,v= .arr l)->(Qo t).isSome=ξ)(hj:j<(zl v).length)(hk:(zl v)[j].1=t):∃ u,zK v t=η u/\(zl v)[j].2=ct u:=by
 cases v with
 | arr l=>
  have k:zl (.arr l)=qY 0 (zu l):=rfl;have n:=hi ⟨l,rfl⟩
  cases hx:Qo t with
  | none=>rw[hx]at n;simp at n
  | some i=>
   have o:=FR (zu l) 0 j hj;have s:(zl (.arr l))[j]=(Zj (0+j),(zu l)[j]'(by rw[k,Wu]at hj;exact hj)):=o;rw[s]at hk ⊢;simp only[Μ]at hk ⊢;have:j=i:=FQ (hk.trans (Pm hx).symm);subst this;have y:j<l.toL.length:=by rw[k,Wu,Qd,yl]at hj;exact hj
   refine⟨l.toL[j],?_,?_⟩
   .rw[JO,hx];simp[y]
   .simp[Qd]
 | obj m=>
  have g:=(Qc _).subset (yt hj);generalize (zl (.obj m))[j]=p at *;rw[Qn]at g;obtain⟨q,z,rfl⟩:=yP.1 g;simp only at hk;rw[zF]at htw;have d:(m.toL.map (·.1)).Nodup:=by rw[← Jl];exact (FI m [] htw).1
  refine⟨q.2,?_,rfl⟩;rw[VZ];have w:m.toL.find? (fun q=>q.1 ==t)=η q:=by
   have:∀ l:List (List UInt8×JV),(l.map (·.1)).Nodup->q∈l->l.find? (fun q=>q.1 ==t)=η q:=by
    intro l;induction l with
    | nil=>intro _ h;simp at h
    | cons x r ih=>
     intro b a;rw[yi,List.nodup_cons]at b;rw[List.find?_cons];rcases Β.1 a with e | a
     .subst e;simp[hk]
     .have f:(x.1 ==t)=ζ:=by
       rw[yd];intro e;exact b.1 (by rw[e,← hk];exact yP.2 ⟨q,a,rfl⟩)
      rw[f];exact ih b.2 a
   exact this m.toL d z
  rw[w];rfl
 | nul=>simp[zl]at hj
 | tt=>simp[zl]at hj
 | ff=>simp[zl]at hj
 | num l=>simp[zl]at hj
 | str l=>simp[zl]at hj
theorem Pp(h:∀ j (hj:j<(zl v).length),(zl v)[j].1≠t):zK v t=ν:=by
 cases v with
 | arr l=>
  rw[JO]
  cases hx:Qo t with
  | none=>rfl
  | some i=>
   simp only[yB];by_cases f:i<l.toL.length
   .exfalso;have hj:i<(zl (.arr l)).length:=by show i<(qY 0 (zu l)).length;rw[Wu,Qd,yl];exact f
    refine h i hj ?_;have a:(zl (.arr l))[i]=_:=FR (zu l) 0 i hj;rw[a];simp only[Μ];exact Pm hx
   .rw[List.getElem?_eq_none om]
 | obj m=>
  rw[VZ];have d:m.toL.find? (fun q=>q.1 ==t)=ν:=by
   rw[List.find?_eq_none];intro q n e;have g:(q.1,ct q.2)∈zm m:=by rw[Qn];exact yP.2 ⟨q,n,rfl⟩
   have k:(q.1,ct q.2)∈zl (.obj m):=(Qc _).mem_iff.2 g;obtain⟨j,hj,b⟩:=Θ k;refine h j hj ?_;rw[b];simpa using e
  rw[d];rfl
 | nul=>rfl
 | tt=>rfl
 | ff=>rfl
 | num l=>rfl
 | str l=>rfl
def W6(p:List UInt8×JV):List (List UInt8×JV)->List (List UInt8×JV)
 | []=>[p]
 | q :: r=>if p.1<q.1 then q :: W6 p r else p :: q :: r
def W7(l:List (List UInt8×JV)):List (List UInt8×JV):=(l.foldl (fun acc p=>W6 p acc) []).reverse
def QR:Nat->List JV->List (List UInt8×JV)
 | _,[]=>[]
 | b,v :: r=>(Zj b,v) :: QR (b+1) r
def ZB:JV->List (List UInt8×JV)
 | .arr l=>QR 0 l.toL
 | .obj m=>W7 m.toL
 | _=>[]
def kt(q:List UInt8×JV):List UInt8×List UInt8:=(q.1,ct q.2)
theorem Hp(p:List UInt8×JV):∀ l:List (List UInt8×JV),(W6 p l).map kt=qQ (kt p) (l.map kt)
 | []=>rfl
 | q :: r=>by
  rw[W6,yi,qQ];by_cases h:p.1<q.1
  .have h':(kt p).1<(kt q).1:=h;rw[yg h,yg h',yi,Hp p r]
  .have h':¬ (kt p).1<(kt q).1:=h;rw[yf h,yf h',yi,yi]
theorem Hq:∀ (l acc:List (List UInt8×JV)),(l.foldl (fun acc p=>W6 p acc) acc).map kt=(l.map kt).foldl (fun acc p=>qQ p acc) (acc.map kt)
 | [],acc=>rfl
 | p :: l,acc=>by rw[Η,yi,Η,Hq l,Hp]
theorem Hr(l:List (List UInt8×JV)):(W7 l).map kt=zI (l.map kt):=by
 unfold W7 zI;rw[List.map_reverse,Hq];rfl
theorem Hs(p:List UInt8×JV):∀ l,(W6 p l).Perm (p :: l)
 | []=>List.Perm.refl _
 | q :: r=>by
  unfold W6;split
  .exact ((Hs p r).cons q).trans (List.Perm.swap p q r)
  .exact List.Perm.refl _
theorem Ht:∀ (l acc:List (List UInt8×JV)),(l.foldl (fun acc p=>W6 p acc) acc).Perm (l++acc)
 | [],acc=>List.Perm.refl _
 | p :: l,acc=>by
  rw[Η];exact (Ht l _).trans (((Hs p acc).append_left l).trans (List.perm_middle))
theorem FS(l:List (List UInt8×JV)):(W7 l).Perm l:=by
 unfold W7;have:=Ht l [];rw[yT]at this;exact (List.reverse_perm _).trans this
theorem Hu:∀ (vs:List JV) (b:Nat),(QR b vs).map kt=qY b (vs.map ct)
 | [],_=>rfl
 | v :: r,b=>by rw[QR,yi,yi,qY,Hu r];rfl
theorem Pq:∀ (vs:List JV) (b:Nat),(QR b vs).length=vs.length
 | [],_=>rfl
 | v :: r,b=>by rw[QR,yp,yp,Pq r]
theorem Ly:∀ (vs:List JV) (b j:Nat) (h:j<(QR b vs).length),(QR b vs)[j]=(Zj (b+j),vs[j]'(by rw[Pq]at h;exact h))
 | [],b,j,h=>by simp[QR]at h
 | t :: r,b,0,h=>rfl
 | t :: r,b,j+1,h=>by
  simp only[QR,List.getElem_cons_succ];rw[Ly r (b+1) j];rw[show b+1+j=b+(j+1) by omega]
theorem Pr:∀ (vs:List JV) (b:Nat),(QR b vs).map (·.2)=vs
 | [],_=>rfl
 | v :: r,b=>by rw[QR,yi,Pr r]
theorem Lz(v:JV):zl v=(ZB v).map kt:=by
 cases v with
 | arr l=>show qY 0 (zu l)=(QR 0 l.toL).map kt;rw[Hu,Qd]
 | obj m=>show zI (zm m)=(W7 m.toL).map kt;rw[Hr,Qn];rfl
 | nul=>rfl
 | tt=>rfl
 | ff=>rfl
 | num l=>rfl
 | str l=>rfl
theorem FT:∀ (vs:List JV) (v:JV),v∈vs->zJ v<=dl vs
 | [],v,h=>by simp at h
 | x :: r,v,h=>by
  rw[dl];rcases Β.1 h with rfl | h
  .omega
  .have:=FT r v h;omega
theorem XG(hok:zz v)(htw:zF v=ζ)(hq:q∈ZB v):zz q.2/\zF q.2=ζ/\zJ q.2+1<=zJ v/\q.1.length+(ct q.2).length+1<=(ct v).length:=by
 cases v with
 | arr l=>
  rw[zz]at hok;rw[zF]at htw;have g:q∈QR 0 l.toL:=hq;obtain⟨j,h,rfl⟩:=Θ g;have i:j<l.toL.length:=by rw[Pq]at h;exact h
  rw[Ly];simp only[Μ];have d:=yt i;obtain⟨a,b⟩:=Lw l hok htw _ d;have n:=FT _ _ d;have e:=UY l;have f:(ct (.arr l)).length=hold (zu l).length+nl (zu l):=by
   show (qg (zu l)).length=_
   have:=Xx (zu l);simp[qg];omega
  have k:(ct l.toL[j]).length<=nl (zu l):=by have:=Wq ((zu l).map Ν) j (by rw[Qd];simpa using i);simpa [nl,Qd]using this
  have o:=NY j;have n3:(zu l).length=l.toL.length:=by rw[Qd,yl]
  refine⟨a,b,?_,?_⟩
  .rw[zJ];omega
  .rw[f];unfold hold;omega
 | obj m=>
  rw[zz]at hok;rw[zF]at htw;have d:=(FS _).subset hq;obtain⟨a,b⟩:=Lx m [] hok htw _ d;have n:=FT (m.toL.map (·.2)) q.2 (yP.2 ⟨q,d,rfl⟩);have e:=Wr m;have f:=Y6 m;have k:=Ws qr d;simp only[qr]at k;have o:=UX q.1;refine⟨a,b,?_,?_⟩
  .rw[zJ];omega
  .omega
 | nul=>simp[ZB]at hq
 | tt=>simp[ZB]at hq
 | ff=>simp[ZB]at hq
 | num l=>simp[ZB]at hq
 | str l=>simp[ZB]at hq
theorem XH(v:JV):zn v=((ZB v).map fun q=>zn q.2).sum+1:=by
 cases v with
 | arr l=>
  rw[zn,FJ];show cl l.toL+1=((QR 0 l.toL).map fun q=>zn q.2).sum+1
  have e:((QR 0 l.toL).map fun q=>zn q.2)=((QR 0 l.toL).map (·.2)).map zn:=by rw[List.map_map];rfl
  rw[e,Pr];rfl
 | obj m=>
  rw[zn,UZ];show _=((W7 m.toL).map fun q=>zn q.2).sum+1
  rw[((FS m.toL).map fun q=>zn q.2).sum_nat]
 | nul=>rfl
 | tt=>rfl
 | ff=>rfl
 | num l=>rfl
 | str l=>rfl
def Qw(p k:List UInt8):List UInt8:=p++47 :: Zg k
theorem Hv(p k:List UInt8):(Qw p k).length<=p.length+1+2*k.length:=by
 have:=Un k;simp[Qw];omega
def Zu:Nat->List UInt8->JV->List (List UInt8×List UInt8)
 | 0,_,_=>[]
 | n+1,p,v=>(p,ct v) ::(ZB v).flatMap fun q=>Zu n (Qw p q.1) q.2
theorem LA{α β:Type}(f:α->List β)(g:α->Nat):∀ l:List α,(∀ x∈l,(f x).length=g x)->(l.flatMap f).length=(l.map g).sum
 | [],_=>rfl
 | x :: r,h=>by
  rw[List.flatMap_cons,yh,yi,yM,h x yq,LA f g r (fun y hy=>h y (yw _ hy))]
theorem FU:∀ (n:Nat) (p:List UInt8) (v:JV),zz v->zF v=ζ->zJ v<=n->(Zu n p v).length=zn v
 | 0,p,v,_,_,h=>by have:=(YP v).2;omega
 | n+1,p,v,h1,h2,h=>by
  rw[Zu,yp,XH v];rw[LA _ (fun q=>zn q.2) (ZB v) (fun q hq=>by
   obtain⟨a,b,c,_⟩:=XG h1 h2 hq;exact FU n _ q.2 a b om)]
theorem Hw(v:JV)(k:Nat):(((ZB v).take k).map fun q=>zn q.2).sum+1<=zn v:=by
 rw[XH v];have e:(ZB v)=(ZB v).take k++(ZB v).drop k:=(List.take_append_drop _ _).symm;have a:((ZB v).map fun q=>zn q.2).sum=(((ZB v).take k).map fun q=>zn q.2).sum+(((ZB v).drop k).map fun q=>zn q.2).sum:=by
  conv=>lhs;rw[e]
  rw[yx,List.sum_append]
 omega
theorem ziy{α β:Type}(f:α->List β)(l:List α)(k:Nat)(h:k<l.length):(l.take (k+1)).flatMap f=(l.take k).flatMap f++f l[k]:=by
 rw[yz h,Ρ];simp
theorem ziz{w:Wo}{B B' e' size size' n':Nat}{v v':ω}{xs xs':List ω}(h:w.ownsRow B e size v n xs)(h':w.ownsRow B' e' size' v' n' xs')(hne:e≠e'):v.ownBlock=ν∨v.ownBlock≠v'.ownBlock:=by
 rcases h.2 with ⟨d,_⟩ |⟨g,j,k,d,_,l,_⟩
 .subst d;exact .inl rfl
 .rcases h'.2 with ⟨a,_⟩ |⟨m,f,i,a,_,b,_⟩
  .subst d;subst a;right;intro e;cases e
  .subst d;subst a;right;intro e;injection e with e;simp only at e;subst e;rw[l]at b;injection b with e;injection e with _ e;exact hne e
theorem ziA(h:piece s i=η (r,n)):(enc r).length<=n:=by
 have a:∀ {r:Nat},r<128->(enc r).length<=1:=fun {r} hr=>by
  rw[enc,Lib.encodeRune,Lib.encodeRuneZ_one om om];simp
 have g:=FC r;unfold piece at h;split at h
 .unfold Js at h;split at h
  .rename_i v d;injection h with h;injection h with h1 h2;have:=DN d;subst h1;have:=a this;omega
  .simp only[Α]at h;obtain⟨u,j,h⟩:=h;unfold Qt at h;split at h
   .injection h with h;injection h with h1 h2;omega
   .split at h
    .cases h
    .simp only[Α]at h;obtain⟨v,d,h⟩:=h;split at h
     .injection h with h;injection h with h1 h2;omega
     .cases h
 .split at h
  .cases h
  .have b:i<s.size:=Zi om;split at h
   .injection h with h;injection h with h1 h2;rename_i hb;subst h1;have:=a hb;omega
   .split at h
    .cases h
    .rename_i hb hr;injection h with h;injection h with h1 h2;have f:=Zx s i b;obtain⟨e,_⟩:=WU s i b hr om;subst h1;subst h2;rw[enc,e,ym];omega
theorem ziB:∀ {i j:Nat} {l:List UInt8},qX s i=η (l,j)->l.length+(i+1)<=j:=by
 intro i;generalize hn:s.size - i=n;induction n using Φ generalizing i with
 | _ n ih=>
  intro j l h;by_cases a:bt s i=34
  .rw[WV a]at h;injection h with h;injection h with h1 h2;subst h1;simp;omega
  .cases hp:piece s i with
   | none=>rw[WW a hp]at h;cases h
   | some p=>
    obtain⟨r,b⟩:=p;have f:=Wk hp;have d:=ziA hp;rw[Wm a hp]at h;rcases hq:qX s (i+b)with _ |⟨k,g⟩
    .rw[hq]at h;cases h
    .rw[hq]at h;injection h with h;injection h with h1 h2;have:=ih (s.size - (i+b)) om rfl hq;subst h1;simp only[yh];simp only at h2;omega
theorem ziC(h:ZT s i=η (l,j)):l.length+(i+2)<=j:=by
 unfold ZT at h;split at h
 .have:=ziB h;omega
 .cases h
mutual
def Jd:JV->Nat
 | .arr l=>W8 0 l
 | .obj m=>W9 m
 | _=>0
def W8:Nat->JL->Nat
 | _,.nil=>0
 | k,.cons v r=>max (1+2*(Zj k).length+Jd v) (W8 (k+1) r)
def W9:JM->Nat
 | .nil=>0
 | .cons k v r=>max (1+2*k.length+Jd v) (W9 r)
end
theorem Hx:∀ (l:JL) (k:Nat) (q:List UInt8×JV),q∈QR k l.toL->1+2*q.1.length+Jd q.2<=W8 k l
 | .nil,k,q,h=>by simp[JL.toL,QR]at h
 | .cons v r,k,q,h=>by
  rw[JL.toL,QR]at h;rw[W8];rcases Β.1 h with h | h
  .subst h;simp only;omega
  .have:=Hx r (k+1) q h;omega
theorem Hy:∀ (m:JM) (q:List UInt8×JV),q∈m.toL->1+2*q.1.length+Jd q.2<=W9 m
 | .nil,q,h=>by simp[JM.toL]at h
 | .cons k v r,q,h=>by
  rw[JM.toL]at h;rw[W9];rcases Β.1 h with h | h
  .subst h;simp only;omega
  .have:=Hy r q h;omega
theorem ziD(h:q∈ZB v):1+2*q.1.length+Jd q.2<=Jd v:=by
 cases v with
 | arr l=>rw[Jd];exact Hx l 0 q h
 | obj m=>rw[Jd];exact Hy m q ((FS _).subset h)
 | nul=>simp[ZB]at h
 | tt=>simp[ZB]at h
 | ff=>simp[ZB]at h
 | num l=>simp[ZB]at h
 | str l=>simp[ZB]at h
theorem Ps:∀ (n:Nat) (p:List UInt8) (v:JV) (x:List UInt8×List UInt8),x∈Zu n p v->x.1.length<=p.length+Jd v
 | 0,p,v,x,h=>by simp[Zu]at h
 | n+1,p,v,x,h=>by
  rw[Zu]at h;rcases Β.1 h with h | h
  .subst h;simp only;omega
  .obtain⟨q,hq,hx⟩:=List.mem_flatMap.1 h;have a:=Ps n _ _ x hx;have b:=ziD hq;have d:=Hv p q.1;omega
theorem U5(s:Bs):∀ f i,(∀ v j,pv s f i=η (v,j)->Jd v<=2*(j - i))/\(∀ l j,pa s f i=η (l,j)->∀ k,W8 k l<=2*k+2*(j - i)+1)/\(∀ m j,po s f i=η (m,j)->W9 m<=2*(j - i))
 | 0,i=>⟨fun v j h=>by simp[pv]at h,fun v j h=>by simp[pa]at h,fun v j h=>by simp[po]at h⟩
 | f+1,i=>by
  refine⟨fun v j h=>?_,fun l j h=>?_,fun m j h=>?_⟩
  .have hok:=(QZ s (f+1) i).1 v j h;rw[pv]at h;have g:=Ze s (i+1);split at h
   .split at h
    .injection h with h;injection h with b h;subst b;simp[Jd,W8]
    .simp only[yA]at h;obtain⟨⟨l,k⟩,d,h⟩:=h;injection h with b h;have p:=(U5 s f (sk s (i+1))).2.1 l k d 0;have r:=(QZ s f (sk s (i+1))).2.1 l k d;subst b;rw[Jd];simp only at h ⊢;omega
   .split at h
    .split at h
     .injection h with h;injection h with b h;subst b;simp[Jd,W9]
     .simp only[yA]at h;obtain⟨⟨l,k⟩,d,h⟩:=h;injection h with b h;have p:=(U5 s f (sk s (i+1))).2.2 l k d;have r:=(QZ s f (sk s (i+1))).2.2 l k d;subst b;rw[Jd];simp only at h ⊢;omega
    .split at h
     .simp only[yA]at h;obtain⟨⟨l,k⟩,d,h⟩:=h;injection h with b h;subst b;simp[Jd]
     .split at h
      .injection h with h;injection h with b h;subst b;simp[Jd]
      .split at h
       .injection h with h;injection h with b h;subst b;simp[Jd]
       .split at h
        .injection h with h;injection h with b h;subst b;simp[Jd]
        .simp only[yA]at h;obtain⟨⟨l,k⟩,d,h⟩:=h;injection h with b h;subst b;simp[Jd]
  .rw[pa]at h;simp only[Α]at h;obtain⟨⟨v,k⟩,d,h⟩:=h;have p:=(QZ s f i).1 v k d;have q:=(U5 s f i).1 v k d;have x:=Ze s k;simp only at h;intro m;have D:=NY m;split at h
   .injection h with h;injection h with b h;subst b;simp only[W8];omega
   .split at h
    .simp only[yA]at h;obtain⟨⟨l,n⟩,o,h⟩:=h;injection h with b h;have r:=(QZ s f _).2.1 l n o;have u:=(U5 s f _).2.1 l n o (m+1);have y:=Ze s (sk s k+1);subst b;rw[W8];simp only at h ⊢;omega
    .cases h
  .rw[po]at h;simp only[Α]at h;obtain⟨⟨A,a⟩,w,h⟩:=h;have b:=Yt w;have z:=ziC w;simp only at h;split at h
   .simp only[Α]at h;obtain⟨⟨v,k⟩,d,h⟩:=h;have p:=(QZ s f _).1 v k d;have q:=(U5 s f _).1 v k d;have B:=Ze s a;have C:=Ze s (sk s a+1);have x:=Ze s k;simp only at h;split at h
    .injection h with h;injection h with b h;subst b;simp only[W9];omega
    .split at h
     .simp only[yA]at h;obtain⟨⟨l,n⟩,o,h⟩:=h;injection h with b h;have r:=(QZ s f _).2.2 l n o;have u:=(U5 s f _).2.2 l n o;have y:=Ze s (sk s k+1);subst b;rw[W9];simp only at h ⊢;omega
     .cases h
   .cases h
theorem ziE(h:val s i=η (v,j)):Jd v<=2*(j - i):=(U5 s _ i).1 v j h
theorem Hz{c:Nat}(h:Zn s= .inl c):c≠0:=by
 unfold Zn at h
 repeat' split at h
 all_goals first
  |(injection h with h;omega)
  | cases h
structure U6(v:JV):Prop where
 ok:zz v
 tw:zF v=ζ
 dep:zJ v<=100
 len:(ct v).length<=600000
 cnt:zn v<=3000
 mx:Jd v<=40000
theorem ziF(h:Qv s=η v):Jd v<=2*s.size:=by
 unfold Qv at h
 cases hv:val s (sk s 0)with
 | none=>rw[hv]at h;simp at h
 | some q=>
  obtain⟨u,j⟩:=q;have e:u=v:=by
   rw[hv]at h;simp only[yB]at h;split at h
   .injection h
   .cases h
  subst e;have a:=ziE hv;have b:=VO hv;omega
theorem ziG(h:Zn s= .inr v):U6 v:=by
 unfold Zn at h;split at h
 .cases h
 .rename_i hs;split at h
  .cases h
  .rename_i v' hd;split at h
   .cases h
   .split at h
    .cases h
    .rename_i hb ht;split at h
     .cases h
     .rename_i hl;injection h with h;subst h;obtain⟨a,b,d⟩:=FP hd;have f:=ziF hd;exact⟨a,by simpa using ht,om,om,om,om⟩
def U7:JV:=.obj (.cons [97] (.arr (.cons (.num [49]) (.cons (.num [50]) (.cons (.obj (.cons [98] .nul .nil)) .nil)))) .nil)
theorem ziH:ct U7=[123,34,97,34,58,91,49,44,50,44,123,34,98,34,58,110,117,108,108,125,93,125]:=by rfl
theorem H9:Zn (ze [123,34,97,34,58,91,49,44,50,44,123,34,98,34,58,110,117,108,108,125,93,125])= .inr U7:=by rfl
def U8(ps:List zy)(key:List UInt8)(e:Ending):Prop:=(e=ε (ι κ (-1))/\∀ j (hj:j<ps.length),ps[j].1≠key)∨∃ (j:Nat) (hj:j<ps.length),e=ε (ι κ (j:Int))/\ps[j].1=key
theorem U8.no{e:Ending}(h:e=ε (ι κ (-1)))(k:∀ j (hj:j<ps.length),ps[j].1≠key):U8 ps key e:=Or.inl ⟨h,k⟩
theorem U8.yes{e:Ending}(hj:j<ps.length)(h:e=ε (ι κ (j:Int)))(k:ps[j].1=key):U8 ps key e:=Or.inr ⟨j,hj,h,k⟩
theorem Pt(B:Nat)(v:ω)(ps:List zy)(key:List UInt8)(w:Wo)(h:PR w B v ps)(hn:ps.length<=40000000):
  δ prog 126 #[v,(ze key)] w fun e w'=>w=w'/\U8 ps key e:=by
 obtain⟨x,len,a,rfl,l⟩:∃ x len a,v=ς x len a/\len=ps.length:=by
  rcases h.2 with ⟨o,z⟩ |⟨g,a,y,o,_⟩
  .exact⟨_,_,_,o,z.symm⟩
  .exact⟨_,_,_,o,rfl⟩
 subst l;have s:=zb h;go_in;go_wp2_with fail;go_loopw [5] (fun k wr=>w=wr/\∃ j:Nat,k=ι κ (j:Int)/\j<=ps.length/\∀ i (hi:i<ps.length),i<j->ps[i].1≠key) (fun k _=>ps.length - (intOf k).toNat)
 case atStart=>exact⟨rfl,0,rfl,yu _,fun i _ hi=>om⟩
 case round=>
  obtain⟨rfl,j,rfl,F,n⟩:=hrel;have b:=zb n;by_cases f:j<ps.length
  .have D:((j:Int)<(ps.length:Int))=True:=eq_true om;obtain⟨g,q,A,E,C,c0,c1⟩:=s.cells j f;injection A with he1 he2 he3;subst he1;subst he3;have d:=Xu ps[j].1 key;by_cases m:ps[j].1=key
   .have p:(ps[j].1 ==key)=ξ:=by rw[yD];exact m
    have r:=zb m;rw[p]at d;go_wp2;go_ret;exact⟨rfl,U8.yes f rfl r⟩
   .have p:(ps[j].1 ==key)=ζ:=by rw[yd];exact m
    have u:Hid (∀ i (hi:i<ps.length),i<j+1->ps[i].1≠key):=fun i hi hij=>by
     by_cases e:i=j
     .subst e;exact m
     .exact uh b i hi om
    rw[p]at d;go_wp2;go_roundw
    case rel=>exact⟨trivial,j+1,by go_num,om,u⟩
    case measure=>simp[intOf];omega
  .have D:((j:Int)<(ps.length:Int))=False:=yR om;go_wp2;go_ret;exact⟨rfl,U8.no rfl (fun i hi=>uh b i hi om)⟩
theorem Ww(v:JV)(hok:zz v)(w:Wo)(hl:(ct v).length<=1000000):
  δ prog 64 #[σ (ze (ct v))] w fun e w'=>∃ r,e=ε r/\PR w' w r (zl v)/\Below w w w':=by
 have leaf:∀ (c:UInt8) (r:List UInt8),ct v=c :: r->c.toNat≠91->c.toNat≠123->zl v=[]->δ prog 64 #[σ (ze (ct v))] w fun e w'=>∃ r,e=ε r/\PR w' w r (zl v)/\Below w w w':=fun c r hc h1 h2 d=>by
  rw[d,hc];obtain⟨a,b⟩:=VX (c:=c) (r:=r);exact A5 _ w a (by rw[b];exact h1) (by rw[b];exact h2)
 cases v with
 | arr l=>rw[zz]at hok;exact A6 l hok w (by rw[zL];exact hl)
 | obj m=>rw[zz]at hok;exact A9 m hok w (by rw[zL];exact hl)
 | nul=>exact leaf 110 _ rfl dc dc rfl
 | tt=>exact leaf 116 _ rfl dc dc rfl
 | ff=>exact leaf 102 _ rfl dc dc rfl
 | num l=>
  have d:=Xz hok
  cases l with
  | nil=>exact absurd rfl d.1
  | cons c r=>
   have:=(d.2 c yq).1;exact leaf c r rfl this.2.1 this.2.2.1 rfl
 | str l=>exact leaf 34 (qs l++[34]) rfl dc dc rfl
theorem Wx(hok:zz v)(hl:(ct v).length<=1000000):(zl v).length<=1000000:=by
 cases v with
 | arr l=>
  show (qY 0 (zu l)).length<=_
  rw[Wu];have:(ze (ct (.arr l))).data.toList=91 ::(joinC (zu l)++[93]):=by rw[Zb];rfl
  have:=Lp this;rw[zL]at this;omega
 | obj m=>
  show (zI (zm m)).length<=_
  have:(ze (ct (.obj m))).data.toList=123 ::(joinC ((zI (zm m)).map zo)++[125]):=by rw[Zb];rfl
  have:=Lp this;rw[zL,yl]at this;omega
 | nul=>simp[zl]
 | tt=>simp[zl]
 | ff=>simp[zl]
 | num l=>simp[zl]
 | str l=>simp[zl]
def Yx(t:List UInt8):Int:=match Qo t with
 | some i=>(i:Int)
 | none=>-1
theorem zaa(s:Bs)(w:Wo)(hs:s.size<=1048576):
  δ prog 168 #[s] w fun e w'=>e=ε (ι κ (Yx s.data.toList))/\w=w':=by
 have d:¬ XE s.data.toList=ξ->Yx s.data.toList= -1:=fun h=>by unfold Yx Qo;rw[yf h]
 have L:=Zo s;by_cases Q:s.size<1
 .have p:=zb (d (fun h=>by have:=(VY.1 h).1;omega));have M:(s.size:Int)<1:=om;go_in;go_wp2;go_ret;exact⟨by rw[uh p];rfl,rfl⟩
 .have M:¬ (s.size:Int)<1:=om;by_cases R:6<s.size
  .have p:=zb (d (fun h=>by have:=(VY.1 h).2.1;omega));have N:(6:Int)<(s.size:Int):=om;go_in;go_wp2;go_ret;exact⟨by rw[uh p];rfl,rfl⟩
  .have N:¬ (6:Int)<(s.size:Int):=om;have P:0<s.size:=om;have r:(s.data.toList.getD 0 0)=s[0]:=by rw[List.getD,yy om];rfl
   have S:(0:Int)<(s.size:Int):=om;by_cases F:s[0].toNat=48/\1<s.size
   .have p:=zb (d (fun h=>(VY.1 h).2.2.1 ⟨by rw[r];exact F.1,om⟩));have G:((s[0].toNat:Int) ==48)=ξ:=by rw[yD];omega
    have O:(1:Int)<(s.size:Int):=om;go_in;go_wp2;go_ret;exact⟨by rw[uh p];rfl,rfl⟩
   .have H:Hid (∀ (k:Nat) (o:k<s.size) (w:Wo),δ prog 156 #[.int .u8 (s[k].toNat:Int)] w (Rk (θ (zS s[k].toNat)) w)):=fun k o w=>D5 s[k].toNat w;have q:Hid (∀ k (o:k<s.size),zS s[k].toNat=ζ->Yx s.data.toList= -1):=fun k o hd=>d (fun h=>by
     have:=(VY.1 h).2.2.2 s[k] (by rw[← Mn s k o];exact yt _);rw[hd]at this;cases this)
    have m:Hid ((∀ k (o:k<s.size),zS s[k].toNat=ξ)->Yx s.data.toList=(qN s.data.toList:Int)):=fun g=>by
     have z:XE s.data.toList=ξ:=VY.2 ⟨om,om,fun ⟨a,b⟩=>F ⟨by rw[← r];exact a,om⟩,fun c hc=>by
      obtain⟨j,l,rfl⟩:=Θ hc;exact g j om⟩
     unfold Yx Qo;rw[yg z]
    have B:((s[0].toNat:Int) ==48)=ζ∨((s[0].toNat:Int) ==48)=ξ/\¬ (1:Int)<(s.size:Int):=by
     by_cases e:s[0].toNat=48
     .right;exact⟨by rw[yD];omega,om⟩
     .left;rw[yd];omega
    have I:s.size<=6:=om;rcases B with G |⟨G,O⟩
    all_goals
     go_in;go_wp2;go_loopw [3,4] (fun vv iv wr=>∃ k:Nat,k<=s.size/\iv=ι κ (k:Int)/\vv=ι κ ((qN (s.data.toList.take k):Nat):Int)/\(∀ j (l:j<s.size),j<k->zS s[j].toNat=ξ)/\w=wr) (fun _ iv _=>s.size - (intOf iv).toNat)
     case atStart=>exact⟨0,yu _,rfl,rfl,fun j _ l=>om,rfl⟩
     case round=>
      obtain⟨k,o,rfl,rfl,g,rfl⟩:=hrel;have f:=zb g;by_cases n:k<s.size
      .have E:(k:Int)<(s.size:Int):=om;have i:=zb (uh H k n w);have A:=Kh s k n;have v:Hid (qN (s.data.toList.take (k+1))=qN (s.data.toList.take k)*10+(s[k].toNat - 48)):=zb (by rw[A,Kr]);have y:qN (s.data.toList.take k)<1000000∨¬ ∀ c∈s.data.toList.take k,zS c.toNat=ξ:=by
        rcases Mo k (s.data.toList.take k) (by rw[ym];omega)with h | h
        .left;have:10 ^ k<=10 ^ 6:=Nat.pow_le_pow_right om om;omega
        .exact .inr h
       have C:qN (s.data.toList.take k)<1000000:=y.elim id fun h=>absurd (fun c hc=>by
        obtain⟨j,l,rfl⟩:=Θ hc;rw[ym]at l;rw[List.getElem_take];exact uh f j om om) h
       cases hd:zS s[k].toNat with
       | false=>
        have x:=zb (uh q k n hd);rw[hd]at i;go_wp2_with fail;go_call i as e w2 ⟨rfl,rfl⟩;go_wp2;go_ret;exact⟨by rw[uh x];rfl,rfl⟩
       | true=>
        have T:=QW.1 hd;have u:Hid (∀ j (l:j<s.size),j<k+1->zS s[j].toNat=ξ):=fun j l hjk=>by
         by_cases e:j=k
         .subst e;exact hd
         .exact uh f j l om
        rw[hd]at i;have J:(48:Int)<=(s[k].toNat:Int):=om;have K:(s[k].toNat:Int)<=57:=om;generalize qN (s.data.toList.take k)=D at *;go_wp2_with fail;go_call i as e w2 ⟨rfl,rfl⟩;go_wp2;go_roundw
        case rel=>exact⟨k+1,om,by go_num,by rw[uh v];go_num,u,trivial⟩
        case measure=>simp[intOf];omega
      .have e:s.data.toList.take k=s.data.toList:=yr om;rw[e];have x:=zb (uh m (fun j l=>uh f j l om));generalize qN s.data.toList=D at *;go_wp2;go_ret;exact⟨by rw[uh x];rfl,rfl⟩
def Pu(l:List UInt8):Prop:=∃ (sg ds:List UInt8) (d:UInt8),l=sg++d :: ds/\(sg=[]∨sg=[45])/\zS d.toNat=ξ/\(∀ b∈ds,zS b.toNat=ξ)/\(d.toNat=48->ds=[]/\sg=[])
mutual
def Z0:JV->Prop
 | .nul=>True
 | .tt=>True
 | .ff=>True
 | .num l=>Pu l
 | .str l=>Ζ l=ξ
 | .arr l=>Je l
 | .obj m=>Jf m
def Je:JL->Prop
 | .nil=>True
 | .cons v r=>Z0 v/\Je r
def Jf:JM->Prop
 | .nil=>True
 | .cons k v r=>Ζ k=ξ/\Z0 v/\Jf r
end
mutual
def Yh:JV->Prop
 | .arr l=>Ua l
 | .obj m=>Y7 m/\zI (zm m)=zm m
 | _=>True
def Ua:JL->Prop
 | .nil=>True
 | .cons v r=>Yh v/\Ua r
def Y7:JM->Prop
 | .nil=>True
 | .cons _ v r=>Yh v/\Y7 r
end
theorem zab(h:Pu l):∃ (c:UInt8) (r:List UInt8),l=c :: r/\(c.toNat=45∨zS c.toNat=ξ)/\∀ b∈r,zS b.toNat=ξ:=by
 obtain⟨k,g,d,rfl,j,i,a,_⟩:=h;rcases j with rfl | rfl
 .exact⟨d,g,rfl,.inr i,a⟩
 .refine⟨45,d :: g,rfl,.inl rfl,fun b f=>?_⟩;rcases Β.1 f with rfl | f
  .exact i
  .exact a b f
mutual
theorem Ub:∀ v:JV,Z0 v->zz v
 | .nul,_=>by rw[zz];trivial
 | .tt,_=>by rw[zz];trivial
 | .ff,_=>by rw[zz];trivial
 | .num l,h=>by rw[Z0]at h;rw[zz];exact zab h
 | .str l,h=>by rw[Z0]at h;rw[zz];exact h
 | .arr l,h=>by rw[Z0]at h;rw[zz];exact zac l h
 | .obj m,h=>by rw[Z0]at h;rw[zz];exact zad m h
theorem zac:∀ l:JL,Je l->qT l
 | .nil,_=>by rw[qT];trivial
 | .cons v r,h=>by rw[Je]at h;rw[qT];exact⟨Ub v h.1,zac r h.2⟩
theorem zad:∀ m:JM,Jf m->qR m
 | .nil,_=>by rw[qR];trivial
 | .cons k v r,h=>by rw[Jf]at h;rw[qR];exact⟨h.1,Ub v h.2.1,zad r h.2.2⟩
end
theorem zae:∀ (ds m:List UInt8) (i:Nat),T.data.toList.drop i=ds++m->(∀ b∈ds,zS b.toNat=ξ)->WZ m->dg T i=i+ds.length
 | [],m,i,h,_,hm=>by
  rcases hm with rfl |⟨c,r,rfl,hc⟩
  .rw[Ε]at h;have:T.size<=i:=by
    have:=List.drop_eq_nil_iff.1 h;rw[Zo]at this;exact this
   rw[Xo (by rw[YN T i this];decide)];rfl
  .obtain⟨_,a,_⟩:=ZI (T:=T) h;rw[Xo (by rw[a,QW];omega)];rfl
 | d :: ds,m,i,h,hd,hm=>by
  obtain⟨_,a,f⟩:=ZI (T:=T) h;rw[Wn (by rw[a];exact hd d yq),zae ds m (i+1) f (fun b a=>hd b (yw _ a)) hm,yp];omega
theorem ziI(h:T.data.toList.drop i=l++m):Zr T i (i+l.length)=l:=by
 unfold Zr;rw[h,show i+l.length - i=l.length by omega,List.take_left]
theorem ziJ(hn:Pu l)(h:T.data.toList.drop i=l++m)(hm:WZ m):nm T i=η (l,i+l.length):=by
 have w:=ziI h;obtain⟨n,a,d,rfl,r,j,o,q⟩:=hn;have x:=QW.1 j;have f:∀ k,Za T i=k->T.data.toList.drop k=d ::(a++m)->k+1+a.length=i+(n++d :: a).length->nm T i=η (n++d :: a,i+(n++d :: a).length):=by
  intro k p s u;obtain⟨_,b,g⟩:=ZI (T:=T) s;have v:qP T i=i+(n++d :: a).length:=by
   unfold qP;rw[p,b];split
   .rename_i hz;obtain⟨y,z⟩:=q hz;subst y;simp only[yE]at u;omega
   .rw[Wn (by rw[b];exact j),zae a m (k+1) g o hm];omega
  unfold nm;rw[p,b,yg j,v,w];unfold QD;rw[yf];intro e;rcases r with rfl | rfl
  .rw[Ε]at e;injection e with e _;subst e;simp[zS]at j
  .simp only[Ι,Ε,List.cons.injEq,true_and]at e;have:d.toNat=48:=by rw[e.1];rfl
   have:=(q this).2
   cases this
 rcases r with rfl | rfl
 .rw[Ε]at h;rw[Ι]at h;obtain⟨_,b,g⟩:=ZI (T:=T) h;refine f i ?_ h so;unfold Za;rw[yf om]
 .rw[Ι,Ε,Ι]at h;obtain⟨_,b,g⟩:=ZI (T:=T) h;refine f (i+1) ?_ g so;unfold Za;rw[yg (by rw[b];rfl)]
theorem FV(h:zz v):∃ (c:UInt8) (r:List UInt8),ct v=c :: r/\c.toNat≠32/\c.toNat≠9/\c.toNat≠10/\c.toNat≠13/\c.toNat≠93/\c.toNat≠125:=by
 cases v with
 | nul=>exact⟨_,_,rfl,dc,dc,dc,dc,dc,dc⟩
 | tt=>exact⟨_,_,rfl,dc,dc,dc,dc,dc,dc⟩
 | ff=>exact⟨_,_,rfl,dc,dc,dc,dc,dc,dc⟩
 | num l=>
  rw[zz]at h;obtain⟨c,r,rfl,a,_⟩:=h;have:c.toNat=45∨(48<=c.toNat/\c.toNat<=57):=a.imp id QW.1;exact⟨c,r,rfl,om,om,om,om,om,om⟩
 | str l=>exact⟨34,_,rfl,dc,dc,dc,dc,dc,dc⟩
 | arr l=>exact⟨91,_,rfl,dc,dc,dc,dc,dc,dc⟩
 | obj m=>exact⟨123,_,rfl,dc,dc,dc,dc,dc,dc⟩
theorem Yy{r:List UInt8}(h:T.data.toList.drop i=c :: r)(h1:c.toNat≠32)(h2:c.toNat≠9)(h3:c.toNat≠10)(h4:c.toNat≠13):sk T i=i:=by
 obtain⟨_,a,_⟩:=ZI (T:=T) h;exact FB om
mutual
theorem FW:∀ v:JV,Z0 v->Yh v->∀ i m,T.data.toList.drop i=ct v++m->WZ m->val T i=η (v,i+(ct v).length)
 | .nul,_,_,i,m,h,_=>by
  have h0:T.data.toList.drop i=110 :: 117 :: 108 :: 108 :: m:=h;obtain⟨_,b0,h1⟩:=ZI (T:=T) h0;obtain⟨_,b1,h2⟩:=ZI (T:=T) h1;obtain⟨_,b2,h3⟩:=ZI (T:=T) h2;obtain⟨_,b3,_⟩:=ZI (T:=T) h3;rw[Wp (by rw[b0];decide) (by rw[b0];decide) (by rw[b0];decide),yg (by unfold Jt;rw[b0,b1,b2,b3];rfl)];rfl
 | .tt,_,_,i,m,h,_=>by
  have h0:T.data.toList.drop i=116 :: 114 :: 117 :: 101 :: m:=h;obtain⟨_,b0,h1⟩:=ZI (T:=T) h0;obtain⟨_,b1,h2⟩:=ZI (T:=T) h1;obtain⟨_,b2,h3⟩:=ZI (T:=T) h2;obtain⟨_,b3,_⟩:=ZI (T:=T) h3;rw[Wp (by rw[b0];decide) (by rw[b0];decide) (by rw[b0];decide),yf (by unfold Jt;rw[b0];simp),yg (by unfold JB;rw[b0,b1,b2,b3];rfl)];rfl
 | .ff,_,_,i,m,h,_=>by
  have h0:T.data.toList.drop i=102 :: 97 :: 108 :: 115 :: 101 :: m:=h;obtain⟨_,b0,h1⟩:=ZI (T:=T) h0;obtain⟨_,b1,h2⟩:=ZI (T:=T) h1;obtain⟨_,b2,h3⟩:=ZI (T:=T) h2;obtain⟨_,b3,h4⟩:=ZI (T:=T) h3;obtain⟨_,b4,_⟩:=ZI (T:=T) h4;rw[Wp (by rw[b0];decide) (by rw[b0];decide) (by rw[b0];decide),yf (by unfold Jt;rw[b0];simp),yf (by unfold JB;rw[b0];simp),yg (by unfold J1;rw[b0,b1,b2,b3,b4];rfl)];rfl
 | .num l,hr,_,i,m,h,hm=>by
  rw[Z0]at hr;have hn:=ziJ hr h hm;obtain⟨c,r,rfl,hc,_⟩:=zab hr;obtain⟨_,b0,_⟩:=ZI (T:=T) (c:=c) (m:=r++m) h;have:c.toNat=45∨(48<=c.toNat/\c.toNat<=57):=hc.imp id QW.1;rw[Wp om om om,yf (by unfold Jt;simp;omega),yf (by unfold JB;simp;omega),yf (by unfold J1;simp;omega),hn];rfl
 | .str l,hr,_,i,m,h,_=>by
  rw[Z0]at hr;obtain⟨_,b0,_⟩:=ZI (T:=T) (c:=34) (m:=qs l++[34]++m) (by rw[h];simp[ct,quoted]);rw[DY (by rw[b0];rfl),GF l T m hr i h];rfl
 | .arr .nil,_,_,i,m,h,_=>by
  have h0:T.data.toList.drop i=91 :: 93 :: m:=h;obtain⟨_,b0,h1⟩:=ZI (T:=T) h0;obtain⟨_,b1,_⟩:=ZI (T:=T) h1;rw[NS (by rw[b0];rfl),Yy h1 dc dc dc dc,yg (by rw[b1];rfl)];rfl
 | .arr (.cons v r),hr,hs,i,m,h,hm=>by
  rw[Z0]at hr;rw[Yh]at hs;have h0:T.data.toList.drop i=91 ::(joinC (zu (.cons v r))++93 :: m):=by rw[h];simp[ct,qg]
  obtain⟨_,b0,h1⟩:=ZI (T:=T) h0;have hrv:=hr;rw[Je]at hrv;obtain⟨c,q,e,c1,c2,c3,c4,c5,_⟩:=FV (Ub v hrv.1);have h1':T.data.toList.drop (i+1)=c ::(q++(joinT (zu r)++93 :: m)):=by rw[h1,zu,joinC,e];simp
  obtain⟨_,b1,_⟩:=ZI (T:=T) h1';rw[NS (by rw[b0];rfl),Yy h1' c1 c2 c3 c4,yf (by rw[b1];exact c5),zaf v r hr hs (i+1) m h1];have e2:(ct (.arr (.cons v r))).length=(joinC (zu (.cons v r))).length+2:=by simp[ct,qg]
  rw[e2];simp only[Ο,Option.some.injEq,Prod.mk.injEq,true_and];omega
 | .obj .nil,_,_,i,m,h,_=>by
  have h0:T.data.toList.drop i=123 :: 125 :: m:=h;obtain⟨_,b0,h1⟩:=ZI (T:=T) h0;obtain⟨_,b1,_⟩:=ZI (T:=T) h1;rw[NT (by rw[b0];rfl),Yy h1 dc dc dc dc,yg (by rw[b1];rfl)];rfl
 | .obj (.cons k v r),hr,hs,i,m,h,hm=>by
  rw[Z0]at hr;rw[Yh]at hs;have hc:ct (.obj (.cons k v r))=123 ::(joinC ((zm (.cons k v r)).map zo)++[125]):=by rw[ct,hs.2];rfl
  have h0:T.data.toList.drop i=123 ::(joinC ((zm (.cons k v r)).map zo)++125 :: m):=by rw[h,hc];simp
  obtain⟨_,b0,h1⟩:=ZI (T:=T) h0;have h1':T.data.toList.drop (i+1)=34 ::(qs k++[34]++58 :: ct v++(joinT ((zm r).map zo)++125 :: m)):=by rw[h1,zm,yi,joinC];simp[zo,quoted]
  obtain⟨_,b1,_⟩:=ZI (T:=T) h1';rw[NT (by rw[b0];rfl),Yy h1' dc dc dc dc,yf (by rw[b1];decide),zag k v r hr hs.1 (i+1) m h1];rw[hc];simp only[Ο,Option.some.injEq,Prod.mk.injEq,true_and,yp,yh,yE];omega
termination_by v=>SizeOf.sizeOf v
decreasing_by all_goals simp_wf;all_goals omega
theorem zaf:∀ (v:JV) (r:JL),Je (.cons v r)->Ua (.cons v r)->∀ i m,T.data.toList.drop i=joinC (zu (.cons v r))++93 :: m->elems T i=η (.cons v r,i+(joinC (zu (.cons v r))).length+1)
 | v,.nil,hr,hs,i,m,h=>by
  rw[Je]at hr;rw[Ua]at hs;have h':T.data.toList.drop i=ct v++93 :: m:=by rw[h];simp[zu,joinC,joinT]
  have hv:=FW v hr.1 hs.1 i (93 :: m) h' (.inr ⟨93,m,rfl,.inr (.inl rfl)⟩);have h2:=JC h';obtain⟨_,b2,_⟩:=ZI (T:=T) h2;rw[UR,hv];simp only[yB];rw[Yy h2 dc dc dc dc,yg (by rw[b2];rfl)];simp[zu,joinC,joinT]
 | v,.cons u r,hr,hs,i,m,h=>by
  rw[Je]at hr;rw[Ua]at hs;have h':T.data.toList.drop i=ct v++44 ::(joinC (zu (.cons u r))++93 :: m):=by rw[h];simp[zu,joinC,joinT]
  have hv:=FW v hr.1 hs.1 i _ h' (.inr ⟨44,_,rfl,.inl rfl⟩);have h2:=JC h';obtain⟨_,b2,h3⟩:=ZI (T:=T) h2;have hru:=hr.2;rw[Je]at hru;obtain⟨c,q,e,c1,c2,c3,c4,_,_⟩:=FV (Ub u hru.1);have h3':T.data.toList.drop (i+(ct v).length+1)=c ::(q++(joinT (zu r)++93 :: m)):=by rw[h3,zu,joinC,e];simp
  rw[UR,hv];simp only[yB];rw[Yy h2 dc dc dc dc,yf (by rw[b2];decide),yg (by rw[b2];rfl),Yy h3' c1 c2 c3 c4,zaf u r hr.2 hs.2 _ m h3];have e2:(joinC (zu (.cons v (.cons u r)))).length=(ct v).length+1+(joinC (zu (.cons u r))).length:=by simp[zu,joinC,joinT];omega
  rw[e2];simp only[Ο,Option.some.injEq,Prod.mk.injEq,true_and];omega
termination_by v r=>SizeOf.sizeOf v+SizeOf.sizeOf r
decreasing_by all_goals simp_wf;all_goals omega
theorem zag:∀ (k:List UInt8) (v:JV) (r:JM),Jf (.cons k v r)->Y7 (.cons k v r)->∀ i m,T.data.toList.drop i=joinC ((zm (.cons k v r)).map zo)++125 :: m->Q0 T i=η (.cons k v r,i+(joinC ((zm (.cons k v r)).map zo)).length+1)
 | k,v,.nil,hr,hs,i,m,h=>by
  rw[Jf]at hr;rw[Y7]at hs;have h':T.data.toList.drop i=quoted k++(58 ::(ct v++125 :: m)):=by rw[h];simp[zm,joinC,joinT,zo]
  have hk:=GF k T _ hr.1 i h';have h2:=JC h';obtain⟨_,b2,h3⟩:=ZI (T:=T) h2;obtain⟨c,q,e,c1,c2,c3,c4,_,_⟩:=FV (Ub v hr.2.1);have h3':T.data.toList.drop (i+(quoted k).length+1)=c ::(q++125 :: m):=by rw[h3,e];simp
  have hv:=FW v hr.2.1 hs.1 (i+(quoted k).length+1) (125 :: m) h3 (.inr ⟨125,m,rfl,.inr (.inr rfl)⟩);have h4:=JC h3;obtain⟨_,b4,_⟩:=ZI (T:=T) h4;rw[FF,hk];simp only[yB];rw[Yy h2 dc dc dc dc,yg (by rw[b2];rfl),Yy h3' c1 c2 c3 c4,hv];simp only[yB];rw[Yy h4 dc dc dc dc,yg (by rw[b4];rfl)];have e2:(joinC ((zm (.cons k v .nil)).map zo)).length=(quoted k).length+1+(ct v).length:=by simp[zm,joinC,joinT,zo];omega
  rw[e2];simp only[Option.some.injEq,Prod.mk.injEq,true_and];omega
 | k,v,.cons k' u r,hr,hs,i,m,h=>by
  rw[Jf]at hr;rw[Y7]at hs;have h':T.data.toList.drop i=quoted k++(58 ::(ct v++44 ::(joinC ((zm (.cons k' u r)).map zo)++125 :: m))):=by rw[h];simp[zm,joinC,joinT,zo]
  have hk:=GF k T _ hr.1 i h';have h2:=JC h';obtain⟨_,b2,h3⟩:=ZI (T:=T) h2;obtain⟨c,q,e,c1,c2,c3,c4,_,_⟩:=FV (Ub v hr.2.1);have h3':T.data.toList.drop (i+(quoted k).length+1)=c ::(q++44 ::(joinC ((zm (.cons k' u r)).map zo)++125 :: m)):=by rw[h3,e];simp
  have hv:=FW v hr.2.1 hs.1 (i+(quoted k).length+1) _ h3 (.inr ⟨44,_,rfl,.inl rfl⟩);have h4:=JC h3;obtain⟨_,b4,h5⟩:=ZI (T:=T) h4;have h5':T.data.toList.drop (i+(quoted k).length+1+(ct v).length+1)=34 ::(qs k'++[34]++58 :: ct u++(joinT ((zm r).map zo)++125 :: m)):=by rw[h5,zm,yi,joinC];simp[zo,quoted]
  rw[FF,hk];simp only[yB];rw[Yy h2 dc dc dc dc,yg (by rw[b2];rfl),Yy h3' c1 c2 c3 c4,hv];simp only[yB];rw[Yy h4 dc dc dc dc,yf (by rw[b4];decide),yg (by rw[b4];rfl),Yy h5' dc dc dc dc,zag k' u r hr.2.2 hs.2 _ m h5];have e2:(joinC ((zm (.cons k v (.cons k' u r))).map zo)).length=(quoted k).length+1+(ct v).length+1+(joinC ((zm (.cons k' u r)).map zo)).length:=by simp[zm,joinC,joinT,zo];omega
  rw[e2];simp only[Ο,Option.some.injEq,Prod.mk.injEq,true_and];omega
termination_by _ v r=>SizeOf.sizeOf v+SizeOf.sizeOf r
decreasing_by all_goals simp_wf;all_goals omega
end
theorem ziK(h:Z0 v)(hs:Yh v):Qv (ze (ct v))=η v:=by
 obtain⟨c,r,e,c1,c2,c3,c4,_,_⟩:=FV (Ub v h);have a:(ze (ct v)).data.toList.drop 0=ct v++[]:=by rw[Zb];simp
 have b:(ze (ct v)).data.toList.drop 0=c :: r:=by rw[Zb];simpa using e
 unfold Qv;rw[Yy b c1 c2 c3 c4,FW v h hs 0 [] a (.inl rfl)];simp only[yB,Μ];rw[NK (by rw[zL];exact ye _),yg (zL _).symm]
theorem zah:∀ (l acc:List (List UInt8×List UInt8)),l.Pairwise (fun a b=>a.1<=b.1)->(∀ a∈acc,∀ b∈l,a.1<=b.1)->l.foldl (fun acc p=>qQ p acc) acc=l.reverse++acc
 | [],acc,_,_=>rfl
 | p :: l,acc,h,ha=>by
  rw[Δ]at h;have e:qQ p acc=p :: acc:=by
   cases acc with
   | nil=>rfl
   | cons q r=>rw[qQ,yf (List.not_lt.2 (ha q yq p yq))]
  rw[Η,e,zah l (p :: acc) h.2 (fun a d b hb=>by
   rcases Β.1 d with rfl | d
   .exact h.1 b hb
   .exact ha a d b (yw _ hb))]
  simp
theorem ziL{l:List (List UInt8×List UInt8)}(h:l.Pairwise (fun a b=>a.1<=b.1)):zI l=l:=by
 unfold zI;rw[zah l [] h (fun a ha=>by simp at ha)];simp
theorem zai(l:List (List UInt8×List UInt8)):zI (zI l)=zI l:=ziL (NZ l)
def JM.ofL:List (List UInt8×JV)->JM
 | []=>.nil
 |(k,v) :: r=>.cons k v (JM.ofL r)
theorem JM.toL_ofL:∀ l:List (List UInt8×JV),(JM.ofL l).toL=l
 | []=>rfl
 |(k,v) :: r=>by rw[JM.ofL,JM.toL,JM.toL_ofL r]
theorem Pv:∀ m:JM,Jf m↔∀ q∈m.toL,Ζ q.1=ξ/\Z0 q.2
 | .nil=>by rw[Jf];simp[JM.toL]
 | .cons k v r=>by rw[Jf,Pv r,JM.toL];simp[and_assoc]
theorem zaj:∀ m:JM,Y7 m↔∀ q∈m.toL,Yh q.2
 | .nil=>by rw[Y7];simp[JM.toL]
 | .cons k v r=>by rw[Y7,zaj r,JM.toL];simp
theorem FX:∀ m:JM,qb m=ξ↔∃ q∈m.toL,zY q.2=ξ
 | .nil=>by rw[qb];simp[JM.toL]
 | .cons k v r=>by rw[qb,Bool.or_eq_true,FX r,JM.toL];simp
theorem FY:∀ (m:JM) (ks:List (List UInt8)),Z6 ks m=ζ↔(∀ q∈m.toL,zF q.2=ζ)/\(m.toL.map (·.1)).Nodup/\∀ q∈m.toL,q.1 ∉ ks
 | .nil,ks=>by rw[Z6];simp[JM.toL]
 | .cons k v r,ks=>by
  rw[Z6,JM.toL];simp only[Ξ,FY r,yi,List.nodup_cons,Β,List.contains_eq_mem,decide_eq_false_iff_not,List.mem_append,yP];constructor
  .rintro⟨⟨h1,h2⟩,h3,h4,h5⟩;refine⟨?_,⟨?_,h4⟩,?_⟩
   .rintro q (rfl | hq)
    .exact h1
    .exact h3 q hq
   .rintro⟨q,hq,e⟩;exact h5 q hq (.inr (by simp[e]))
   .rintro q (rfl | hq)
    .exact h2
    .exact fun hk=>h5 q hq (.inl hk)
  .rintro⟨h1,⟨h2,h3⟩,h4⟩;refine⟨⟨h1 _ (.inl rfl),h4 _ (.inl rfl)⟩,fun q hq=>h1 q (.inr hq),h3,fun q hq hk=>?_⟩;rcases hk with hk | hk
   .exact h4 q (.inr hq) hk
   .simp only[Κ,or_false]at hk;exact h2 ⟨q,hq,hk⟩
theorem FZ:∀ (l:List JV) (n:Nat),dl l<=n↔∀ v∈l,zJ v<=n
 | [],n=>by simp[dl]
 | v :: r,n=>by rw[dl,Nat.max_le,FZ r];simp
theorem ziM(h:a.Perm b):dl a=dl b:=by
 have d:=(FZ b (dl b)).1 (ye _);have f:=(FZ a (dl a)).1 (ye _);exact Nat.le_antisymm ((FZ _ _).2 fun v hv=>d v (h.subset hv)) ((FZ _ _).2 fun v hv=>f v (h.symm.subset hv))
def YR(m:JM):JM:=JM.ofL (W7 m.toL)
theorem ziN(m:JM):(YR m).toL.Perm m.toL:=by unfold YR;rw[JM.toL_ofL];exact FS _
theorem zak(m:JM):zm (YR m)=zI (zm m):=by
 have a:zm m=m.toL.map kt:=Qn m;have b:zm (YR m)=(YR m).toL.map kt:=Qn _;rw[a,b];unfold YR;rw[JM.toL_ofL,Hr]
theorem ziO{a b:Bool}(h:a=ζ↔b=ζ):a=b:=by
 cases a<;>cases b<;>simp at h<;>rfl
theorem ziP(m:JM):(Jf m->Jf (YR m))/\(Y7 m->Y7 (YR m))/\Yd (YR m)=Yd m/\Qu (YR m)=Qu m/\qb (YR m)=qb m/\Z6 [] (YR m)=Z6 [] m:=by
 have p:=ziN m;refine⟨fun h=>?_,fun h=>?_,?_,?_,?_,?_⟩
 .rw[Pv]at *;exact fun q hq=>h q (p.subset hq)
 .rw[zaj]at *;exact fun q hq=>h q (p.subset hq)
 .rw[Wr,Wr];exact ziM (p.map _)
 .rw[UZ,UZ];exact (p.map _).sum_nat
 .have:qb (YR m)=ξ↔qb m=ξ:=by
   rw[FX,FX];exact⟨fun ⟨q,h1,h2⟩=>⟨q,p.subset h1,h2⟩,fun ⟨q,h1,h2⟩=>⟨q,p.symm.subset h1,h2⟩⟩
  exact Bool.eq_iff_iff.2 this
 .refine ziO ?_;rw[FY,FY];exact⟨fun ⟨h1,h2,h3⟩=>⟨fun q hq=>h1 q (p.symm.subset hq),((p.map _).nodup_iff).1 h2,fun q hq=>h3 q (p.symm.subset hq)⟩,fun ⟨h1,h2,h3⟩=>⟨fun q hq=>h1 q (p.subset hq),((p.map _).nodup_iff).2 h2,fun q hq=>h3 q (p.subset hq)⟩⟩
mutual
def nv:JV->JV
 | .arr l=>.arr (V2 l)
 | .obj m=>.obj (YR (Vo m))
 | .nul=>.nul
 | .tt=>.tt
 | .ff=>.ff
 | .num l=>.num l
 | .str l=>.str l
def V2:JL->JL
 | .nil=>.nil
 | .cons v r=>.cons (nv v) (V2 r)
def Vo:JM->JM
 | .nil=>.nil
 | .cons k v r=>.cons k (nv v) (Vo r)
end
structure NF(a b:JV):Prop where
 ct:ct a=ct b
 rd:Z0 b->Z0 a
 sr:Yh a
 dep:zJ a=zJ b
 cnt:zn a=zn b
 big:zY a=zY b
 tw:zF a=zF b
theorem NF.leaf(h:Yh v):NF v v:=⟨rfl,id,h,rfl,rfl,rfl,rfl⟩
mutual
theorem U9:∀ v:JV,NF (nv v) v
 | .nul=>by rw[nv];exact NF.leaf (by rw[Yh];trivial;all_goals simp)
 | .tt=>by rw[nv];exact NF.leaf (by rw[Yh];trivial;all_goals simp)
 | .ff=>by rw[nv];exact NF.leaf (by rw[Yh];trivial;all_goals simp)
 | .num l=>by rw[nv];exact NF.leaf (by rw[Yh];trivial;all_goals simp)
 | .str l=>by rw[nv];exact NF.leaf (by rw[Yh];trivial;all_goals simp)
 | .arr l=>by
  obtain⟨h1,h2,h3,h4,h5,h6,h7⟩:=zal l;rw[nv];exact⟨by rw[Go.Proofs.YtgoafoojaceadaaGreatDoor.ct,Go.Proofs.YtgoafoojaceadaaGreatDoor.ct,h1],fun h=>by rw[Z0]at *;exact h2 h,by rw[Yh];exact h3,by rw[zJ,zJ,h4],by rw[zn,zn,h5],by rw[zY,zY,h6],by rw[zF,zF,h7]⟩
 | .obj m=>by
  obtain⟨h1,h2,h3,h4,h5,h6,h7⟩:=zam m;obtain⟨g1,g2,g3,g4,g5,g6⟩:=ziP (Vo m);rw[nv];exact⟨by rw[Go.Proofs.YtgoafoojaceadaaGreatDoor.ct,Go.Proofs.YtgoafoojaceadaaGreatDoor.ct,zak,zai,h1],fun h=>by rw[Z0]at *;exact g1 (h2 h),by rw[Yh,zak,zai];exact⟨g2 h3,rfl⟩,by rw[zJ,zJ,g3,h4],by rw[zn,zn,g4,h5],by rw[zY,zY,g5,h6],by rw[zF,zF,g6,h7]⟩
theorem zal:∀ l:JL,zu (V2 l)=zu l/\(Je l->Je (V2 l))/\Ua (V2 l)/\YO (V2 l)=YO l/\Q1 (V2 l)=Q1 l/\qG (V2 l)=qG l/\qh (V2 l)=qh l
 | .nil=>by rw[V2,Ua];exact⟨rfl,id,trivial,rfl,rfl,rfl,rfl⟩
 | .cons v r=>by
  have h:=U9 v;obtain⟨h1,h2,h3,h4,h5,h6,h7⟩:=zal r;rw[V2];exact⟨by rw[zu,zu,h.ct,h1],fun q=>by rw[Je]at *;exact⟨h.rd q.1,h2 q.2⟩,by rw[Ua];exact⟨h.sr,h3⟩,by rw[YO,YO,h.dep,h4],by rw[Q1,Q1,h.cnt,h5],by rw[qG,qG,h.big,h6],by rw[qh,qh,h.tw,h7]⟩
theorem zam:∀ m:JM,zm (Vo m)=zm m/\(Jf m->Jf (Vo m))/\Y7 (Vo m)/\Yd (Vo m)=Yd m/\Qu (Vo m)=Qu m/\qb (Vo m)=qb m/\∀ ks,Z6 ks (Vo m)=Z6 ks m
 | .nil=>by rw[Vo,Y7];exact⟨rfl,id,trivial,rfl,rfl,rfl,fun _=>rfl⟩
 | .cons k v r=>by
  have h:=U9 v;obtain⟨h1,h2,h3,h4,h5,h6,h7⟩:=zam r;rw[Vo];exact⟨by rw[zm,zm,h.ct,h1],fun q=>by rw[Jf]at *;exact⟨q.1,h.rd q.2.1,h2 q.2.2⟩,by rw[Y7];exact⟨h.sr,h3⟩,by rw[Yd,Yd,h.dep,h4],by rw[Qu,Qu,h.cnt,h5],by rw[qb,qb,h.big,h6],fun ks=>by rw[Z6,Z6,h.tw,h7]⟩
end
theorem zan(h:Z0 v):Qv (ze (ct v))=η (nv v):=by
 have f:=U9 v;have:=ziK (f.rd h) f.sr
 rwa [f.ct]at this
theorem zao(h:Z0 v)(hb:zY v=ζ)(ht:zF v=ζ):Zn (ze (ct v))=if 20000<(ct v).length then .inl 1 else if 100<zJ v∨3000<zn v then .inl 5 else .inr (nv v):=by
 have f:=U9 v;unfold Zn;rw[zL,zan h];simp only[f.big,f.tw,f.dep,f.cnt,hb,ht];rfl
theorem ziQ(h:nm s i=η (l,j)):Pu l:=by
 unfold nm at h;split at h
 .rename_i hd;injection h with h;injection h with h1 h2;have q:Za s i<s.size:=Zi (by have:=QW.1 hd;omega);have u:Za s i<qP s i:=by
   unfold qP;split
   .omega
   .rw[Wn hd];have:=(NR (s:=s) (i:=Za s i+1) om).1;omega
  have m:∀ k,Za s i<=k->k<qP s i->zS (bt s k)=ξ:=fun k h1 h2=>by
   unfold qP at h2;split at h2
   .have:k=Za s i:=om;rw[this];exact hd
   .exact Ag h1 h2
  have r:bt s (Za s i)=48->Zr s (Za s i+1) (qP s i)=[]:=fun e=>by
   unfold qP;rw[yg e];unfold Zr;simp
  have n:(s.data.toList.getD (Za s i) 0).toNat=bt s (Za s i):=rfl;have o:∀ b∈Zr s (Za s i+1) (qP s i),zS b.toNat=ξ:=fun b n=>by
   obtain⟨k,y,w,x⟩:=Ah n;rw[x];exact m k om w
  have hcut:=Le u q;by_cases d:bt s i=45
  .have e:Za s i=i+1:=by unfold Za;rw[yg d]
   have g:Zr s i (qP s i)=[45]++s.data.toList.getD (Za s i) 0 :: Zr s (Za s i+1) (qP s i):=by
    rw[Le om om,← e,hcut];have:s.data.toList.getD i 0=45:=UInt8.toNat_inj.1 d;rw[this];rfl
   by_cases f:bt s (Za s i)=48
   .have v:l=[48]:=by
     rw[← h1,g,r f];have:s.data.toList.getD (Za s i) 0=48:=UInt8.toNat_inj.1 f;rw[this];rfl
    subst v;exact⟨[],[],48,rfl,.inl rfl,rfl,fun b n=>by simp at n,fun _=>⟨rfl,rfl⟩⟩
   .refine⟨[45],_,_,?_,.inr rfl,hd,o,fun h=>absurd h f⟩;rw[← h1,g];unfold QD;rw[yf];intro e;simp only[Ι,Ε,List.cons.injEq,true_and]at e;exact f (by rw[← n,e.1];rfl)
  .have e:Za s i=i:=by unfold Za;rw[yf d]
   refine⟨[],Zr s (Za s i+1) (qP s i),s.data.toList.getD (Za s i) 0,?_,.inl rfl,hd,o,fun h=>⟨r h,rfl⟩⟩;rw[← h1,Ε,← hcut];unfold QD;rw[yf,e];intro p;have a:=hcut;rw[e]at a;rw[a]at p;injection p with p _;exact d (by show (s.data.toList.getD i 0).toNat=45;rw[p];rfl)
 .cases h
theorem Ka(s:Bs):∀ f i,(∀ v j,pv s f i=η (v,j)->Z0 v)/\(∀ l j,pa s f i=η (l,j)->Je l)/\(∀ m j,po s f i=η (m,j)->Jf m)
 | 0,i=>⟨fun v j h=>by simp[pv]at h,fun v j h=>by simp[pa]at h,fun v j h=>by simp[po]at h⟩
 | f+1,i=>by
  refine⟨fun v j h=>?_,fun l j h=>?_,fun m j h=>?_⟩
  .rw[pv]at h;split at h
   .split at h
    .injection h with h;injection h with hv h;subst hv;rw[Z0,Je];trivial
    .simp only[yA]at h;obtain⟨⟨l,k⟩,hk,h⟩:=h;injection h with hv h;subst hv;rw[Z0];exact (Ka s f (sk s (i+1))).2.1 l k hk
   .split at h
    .split at h
     .injection h with h;injection h with hv h;subst hv;rw[Z0,Jf];trivial
     .simp only[yA]at h;obtain⟨⟨l,k⟩,hk,h⟩:=h;injection h with hv h;subst hv;rw[Z0];exact (Ka s f (sk s (i+1))).2.2 l k hk
    .split at h
     .simp only[yA]at h;obtain⟨⟨l,k⟩,hk,h⟩:=h;injection h with hv h;subst hv;rw[Z0];exact N0 hk
     .split at h
      .injection h with h;injection h with hv h;subst hv;rw[Z0];trivial
      .split at h
       .injection h with h;injection h with hv h;subst hv;rw[Z0];trivial
       .split at h
        .injection h with h;injection h with hv h;subst hv;rw[Z0];trivial
        .simp only[yA]at h;obtain⟨⟨l,k⟩,hk,h⟩:=h;injection h with hv h;subst hv;rw[Z0];exact ziQ hk
  .rw[pa]at h;simp only[Α]at h;obtain⟨⟨v,k⟩,hk,h⟩:=h;have b:=(Ka s f i).1 v k hk;simp only at h;split at h
   .injection h with h;injection h with hv h;subst hv;rw[Je,Je];exact⟨b,trivial⟩
   .split at h
    .simp only[yA]at h;obtain⟨⟨l,n⟩,d,h⟩:=h;injection h with hv h;subst hv;rw[Je];exact⟨b,(Ka s f _).2.1 l n d⟩
    .cases h
  .rw[po]at h;simp only[Α]at h;obtain⟨⟨p,a⟩,o,h⟩:=h;have g:=N0 o;simp only at h;split at h
   .simp only[Α]at h;obtain⟨⟨v,k⟩,hk,h⟩:=h;have b:=(Ka s f _).1 v k hk;simp only at h;split at h
    .injection h with h;injection h with hv h;subst hv;rw[Jf,Jf];exact⟨g,b,trivial⟩
    .split at h
     .simp only[yA]at h;obtain⟨⟨l,n⟩,d,h⟩:=h;injection h with hv h;subst hv;rw[Jf];exact⟨g,b,(Ka s f _).2.2 l n d⟩
     .cases h
   .cases h
theorem ziR(h:val s i=η (v,j)):Z0 v:=(Ka s _ i).1 v j h
theorem ziS(h:Qv s=η v):Z0 v:=by
 unfold Qv at h
 cases hv:val s (sk s 0)with
 | none=>rw[hv]at h;simp at h
 | some q=>
  obtain⟨u,j⟩:=q;rw[hv]at h;simp only[yB]at h;split at h
  .injection h with h;subst h;exact ziR hv
  .cases h
theorem zap:∀ (f f' op i k k':Nat),Qe T f op i=η k->Qe T f' op i=η k'->k=k'
 | 0,_,_,_,_,_,h,_=>by simp[Qe]at h
 | _+1,0,_,_,_,_,_,h=>by simp[Qe]at h
 | f+1,f'+1,op,i,k,k',h,h'=>by
  rw[Qe]at h h';by_cases hi:i<T.size
  .rw[yg hi]at h h'
   cases hn:Yu T i with
   | none=>rw[hn]at h;simp at h
   | some j=>
    rw[hn]at h h';simp only[yB]at h h'
    cases ho:JD (bt T i) op with
    | none=>rw[ho]at h;simp at h
    | some o=>
     rw[ho]at h h';simp only[yB]at h h';by_cases hs:o=0/\VT T j=ξ
     .rw[yg hs]at h h';injection h with h;injection h' with h';omega
     .rw[yf hs]at h h';exact zap f f' o j k k' h h'
  .rw[yf hi]at h;cases h
def LB(T:Bs)(P:List UInt8->Prop):Prop:=∀ t t',P t->P t'->∀ i m m',T.data.toList.drop i=t++m->WZ m->T.data.toList.drop i=t'++m'->WZ m'->t=t'
theorem zaq(T:Bs):LB T fun t=>J3 T t/\t≠[]:=fun t t' h h' i m m' d s d' s'=>by
 obtain⟨f,g⟩:=h.1 i m d s;obtain⟨b,a⟩:=h'.1 i m' d' s';have:=zap f b 0 i _ _ g a;rw[d]at d';exact (List.append_inj d' om).1
theorem ziT(T:Bs):LB T fun t=>∃ p:List UInt8×List UInt8,t=zo p/\J3 T p.2/\p.2≠[]/\Ζ p.1=ξ:=by
 rintro t y ⟨p,rfl,n,o,r⟩ ⟨q,rfl,u,v,w⟩ i m g d s h x;have f:T.data.toList.drop i=quoted p.1++(58 ::(p.2++m)):=by rw[d];simp[zo]
 have b:T.data.toList.drop i=quoted q.1++(58 ::(q.2++g)):=by rw[h];simp[zo]
 have l:=GF p.1 T _ r i f;have a:=GF q.1 T _ w i b;rw[l]at a;injection a with a;injection a with a _;rw[← a]at b;have j:=(ZI (T:=T) (c:=58) (JC f)).2.2;have k:=(ZI (T:=T) (c:=58) (JC b)).2.2;have:=zaq T p.2 q.2 ⟨n,o⟩ ⟨u,v⟩ _ m g j s k x;unfold zo;rw[a,this]
theorem zar{P:List UInt8->Prop}(hP:LB T P)(hne:∀ t,P t->t≠[]){ds:List (List UInt8)}{a a' c':UInt8}(h:T.data.toList=a ::(joinC cs++[c]))(h':T.data.toList=a' ::(joinC ds++[c']))(hc:c.toNat=93∨c.toNat=125)(hc':c'.toNat=93∨c'.toNat=125)(t1:∀ t∈cs,P t)(t2:∀ t∈ds,P t):cs=ds:=by
 have i:∀ k,k<=cs.length->k<=ds.length->cs.take k=ds.take k:=by
  intro k;induction k with
  | zero=>intro _ _;simp
  | succ k ih=>
   intro v w;have e:=ih om om;have p:=FK h k om;have m:=FK h' k om;have o:pk cs k=pk ds k:=by unfold pk;rw[e]
   rw[← o]at m;have:=hP _ _ (t1 _ (yt (by omega:k<cs.length))) (t2 _ (yt (by omega:k<ds.length))) _ _ _ p (Pe _ c hc) m (Pe _ c' hc');rw[yz om,yz om,e,this]
 have f:∀ {d g:List (List UInt8)} {b l e n:UInt8},T.data.toList=b ::(joinC d++[e])->T.data.toList=l ::(joinC g++[n])->(∀ t∈g,P t)->d.take d.length=g.take d.length->¬ d.length<g.length:=by
  intro d g b l e n hx s u q j;have p1:=Pg hx;have z:=FL s d.length j;have o:pk d d.length=pk g d.length:=by unfold pk;rw[q]
  have r:=hne _ (u _ (yt j));have:1<=(g[d.length]).length:=by
   cases hq:g[d.length]with
   | nil=>exact absurd hq r
   | cons _ _=>simp
  omega
 have x:¬ cs.length<ds.length:=fun hl=>f h h' t2 (i _ (ye _) om) hl;have y:¬ ds.length<cs.length:=fun hl=>f h' h t1 (i _ om (ye _)).symm hl;have:=i cs.length (ye _) om
 rwa [yr (ye _),yr om]at this
theorem ziU{l m:JL}(hl:qT l)(hm:qT m)(h:ct (.arr l)=ct (.arr m)):zu l=zu m:=by
 have a:(ze (ct (.arr l))).data.toList=91 ::(joinC (zu l)++[93]):=by rw[Zb];rfl
 have b:(ze (ct (.arr l))).data.toList=91 ::(joinC (zu m)++[93]):=by rw[Zb,h];rfl
 exact zar (zaq _) (fun t ht=>ht.2) a b (.inl rfl) (.inl rfl) (Pc _ l hl) (Pc _ m hm)
theorem zas{p q:List UInt8×List UInt8}(hp:Ζ p.1=ξ)(hq:Ζ q.1=ξ)(h:zo p=zo q):p=q:=by
 have d:(ze (zo p)).data.toList.drop 0=quoted p.1++(58 :: p.2):=by rw[Zb];rfl
 have b:(ze (zo p)).data.toList.drop 0=quoted q.1++(58 :: q.2):=by rw[Zb,h];rfl
 have f:=GF p.1 _ _ hp 0 d;have a:=GF q.1 _ _ hq 0 b;rw[f]at a;injection a with a;injection a with a _;rw[d,a]at b;have:=List.append_cancel_left b;injection this with _ this;exact Prod.ext a this
theorem zat:∀ {ps qs:List (List UInt8×List UInt8)},(∀ p∈ps,Ζ p.1=ξ)->(∀ p∈qs,Ζ p.1=ξ)->ps.map zo=qs.map zo->ps=qs
 | [],[],_,_,_=>rfl
 | [],_ :: _,_,_,h=>by simp at h
 | _ :: _,[],_,_,h=>by simp at h
 | p :: ps,q :: qs,h1,h2,h=>by
  rw[yi,yi]at h;injection h with a b;rw[zas (h1 p yq) (h2 q yq) a,zat (fun x hx=>h1 x (yw _ hx)) (fun x hx=>h2 x (yw _ hx)) b]
theorem ziV{k m:JM}(hk:qR k)(hm:qR m)(h:ct (.obj k)=ct (.obj m)):zI (zm k)=zI (zm m):=by
 have f:(ze (ct (.obj k))).data.toList=123 ::(joinC ((zI (zm k)).map zo)++[125]):=by rw[Zb];rfl
 have g:(ze (ct (.obj k))).data.toList=123 ::(joinC ((zI (zm m)).map zo)++[125]):=by rw[Zb,h];rfl
 have b:=fun p (a:p∈zI (zm k))=>Pd (ze (ct (.obj k))) k hk p ((Qc _).subset a);have d:=fun p (a:p∈zI (zm m))=>Pd (ze (ct (.obj k))) m hm p ((Qc _).subset a);have:=zar (ziT _) (fun t ht=>by obtain⟨p,rfl,_⟩:=ht;simp[zo,quoted]) f g (.inr rfl) (.inr rfl)
  (fun t ht=>by obtain⟨p,a,rfl⟩:=yP.1 ht;exact⟨p,rfl,b p a⟩) (fun t ht=>by obtain⟨p,a,rfl⟩:=yP.1 ht;exact⟨p,rfl,d p a⟩)
 exact zat (fun p a=>(b p a).2.2) (fun p a=>(d p a).2.2) this
theorem ziW{a b:List UInt8}(ha:Ζ a=ξ)(hb:Ζ b=ξ)(h:quoted a=quoted b):a=b:=by
 have:=zas (p:=(a,[])) (q:=(b,[])) ha hb (by unfold zo;simp only;rw[h]);injection this
def kd:JV->Nat
 | .nul=>0 | .tt=>1 | .ff=>2 | .num _=>3 | .str _=>4 | .arr _=>5 | .obj _=>6
def fb(c:Nat):Nat:=if c=110 then 0 else if c=116 then 1 else if c=102 then 2 else if c=34 then 4 else if c=91 then 5 else if c=123 then 6 else 3
theorem Uc(h:zz v):∃ c r,ct v=c :: r/\fb c.toNat=kd v:=by
 cases v with
 | nul=>exact⟨_,_,rfl,rfl⟩
 | tt=>exact⟨_,_,rfl,rfl⟩
 | ff=>exact⟨_,_,rfl,rfl⟩
 | num l=>
  rw[zz]at h;obtain⟨c,r,rfl,a,_⟩:=h;refine⟨c,r,rfl,?_⟩;have:c.toNat=45∨(48<=c.toNat/\c.toNat<=57):=a.imp id QW.1;unfold fb kd
  repeat (rw[yf om])
 | str l=>exact⟨_,_,rfl,rfl⟩
 | arr l=>exact⟨_,_,rfl,rfl⟩
 | obj m=>exact⟨_,_,rfl,rfl⟩
theorem ziX{a b:JV}(ha:zz a)(hb:zz b)(h:ct a=ct b):kd a=kd b:=by
 obtain⟨c,r,e,f⟩:=Uc ha;obtain⟨i,j,d,g⟩:=Uc hb;rw[e,d]at h;injection h with h _;rw[← f,← g,h]
def GK:JV->JV->Bool
 | .nul,.nul=>ξ
 | .tt,.tt=>ξ
 | .ff,.ff=>ξ
 | .num a,.num b=>a ==b
 | .str a,.str b=>a ==b
 | _,_=>ζ
theorem ziY{a b:JV}(h:GK a b=ξ):ct a=ct b:=by
 unfold GK at h;split at h<;>first | rfl |(rw[yD]at h;rw[h]) | cases h
theorem ziZ{a b:JV}(ha:zz a)(hb:zz b)(h:ct a=ct b):GK a b=ξ∨(∃ l m,a= .arr l/\b= .arr m)∨∃ k m,a= .obj k/\b= .obj m:=by
 have d:=ziX ha hb h
 cases a with
 | nul=>cases b<;>first | exact .inl rfl |(simp[kd]at d)
 | tt=>cases b<;>first | exact .inl rfl |(simp[kd]at d)
 | ff=>cases b<;>first | exact .inl rfl |(simp[kd]at d)
 | num l=>cases b with
  | num m=>left;have:l=m:=h;simp[GK,this]
  | _=>simp[kd]at d
 | str l=>cases b with
  | str m=>left;rw[zz]at ha hb;have:l=m:=ziW ha hb h;simp[GK,this]
  | _=>simp[kd]at d
 | arr l=>cases b with
  | arr m=>exact .inr (.inl ⟨l,m,rfl,rfl⟩)
  | _=>simp[kd]at d
 | obj l=>cases b with
  | obj m=>exact .inr (.inr ⟨l,m,rfl,rfl⟩)
  | _=>simp[kd]at d
theorem zi0(h:128<=c.toNat):qB c=[c]:=by
 unfold qB;rw[yf om,yf om,yf om,yf om,yf om,yf om,yf om]
theorem LC:∀ {l:List UInt8},(∀ c∈l,128<=c.toNat)->qs l=l
 | [],_=>rfl
 | c :: r,h=>by
  have h1:=LC (l:=r) fun x hx=>h x (yw _ hx);have a:=zi0 (h c yq);show qB c++qs r=c :: r
  rw[h1,a];rfl
theorem Pw{x:Int}(h0:128<=x)(h1:x<=255):128<=(x.toNat.toUInt8).toNat:=by
 have:(x.toNat.toUInt8).toNat=x.toNat % 256:=rfl;rw[this];omega
theorem zi1(h:128<=r)(h2:r<=1114111):(∀ c∈enc r,128<=c.toNat)/\(r<=2047->(enc r).length=2)/\(r<=65535->(enc r).length<=3):=by
 unfold enc Lib.encodeRune;by_cases a:r<=2047
 .rw[Lib.encodeRuneZ_two om om];refine⟨fun c hc=>?_,fun _=>rfl,fun _=>sm⟩;simp only[yi,Υ,Β,Κ,or_false]at hc;rcases hc with rfl | rfl<;>exact Pw om om
 .by_cases b:(2048<=(r:Int)/\(r:Int)<55296)∨(57343<(r:Int)/\(r:Int)<=65535)
  .rw[Lib.encodeRuneZ_three b];refine⟨fun c hc=>?_,fun h=>absurd h a,fun _=>sm⟩;simp only[yi,Υ,Β,Κ,or_false]at hc;rcases hc with rfl | rfl | rfl<;>exact Pw om om
  .by_cases d:65536<=r
   .rw[Lib.encodeRuneZ_four om om];refine⟨fun c hc=>?_,fun h=>absurd h a,fun h=>om⟩;simp only[yi,Υ,Β,Κ,or_false]at hc;rcases hc with rfl | rfl | rfl | rfl<;>exact Pw om om
   .have e:Lib.encodeRuneZ (r:Int)=[239,191,189]:=by
     unfold Lib.encodeRuneZ;rw[yf om,yf om,yf b,yf om]
    rw[e];refine⟨fun c hc=>?_,fun h=>absurd h a,fun _=>sm⟩;simp only[yi,Υ,Β,Κ,or_false]at hc;rcases hc with rfl | rfl | rfl<;>exact Pw om om
theorem zi2(h:r<=1114111):(qs (enc r)).length<=6/\(65536<=r->(qs (enc r)).length<=12):=by
 by_cases a:r<128
 .rw[Lc a];have:=Rl (Γ r);have e:qs [Γ r]=qB (Γ r):=by simp[qs]
  rw[e];omega
 .obtain⟨b,_,d⟩:=zi1 om h;rw[LC b];have:=FC r;omega
theorem zi3(h:piece s i=η (r,n))(h34:bt s i≠34):(qs (enc r)).length<=n:=by
 have b:=Wk h;unfold piece at h;split at h
 .unfold Js at h;split at h
  .rename_i v a;injection h with h;injection h with h1 h2;subst h1;subst h2;have d:v=34∨v=92∨v=47∨v=8∨v=12∨v=10∨v=13∨v=9:=by
    unfold J0 at a
    repeat' split at a
    all_goals first |(injection a with a;omega) | cases a
   rcases d with rfl | rfl | rfl | rfl | rfl | rfl | rfl | rfl<;>decide
  .simp only[Α]at h;obtain⟨u,o,h⟩:=h;have m:=(zi2 b.2.2).1;unfold Qt at h;split at h
   .injection h with h;injection h with h1 h2;omega
   .split at h
    .cases h
    .simp only[Α]at h;obtain⟨v,a,h⟩:=h;split at h
     .injection h with h;injection h with h1 h2;omega
     .cases h
 .split at h
  .cases h
  .split at h
   .rename_i h92 h32 h128;injection h with h;injection h with h1 h2;subst h1;subst h2;rw[Lc h128];have e:qs [Γ (bt s i)]=qB (Γ (bt s i)):=by simp[qs]
    have g:(Γ (bt s i)).toNat=bt s i:=by rw[UInt8.toNat_ofNat'];omega
    rw[e];unfold qB;rw[g,yf om,yf om,yf om,yf om,yf om,yf om,yf om];simp
   .split at h
    .cases h
    .rename_i h92 h32 h128 hrl;injection h with h;injection h with h1 h2;have f:i<s.size:=Zi om;have j:¬ s[i].toNat<128:=by rw[← Zx s i f];exact h128
     obtain⟨k,l,_,_⟩:=WU s i f hrl j;subst h1;subst h2;unfold enc;rw[k,LC l,ym];omega
theorem zi4:∀ {i j:Nat} {l:List UInt8},qX s i=η (l,j)->(qs l).length+i+1<=j:=by
 intro i;generalize hn:s.size - i=n;induction n using Φ generalizing i with
 | _ n ih=>
  intro j l h;by_cases a:bt s i=34
  .rw[WV a]at h;injection h with h;injection h with h1 h2;subst h1;simp[qs];omega
  .cases hp:piece s i with
   | none=>rw[WW a hp]at h;cases h
   | some p=>
    obtain⟨r,b⟩:=p;have g:=Wk hp;have f:=zi3 hp a;rw[Wm a hp]at h;rcases hq:qX s (i+b)with _ |⟨d,k⟩
    .rw[hq]at h;cases h
    .rw[hq]at h;injection h with h;injection h with h1 h2;have:=ih (s.size - (i+b)) om rfl hq;subst h1;show (qs (enc r++d)).length+i+1<=j
     rw[Rm,yh];simp only at h2;omega
theorem zau(h:ZT s i=η (l,j)):(quoted l).length+i<=j:=by
 unfold ZT at h;split at h
 .have:=zi4 h;unfold quoted;simp only[yp,yh,yE];omega
 .cases h
theorem LE(l:List (List UInt8))(h:l≠[]):(joinC l).length+1=(l.map fun t=>t.length+1).sum:=by
 cases l with
 | nil=>exact absurd rfl h
 | cons t r=>
  rw[joinC,yh,D9,yi,yM];omega
theorem zi5(l:List (List UInt8×List UInt8))(h:l≠[]):(qo (zI l)).length=sumT l+1:=by
 have b:=(Qc l);have a:(zI l).map zo≠[]:=by
  intro e;rw[List.map_eq_nil_iff]at e;rw[e]at b;exact h b.symm.eq_nil
 have d:=LE ((zI l).map zo) a;have f:=Xv l;unfold sumT at *;rw[List.map_map]at d;unfold qo;simp only[yp,yh,yE];have g:((zI l).map ((fun t=>t.length+1)∘zo)).sum=((zI l).map fun p=>(zo p).length+1).sum:=rfl;omega
theorem Kb(s:Bs):∀ f i,(∀ v j,pv s f i=η (v,j)->(ct v).length+i<=j)/\(∀ l j,pa s f i=η (l,j)->zu l≠[]/\((zu l).map fun t=>t.length+1).sum+i<=j)/\(∀ m j,po s f i=η (m,j)->zm m≠[]/\sumT (zm m)+i<=j)
 | 0,i=>⟨fun v j h=>by simp[pv]at h,fun v j h=>by simp[pa]at h,fun v j h=>by simp[po]at h⟩
 | f+1,i=>by
  refine⟨fun v j h=>?_,fun l j h=>?_,fun m j h=>?_⟩
  .rw[pv]at h;have g:=Ze s (i+1);split at h
   .split at h
    .injection h with h;injection h with h0 h;subst h0;simp[ct,zu,qg,joinC];omega
    .simp only[yA]at h;obtain⟨⟨l,k⟩,b,h⟩:=h;injection h with h0 h;have o:=(Kb s f (sk s (i+1))).2.1 l k b;have y:=LE (zu l) o.1;subst h0;simp only[ct,qg,yp,yh,yE];simp only at h;omega
   .split at h
    .split at h
     .injection h with h;injection h with h0 h;subst h0;simp[ct,zm,qo,zI,joinC];omega
     .simp only[yA]at h;obtain⟨⟨l,k⟩,b,h⟩:=h;injection h with h0 h;have o:=(Kb s f (sk s (i+1))).2.2 l k b;have y:=zi5 (zm l) o.1;subst h0;simp only[ct];simp only at h;omega
    .split at h
     .simp only[yA]at h;obtain⟨⟨l,k⟩,b,h⟩:=h;injection h with h0 h;have o:=zau b;subst h0;simp only[ct];simp only at h;omega
     .split at h
      .injection h with h;injection h with h0 h;subst h0;simp[ct];omega
      .split at h
       .injection h with h;injection h with h0 h;subst h0;simp[ct];omega
       .split at h
        .injection h with h;injection h with h0 h;subst h0;simp[ct];omega
        .simp only[yA]at h;obtain⟨⟨l,k⟩,b,h⟩:=h;injection h with h0 h;have o:=EX b;subst h0;simp only[ct];simp only at h;omega
  .rw[pa]at h;simp only[Α]at h;obtain⟨⟨v,k⟩,b,h⟩:=h;have p:=(Kb s f i).1 v k b;have u:=Ze s k;simp only at h;split at h
   .injection h with h;injection h with h0 h;subst h0;refine⟨by simp[zu],?_⟩;simp[zu];omega
   .split at h
    .simp only[yA]at h;obtain⟨⟨l,n⟩,r,h⟩:=h;injection h with h0 h;have q:=(Kb s f _).2.1 l n r;have w:=Ze s (sk s k+1);subst h0;refine⟨by simp[zu],?_⟩;simp only[zu,yi,yM];simp only at h;omega
    .cases h
  .rw[po]at h;simp only[Α]at h;obtain⟨⟨d,a⟩,z,h⟩:=h;have x:=zau z;simp only at h;split at h
   .simp only[Α]at h;obtain⟨⟨v,k⟩,b,h⟩:=h;have p:=(Kb s f _).1 v k b;have B:=Ze s a;have C:=Ze s (sk s a+1);have u:=Ze s k;simp only at h;split at h
    .injection h with h;injection h with h0 h;subst h0;refine⟨by simp[zm],?_⟩;simp[zm,sumT,zo];omega
    .split at h
     .simp only[yA]at h;obtain⟨⟨l,n⟩,r,h⟩:=h;injection h with h0 h;have q:=(Kb s f _).2.2 l n r;have w:=Ze s (sk s k+1);subst h0;have e:sumT (zm (.cons d v l))=(zo (d,ct v)).length+1+sumT (zm l):=by simp[zm,sumT]
      have A:(zo (d,ct v)).length=(quoted d).length+1+(ct v).length:=by simp[zo];omega
      refine⟨by simp[zm],?_⟩;simp only at h ⊢;omega
     .cases h
   .cases h
theorem zi6(h:val s i=η (v,j)):(ct v).length+i<=j:=(Kb s _ i).1 v j h
theorem zi7(h:Qv s=η v):(ct v).length<=s.size:=by
 unfold Qv at h
 cases hv:val s (sk s 0)with
 | none=>rw[hv]at h;simp at h
 | some q=>
  rw[hv]at h;simp only[yB]at h;split at h
  .injection h with h;subst h;have a:=zi6 (v:=q.1) (j:=q.2) hv;have b:=Ze s q.2;omega
  .cases h
def Q5(x:List UInt8):List (List UInt8)->List (List UInt8)
 | []=>[x]
 | y :: r=>if y<x then y :: Q5 x r else if y=x then y :: r else x :: y :: r
def Qj(l:List (List UInt8)):List (List UInt8):=l.foldl (fun acc x=>Q5 x acc) []
theorem LF:∀ {l:List (List UInt8)},z∈Q5 x l↔z=x∨z∈l
 | []=>by simp[Q5]
 | y :: r=>by
  rw[Q5];split
  .rw[Β,LF,Β];constructor
   .rintro (h | h | h)
    .exact .inr (.inl h)
    .exact .inl h
    .exact .inr (.inr h)
   .rintro (h | h | h)
    .exact .inr (.inl h)
    .exact .inl h
    .exact .inr (.inr h)
  .split
   .rename_i h;subst h;constructor
    .intro h;exact .inr h
    .rintro (h | h)
     .rw[h];exact yq
     .exact h
   .rw[Β]
theorem zav:∀ (l acc:List (List UInt8)),z∈l.foldl (fun acc x=>Q5 x acc) acc↔z∈acc∨z∈l
 | [],acc=>by simp
 | x :: l,acc=>by
  rw[Η,zav l,LF,Β];constructor
  .rintro ((h | h) | h)
   .exact .inr (.inl h)
   .exact .inl h
   .exact .inr (.inr h)
  .rintro (h | h | h)
   .exact .inl (.inr h)
   .exact .inl (.inl h)
   .exact .inr h
theorem Px{l:List (List UInt8)}:z∈Qj l↔z∈l:=by
 unfold Qj;rw[zav];simp
def Yi(l:List (List UInt8)):Prop:=l.Pairwise (fun a b=>a<b)
theorem zaw:∀ {l:List (List UInt8)},Yi l->Yi (Q5 x l)
 | [],_=>by simp[Q5,Yi]
 | y :: r,h=>by
  unfold Yi at *;rw[Δ]at h;rw[Q5];split
  .rename_i hlt;rw[Δ];refine⟨fun a ha=>?_,zaw h.2⟩;rcases LF.1 ha with rfl | ha
   .exact hlt
   .exact h.1 a ha
  .split
   .rw[Δ];exact h
   .rename_i h1 h2;have hxy:x<y:=by
     rcases Classical.em (x<y)with g | g
     .exact g
     .exact absurd (List.le_antisymm (List.not_lt.1 g) (List.not_lt.1 h1)) h2
    rw[Δ,Δ];refine⟨fun a ha=>?_,h⟩;rcases Β.1 ha with rfl | ha
    .exact hxy
    .exact List.lt_trans hxy (h.1 a ha)
theorem zax:∀ (l acc:List (List UInt8)),Yi acc->Yi (l.foldl (fun acc x=>Q5 x acc) acc)
 | [],_,h=>h
 | x :: l,acc,h=>by rw[Η];exact zax l _ (zaw h)
theorem Py(l:List (List UInt8)):Yi (Qj l):=zax l [] List.Pairwise.nil
theorem LG:∀ {a b:List (List UInt8)},Yi a->Yi b->(∀ z,z∈a↔z∈b)->a=b
 | [],[],_,_,_=>rfl
 | [],y :: _,_,_,h=>by have:=(h y).2 yq;simp at this
 | x :: _,[],_,_,h=>by have:=(h x).1 yq;simp at this
 | x :: r,y :: s,ha,hb,h=>by
  unfold Yi at ha hb;rw[Δ]at ha hb;have e:x=y:=by
   rcases Β.1 ((h x).1 yq)with e | d
   .exact e
   .rcases Β.1 ((h y).2 yq)with e | g
    .exact e.symm
    .exact absurd (List.lt_trans (hb.1 x d) (ha.1 y g)) (Χ _)
  subst e;rw[LG (a:=r) (b:=s) ha.2 hb.2 (fun z=>?_)];constructor
  .intro f;rcases Β.1 ((h z).1 (yw _ f))with e | d
   .exact absurd (ha.1 z f) (by rw[e];exact Χ _)
   .exact d
  .intro f;rcases Β.1 ((h z).2 (yw _ f))with e | d
   .exact absurd (hb.1 z f) (by rw[e];exact Χ _)
   .exact d
theorem zi8:∀ (k n:Nat),n<10 ^ (k+1)->(Zj n).length<=k+1:=by
 intro k;induction k with
 | zero=>intro n a;rw[J2 om];simp
 | succ k ih=>
  intro n a;by_cases h:n<10
  .rw[J2 h];simp
  .rw[UU h,yh];have b:=ih (n / 10) (by rw[Nat.pow_succ]at a;omega);rw[J2 (n:=n % 10) om];simp;omega
def zay(p:List UInt8):List (List UInt8)->List UInt8
 | []=>p
 | k :: r=>zay (Qw p k) r
def Pz(o:Option JV)(ts:List (List UInt8)):Option JV:=o.bind fun u=>zM u ts
theorem zaz(o:Option JV):Pz o []=o:=by cases o<;>simp[Pz,zM]
