import Derived.Test.YtgoafoojaceadaaGreatDoorBc3
set_option maxRecDepth 100000
set_option maxHeartbeats 8000000
open Go renaming Calls->δ,Value->ω
open Go.Ending renaming returned->ε
open Go.Exit renaming inBlock->Ε
open Go.IntKind renaming i64->κ
open Go.Lib renaming alloc_old->Μ,byteCells->Α
open Go.Obj renaming cells->χ
open Go.Value renaming agg->γ,bool->θ,int->ι,slice->ς,string->σ,tuple->τ
open Go.World renaming grownBy_alloc->Δ,ownsRow_lit->Ζ
open _root_.Bool renaming and_eq_true->Ξ,eq_iff_iff->Υ,false->ζ,false_and->Ω,true->ξ,true_and->Ι
open _root_.ByteArray renaming empty->Β
open _root_.List renaming flatMap_append->Θ,getD_eq_getElem?_getD->Κ,getElem?_take_of_lt->Ν,mem_append->Τ,sum_append->Ρ
open _root_.Nat renaming add_mul->Χ,mul_le_mul_right->Η
open _root_.Option renaming elim_some->Ο,none->ν,some->η
open _root_.UInt8 renaming ofNat->Γ,toNat_lt->Φ
namespace Go.Proofs.YtgoafoojaceadaaGreatDoor
open Go.RowKit Go.Proofs.Tryz
variable{w wr w1 w2 w' w7:Wo}{B rb M i d:Nat}{q r t1 t2:List UInt8}{v v7:ω}{ps:List zx}{s:Bs}{o:Obj}{ts:List (List UInt8)}
theorem Og {P:Program} {ops:Array Oper} {o:Oper} {a:Act}  {K:Act->Wo->Prop} {Q:Exit->Act->Wo->Prop} {E:Prop}
  (hg:o.guard=ν) (s x:Operand) (t:TypeId) (hop:o.op=Op.call {callee:=Callee.builtin Builtin.append,args:=#[s,x],argTypes:=#[t,t]})
  (base:Nat) (e:TypeId) (i:TypeInfo) (z:ω) (size bytes:Nat) (ht:P.underlying t=η (.slice e)) (hi:P.info? e=η i) (hz:i.zero=η z)
  (hsize:i.size=size) (hby:i.bytes=bytes) (hzs:z.cells.size=size) (hsz:0<size)
  (v:ω) (n:Nat) (xs:List ω) (hs:a.eval s=v) (hown:w.ownsRow base e size v n xs)
  (ad:Addr) (m c:Nat) (news:List ω) (hx:a.eval x=ς (η ad) m c) (hl:news.length=m*size) (hnews:∀ j u,news[j]?=η u->w.cell? (ad.add j)=η u) (h1:∀ u∈news,u.oneCell'=ξ)
  (h63:n+m<=maxLen) (hbytes:(n+m)*bytes<=140737488355328) (hbase:base<=w.heap.size)
  (hK:∀ v' w',w'.ownsRow base e size v' (n+m) (xs++news)->w.grownBy w' v.ownBlock->K (a.put o.dst v') w'):
  if Region.wanted o (yielded ops a.tmps)=ξ then Oper.wp P o a w K Q else E:=by
 have b:Region.wanted o (yielded ops a.tmps)=ξ:=by simp[Region.wanted,hg]
 rw[yg b];exact wp_append_own w s x t hop base e i z size bytes ht hi hz hsize hby hzs hsz v n xs hs hown ad m c news hx hl hnews h1 h63 hbytes hbase fun v' w' h2 h3 _=>hK v' w' h2 h3
theorem zjs(w:Wo)(t:TypeId)(xs:List ω):∀ j u,xs[j]?=η u->(w.alloc (χ xs.toArray t)).cell? ((w:Addr).add j)=η u:=by
 intro j u a;rw[Go.WideShapes.add_plain,cell_of_row _ w (0+j) xs.toArray t (0,0) (yH w _),Nat.zero_add];simpa using a
theorem zjt(ks:List Int):∀ u∈ks.map (Value.int .u8),u.oneCell'=ξ:=by
 intro u a;obtain⟨k,_,rfl⟩:=yP.1 a;rfl
theorem XT(s:Bs)(w:Wo)(hs:s.size<=1048576):
  δ prog 105 #[s] w fun e w'=>e=ε (σ (ze (quoted s.data.toList)))/\Below w w w':=by
 obtain⟨E,C,o,q,r⟩:=info_parts Ux;go_in;go_wp2;go_loopw [4,5] (fun v i wr=>∃ (j:Nat) (p:List UInt8),j<=s.size/\i=ι κ j/\p=34 :: qs (s.data.toList.take j)/\wr.ownsRow w 5 1 v (Α p).length (Α p)/\Below w w wr) (fun _ i _=>s.size - (intOf i).toNat)
 case atStart=>exact⟨0,[34],yu _,rfl,rfl,Ζ w #[.int .u8 34] 1 (ye _) mo rfl,(yI _ _).alloc (ye _) _⟩
 case round=>
  obtain⟨j,p,hj,rfl,L,h,K⟩:=hrel;have n:=K.size;have Q:p.length<=1+6*j:=by
   have h1:=MB (s.data.toList.take j);have h5:(s.data.toList.take j).length=j:=by rw[ym,Zk];omega
   rw[L,yp];omega
  have D:(Α p).length<=1+6*j:=by rw[yL];exact Q
  have u:=zb K;clear K;by_cases W:j<s.size
  .have F:Hid (34 :: qs (s.data.toList.take (j+1))=p++qB s[j]):=by
    show _=_;rw[L,Kt s j W,zbG];rfl
   clear L Q;have hcb:s[j].toNat<256:=Φ _;by_cases y:KI s[j].toNat
   .have x:=zb (RL y);obtain⟨g1,g2,g3,g4,g5,g6⟩:=y;have t1:((s[j].toNat:Int) ==34)=ζ:=by rw[yd];omega
    have t2:((s[j].toNat:Int) ==92)=ζ:=by rw[yd];omega
    have t3:((s[j].toNat:Int) ==8)=ζ:=by rw[yd];omega
    have t4:((s[j].toNat:Int) ==9)=ζ:=by rw[yd];omega
    have t5:((s[j].toNat:Int) ==10)=ζ:=by rw[yd];omega
    have t6:((s[j].toNat:Int) ==12)=ζ:=by rw[yd];omega
    have t7:((s[j].toNat:Int) ==13)=ζ:=by rw[yd];omega
    have M:(s[j].toNat:Int)<32:=om;have T:(0:Int)<=(s[j].toNat:Int):=om;have B:Hid (({data:=#[48,49,50,51,52,53,54,55,56,57,97,98,99,100,101,102]}:Bs)=⟨J5.toArray⟩):=rfl;have hexZ:({data:=#[48,49,50,51,52,53,54,55,56,57,97,98,99,100,101,102]}:Bs).size=16:=rfl;generalize ({data:=#[48,49,50,51,52,53,54,55,56,57,97,98,99,100,101,102]}:Bs)=hx at *;obtain⟨a,ha⟩:∃ a:Nat,a=s[j].toNat / 16:=⟨_,rfl⟩;obtain⟨b,K⟩:∃ b:Nat,b=s[j].toNat % 16:=⟨_,rfl⟩;have wa:IntKind.u8.wrap ((s[j].toNat:Int) / 16)=(a:Int):=by rw[IntKind.wrap_u8];omega
    have wb:IntKind.u8.wrap (b:Int)=(b:Int):=by rw[IntKind.wrap_u8];omega
    have wb2:(s[j].toNat:Int).tmod 16=(b:Int):=by rw[Int.tmod_eq_emod_of_nonneg om];omega
    have lb0:(0:Int)<=(b:Int):=om;have la:(a:Int)<16:=om;have lb:(b:Int)<16:=om;have X:a<16:=om;have Y:b<16:=om;have pa:a<hx.size:=om;have R:b<hx.size:=om;have N:Hid (hx[a]'pa=J5.getD (s[j].toNat / 16) 0):=by
     have e:=uh B;subst e;subst ha;exact OJ _ X
    have O:Hid (hx[b]'R=J5.getD (s[j].toNat % 16) 0):=by
     have e:=uh B;subst e;subst K;exact OJ _ Y
    rw[← uh N,← uh O]at x;clear ha K B N O;go_wp2;go_region_law (refine Og rfl (.tmp 54) (.tmp 63) 22 rfl w 5 E (.int .u8 0) 1 1 underlying22 C o q r rfl dc _ _ _ rfl (by exact h.alloc _) wr 6 6 [.int .u8 92,.int .u8 117,.int .u8 48,.int .u8 48,.int .u8 (hx[a]'pa).toNat,.int .u8 (hx[b]'R).toNat] rfl (by rfl) (by exact zjs _ _ _) (by exact zjt [92,117,48,48,((hx[a]'pa).toNat:Int),((hx[b]'R).toNat:Int)]) mo om so ?_;intro G H f d)
    all_goals
     have l:=(u.alloc n _).drew.grown d so (fun k hk=>(h.lt k hk).1);have g:=Qg (m:=[92,117,48,48,hx[a]'pa,hx[b]'R]) f (by simp[Α]) rfl;clear f d h u D;go_wp2;go_roundw
    all_goals first
     | exact⟨j+1,p++[92,117,48,48,hx[a]'pa,hx[b]'R],om,by go_num,by rw[uh F,uh x],g,l⟩
     |(simp[intOf];omega)
   .by_cases I:s[j].toNat=34
    .have x:=zb (KG (c:=s[j]) om);have z:((s[j].toNat:Int) ==34)=ξ:=by rw[yD];omega
     clear I y;go_wp2_with (at_builtin;refine wpList_append_own _ rfl (.tmp 23) (.tmp 25) 22 rfl w 5 E (.int .u8 0) 1 1 underlying22 C o q r rfl dc _ _ _ rfl (h.alloc _) wr 2 2 [.int .u8 92,.int .u8 s[j].toNat] rfl rfl (Vs _ _ _ _) (GU _ _ _) mo om so ?_);intro G H f d _;have l:=(u.alloc n _).grown d so (fun k hk=>(h.lt k hk).1);have g:=Qg (m:=[92,s[j]]) f (by simp[Α]) rfl;clear f d h u D;go_wp2;go_roundw
     case rel=>exact⟨j+1,p++[92,s[j]],om,by go_num,by rw[uh F,uh x],g,l⟩
     case measure=>simp[intOf];omega
    .by_cases P:s[j].toNat=92
     .have x:=zb (KG (c:=s[j]) om);have z:((s[j].toNat:Int) ==34)=ζ:=by rw[yd];omega
      have A:((s[j].toNat:Int) ==92)=ξ:=by rw[yD];omega
      clear I P y;go_wp2_with (at_builtin;refine wpList_append_own _ rfl (.tmp 23) (.tmp 25) 22 rfl w 5 E (.int .u8 0) 1 1 underlying22 C o q r rfl dc _ _ _ rfl (h.alloc _) wr 2 2 [.int .u8 92,.int .u8 s[j].toNat] rfl rfl (Vs _ _ _ _) (GU _ _ _) mo om so ?_);intro G H f d _;have l:=(u.alloc n _).grown d so (fun k hk=>(h.lt k hk).1);have g:=Qg (m:=[92,s[j]]) f (by simp[Α]) rfl;clear f d h u D;go_wp2;go_roundw
      case rel=>exact⟨j+1,p++[92,s[j]],om,by go_num,by rw[uh F,uh x],g,l⟩
      case measure=>simp[intOf];omega
     .by_cases h8:s[j].toNat=8
      .have x:=zb (RE (c:=s[j]) om);have z:((s[j].toNat:Int) ==34)=ζ:=by rw[yd];omega
       have A:((s[j].toNat:Int) ==92)=ζ:=by rw[yd];omega
       have M:((s[j].toNat:Int) ==8)=ξ:=by rw[yD];omega
       go_wp2_with (at_builtin;refine wpList_append_own _ rfl (.tmp 29) (.tmp 30) 22 rfl w 5 E (.int .u8 0) 1 1 underlying22 C o q r rfl dc _ _ _ rfl (h.alloc _) wr 2 2 [.int .u8 92,.int .u8 98] rfl rfl (Vs _ _ _ _) (GU _ _ _) mo om so ?_);intro G H f d _;have l:=(u.alloc n _).grown d so (fun k hk=>(h.lt k hk).1);have g:=Qg (m:=[92,98]) f (by simp[Α]) rfl;clear f d h u D;go_wp2;go_roundw
       case rel=>exact⟨j+1,p++[92,98],om,by go_num,by rw[uh F,uh x],g,l⟩
       case measure=>simp[intOf];omega
      .by_cases h9:s[j].toNat=9
       .have x:=zb (RF (c:=s[j]) om);have z:((s[j].toNat:Int) ==34)=ζ:=by rw[yd];omega
        have A:((s[j].toNat:Int) ==92)=ζ:=by rw[yd];omega
        have M:((s[j].toNat:Int) ==8)=ζ:=by rw[yd];omega
        have T:((s[j].toNat:Int) ==9)=ξ:=by rw[yD];omega
        go_wp2_with (at_builtin;refine wpList_append_own _ rfl (.tmp 34) (.tmp 35) 22 rfl w 5 E (.int .u8 0) 1 1 underlying22 C o q r rfl dc _ _ _ rfl (h.alloc _) wr 2 2 [.int .u8 92,.int .u8 116] rfl rfl (Vs _ _ _ _) (GU _ _ _) mo om so ?_);intro G H f d _;have l:=(u.alloc n _).grown d so (fun k hk=>(h.lt k hk).1);have g:=Qg (m:=[92,116]) f (by simp[Α]) rfl;clear f d h u D;go_wp2;go_roundw
        case rel=>exact⟨j+1,p++[92,116],om,by go_num,by rw[uh F,uh x],g,l⟩
        case measure=>simp[intOf];omega
       .by_cases h10:s[j].toNat=10
        .have x:=zb (RG (c:=s[j]) om);have z:((s[j].toNat:Int) ==34)=ζ:=by rw[yd];omega
         have A:((s[j].toNat:Int) ==92)=ζ:=by rw[yd];omega
         have M:((s[j].toNat:Int) ==8)=ζ:=by rw[yd];omega
         have T:((s[j].toNat:Int) ==9)=ζ:=by rw[yd];omega
         have J:((s[j].toNat:Int) ==10)=ξ:=by rw[yD];omega
         go_wp2_with (at_builtin;refine wpList_append_own _ rfl (.tmp 39) (.tmp 40) 22 rfl w 5 E (.int .u8 0) 1 1 underlying22 C o q r rfl dc _ _ _ rfl (h.alloc _) wr 2 2 [.int .u8 92,.int .u8 110] rfl rfl (Vs _ _ _ _) (GU _ _ _) mo om so ?_);intro G H f d _;have l:=(u.alloc n _).grown d so (fun k hk=>(h.lt k hk).1);have g:=Qg (m:=[92,110]) f (by simp[Α]) rfl;clear f d h u D;go_wp2;go_roundw
         case rel=>exact⟨j+1,p++[92,110],om,by go_num,by rw[uh F,uh x],g,l⟩
         case measure=>simp[intOf];omega
        .by_cases h12:s[j].toNat=12
         .have x:=zb (RI (c:=s[j]) om);have z:((s[j].toNat:Int) ==34)=ζ:=by rw[yd];omega
          have A:((s[j].toNat:Int) ==92)=ζ:=by rw[yd];omega
          have M:((s[j].toNat:Int) ==8)=ζ:=by rw[yd];omega
          have T:((s[j].toNat:Int) ==9)=ζ:=by rw[yd];omega
          have J:((s[j].toNat:Int) ==10)=ζ:=by rw[yd];omega
          have S:((s[j].toNat:Int) ==12)=ξ:=by rw[yD];omega
          go_wp2_with (at_builtin;refine wpList_append_own _ rfl (.tmp 44) (.tmp 45) 22 rfl w 5 E (.int .u8 0) 1 1 underlying22 C o q r rfl dc _ _ _ rfl (h.alloc _) wr 2 2 [.int .u8 92,.int .u8 102] rfl rfl (Vs _ _ _ _) (GU _ _ _) mo om so ?_);intro G H f d _;have l:=(u.alloc n _).grown d so (fun k hk=>(h.lt k hk).1);have g:=Qg (m:=[92,102]) f (by simp[Α]) rfl;clear f d h u D;go_wp2;go_roundw
          case rel=>exact⟨j+1,p++[92,102],om,by go_num,by rw[uh F,uh x],g,l⟩
          case measure=>simp[intOf];omega
         .by_cases h13:s[j].toNat=13
          .have x:=zb (RJ (c:=s[j]) om);have z:((s[j].toNat:Int) ==34)=ζ:=by rw[yd];omega
           have A:((s[j].toNat:Int) ==92)=ζ:=by rw[yd];omega
           have M:((s[j].toNat:Int) ==8)=ζ:=by rw[yd];omega
           have T:((s[j].toNat:Int) ==9)=ζ:=by rw[yd];omega
           have J:((s[j].toNat:Int) ==10)=ζ:=by rw[yd];omega
           have S:((s[j].toNat:Int) ==12)=ζ:=by rw[yd];omega
           have Z:((s[j].toNat:Int) ==13)=ξ:=by rw[yD];omega
           go_wp2_with (at_builtin;refine wpList_append_own _ rfl (.tmp 49) (.tmp 50) 22 rfl w 5 E (.int .u8 0) 1 1 underlying22 C o q r rfl dc _ _ _ rfl (h.alloc _) wr 2 2 [.int .u8 92,.int .u8 114] rfl rfl (Vs _ _ _ _) (GU _ _ _) mo om so ?_);intro G H f d _;have l:=(u.alloc n _).grown d so (fun k hk=>(h.lt k hk).1);have g:=Qg (m:=[92,114]) f (by simp[Α]) rfl;clear f d h u D;go_wp2;go_roundw
           case rel=>exact⟨j+1,p++[92,114],om,by go_num,by rw[uh F,uh x],g,l⟩
           case measure=>simp[intOf];omega
          .have U:32<=s[j].toNat:=by unfold KI at y;omega
           have x:=zb (OI (c:=s[j]) I P U);have t32:¬ (s[j].toNat:Int)<32:=om;have z:((s[j].toNat:Int) ==34)=ζ:=by rw[yd];omega
           have A:((s[j].toNat:Int) ==92)=ζ:=by rw[yd];omega
           have M:((s[j].toNat:Int) ==8)=ζ:=by rw[yd];omega
           have T:((s[j].toNat:Int) ==9)=ζ:=by rw[yd];omega
           have J:((s[j].toNat:Int) ==10)=ζ:=by rw[yd];omega
           have S:((s[j].toNat:Int) ==12)=ζ:=by rw[yd];omega
           have Z:((s[j].toNat:Int) ==13)=ζ:=by rw[yd];omega
           go_wp2_with (at_builtin;refine wpList_append_own _ rfl (.tmp 65) (.tmp 67) 22 rfl w 5 E (.int .u8 0) 1 1 underlying22 C o q r rfl dc _ _ _ rfl (h.alloc _) wr 1 1 [.int .u8 s[j].toNat] rfl rfl (QS _ _ _) (Vt _ _) mo om so ?_);intro G H f d _;have l:=(u.alloc n _).grown d so (fun k hk=>(h.lt k hk).1);have g:=Qg (m:=[s[j]]) f (by simp[Α]) rfl;clear f d h u D;go_wp2;go_roundw
           case rel=>exact⟨j+1,p++[s[j]],om,by go_num,by rw[uh F,uh x],g,l⟩
           case measure=>simp[intOf];omega
  .have V:j=s.size:=om;subst V;rw[OA]at L;have HP:Hid (quoted s.data.toList=p++[34]):=by show _=_;rw[L];rfl
   clear L;go_wp2_with (at_builtin;refine wpList_append_own _ rfl (.tmp 69) (.tmp 70) 22 rfl w 5 E (.int .u8 0) 1 1 underlying22 C o q r rfl dc _ _ _ rfl (h.alloc _) wr 1 1 [.int .u8 34] rfl rfl (QS _ _ _) (Vt _ _) mo om so ?_);intro G H f d _;have l:=(u.alloc n _).grown d so (fun k hk=>(h.lt k hk).1);have g:=Qg (m:=[34]) f (by simp[Α]) rfl;have hcv:=Uy g;clear f d h u D g;go_wp2;go_ret;exact⟨by rw[uh HP];rfl,l⟩
theorem zju(p:zx):ze (quoted p.1)++⟨#[58]⟩++ze p.2=ze (zo p):=by
 rw[show (⟨#[58]⟩:Bs)=ze [58]from rfl,Vn,Vn];simp[zo]
theorem zjv(ps:List zx)(j:Nat)(h:j<ps.length):joinC ((ps.take (j+1)).map zo)=joinC ((ps.take j).map zo)++(if j=0 then zo ps[j]else 44 :: zo ps[j]):=by
 rw[yz h,yx,List.map_singleton,Pi];by_cases a:j=0
 .subst a;simp
 .rw[yf (by simp;exact⟨a,by intro e;subst e;simp at h⟩),yf a]
theorem LV(a b:List zx):sumT (a++b)=sumT a+sumT b:=by
 unfold sumT;rw[yx,Ρ]
theorem zaP(ps:List zx)(j:Nat):sumT (ps.take j)<=sumT ps:=by
 have h:=congrArg sumT (List.take_append_drop j ps);have e:=LV (ps.take j) (ps.drop j);omega
theorem zaQ(ps:List zx)(j:Nat):(joinC ((ps.take j).map zo)).length<=sumT ps:=by
 have h:=Pj ((ps.take j).map zo);have a:=zaP ps j;rw[List.map_map]at h;exact yQ h a
theorem zjw(ps:List zx)(j:Nat)(h:j<ps.length):(zo ps[j]).length+1<=sumT ps:=by
 have a:=zaP ps (j+1);rw[yz h]at a;have e:sumT (ps.take j++[ps[j]])=sumT (ps.take j)+((zo ps[j]).length+1):=by rw[LV];simp[sumT]
 omega
theorem Un(B:Nat)(v:ω)(ps:List zx)(w:Wo)(h:PR w B v ps)(hn:sumT ps<=40000000)(hl:ps.length<=40000000)(hk:∀ p∈ps,p.1.length<=1048576):
  δ prog 109 #[v] w fun e w'=>e=ε (σ (ze (qm ps)))/\Below w w w':=by
 obtain⟨i0,hi0,hz0,hz1,hz2⟩:=info_parts Ux;obtain⟨x,len,cap,rfl,hlen⟩:∃ x len cap,v=ς x len cap/\len=ps.length:=by
  rcases h.2 with ⟨hv,h0⟩ |⟨g,cap,cur,hv,_⟩
  .exact⟨_,_,_,hv,h0.symm⟩
  .exact⟨_,_,_,hv,rfl⟩
 subst hlen;have HP:=zb h;have HK:=zb hk;go_in;go_wp2_with fail;go_loopw [3,4] (fun r k wr=>∃ (j:Nat) (acc:List UInt8),k=ι κ (j:Int)/\j<=ps.length/\acc=123 :: joinC ((ps.take j).map zo)/\wr.ownsRow w 5 1 r (Α acc).length (Α acc)/\Below w w wr) (fun _ k _=>ps.length - (intOf k).toNat)
 case atStart=>
  exact⟨0,[123],rfl,yu _,rfl,Ζ w #[.int .u8 123] 1 (ye _) mo rfl,(yI _ _).alloc (ye _) _⟩
 case round=>
  obtain⟨j,acc,rfl,hj,hacc,hown,hb⟩:=hrel;have HA:=zb hacc;have HB:=zb hb;have hwsz:=hb.size;have hal:acc.length<=40000001:=by
   have:=zaQ ps j;rw[hacc];simp only[yp];omega
  clear hacc hb;by_cases hin:j<ps.length
  .have t1:((j:Int)<(ps.length:Int))=True:=eq_true om;have i1:(0:Int)<=(j:Int):=om;have i2:(j:Int)<(ps.length:Int):=om;have hm:=zjw ps j hin;have hcat:=zju ps[j];have HQ:Hid (∀ w,δ prog 105 #[(ze ps[j].1)] w fun e w'=>e=ε (σ (ze (quoted ps[j].1)))/\Below w w w'):=fun w=>by
    have:=XT (ze ps[j].1) w (by rw[zK];exact uh HK _ (yt _))
    rwa [Zb]at this
   have HJ:=zb (zjv ps j hin);have z1:(ze (quoted ps[j].1)).size<=40000000:=by
    rw[zK];simp only[zo,yh,yp]at hm;omega
   have z2:(ze ps[j].2).size<=40000000:=by
    rw[zK];simp only[zo,yh,yp]at hm;omega
   have z3:(9223372036854775807<(ze (quoted ps[j].1)).size+1)=False:=yR om;have z4:(9223372036854775807<(ze (quoted ps[j].1)).size+1+(ze ps[j].2).size)=False:=yR om;by_cases hj0:j=0
   .have t2:(0<j)=False:=yR om;rw[yg hj0]at HJ;obtain⟨g,cap',he,hgB,hgl,c0,c1⟩:=HP.cells j hin;injection he with he1 he2 he3;subst he1;subst he3;generalize ps[j]=p at *;clear hj0;have keepc:Hid (∀ X:Wo,Below w w X->X.cell? ⟨g,j*2,ν⟩=η (ze p.1)/\X.cell? ⟨g,j*2+1,ν⟩=η (ze p.2)):=fun X hX=>⟨(hX.cell hgl).trans c0,(hX.cell hgl).trans c1⟩;clear c0 c1;go_wp2_with fail;obtain⟨k00,k01⟩:=uh keepc _ (HB.drew)
    go_region_law (first
      |(
        go_simp;go_call uh HQ _ as e w2 ⟨rfl,b2⟩;have B2:=zh (HB.drew) b2;obtain⟨cap3,W3,hcv,hcell,b3,hk3,hs3⟩:=UA w2 (zo p);have own3:=hk3 _ _ _ _ _ (Zl (w:=wr.drew) hown b2);have B3:=zh B2 b3;have HCELL:=zb hcell;have hw2:=B2.size;obtain⟨k0,k1⟩:=uh keepc _ B2;clear hcell hk3)
      |(
        refine Og rfl (.tmp 17) (.tmp 31) 22 rfl w 5 i0 (.int .u8 0) 1 1 underlying22 hi0 hz0 hz1 hz2 rfl dc _ _ _ rfl (by exact own3) w2 (zo p).length cap3 (Α (zo p)) rfl (by rw[yL];omega) (by exact HCELL) (KK _) (by rw[yL];unfold maxLen;omega) (by rw[yL];omega) om ?_;intro v4 w4 own4 hg4;have B4:=B3.grown hg4 om (fun k hk=>(own3.lt k hk).1)))
    all_goals
     have own4':=Qg (m:=zo p) own4 rfl rfl;clear own4 hg4 own3 HCELL B3 B2 hcv b2 b3 hown keepc HB;go_wp2;go_roundw
    all_goals first
     | exact⟨j+1,acc++zo p,by go_num,om,by rw[uh HA,uh HJ];simp,own4',B4⟩
     |(simp[intOf];omega)
   .have t2:(0<j)=True:=eq_true om;rw[yf hj0]at HJ;obtain⟨g,cap',he,hgB,hgl,c0,c1⟩:=HP.cells j hin;injection he with he1 he2 he3;subst he1;subst he3;generalize ps[j]=p at *;clear hj0;have keepc:Hid (∀ X:Wo,Below w w X->X.cell? ⟨g,j*2,ν⟩=η (ze p.1)/\X.cell? ⟨g,j*2+1,ν⟩=η (ze p.2)):=fun X hX=>⟨(hX.cell hgl).trans c0,(hX.cell hgl).trans c1⟩;clear c0 c1;go_wp2_with (at_builtin;refine wpList_append_own _ rfl (.tmp 14) (.tmp 15) 22 rfl w 5 i0 (.int .u8 0) 1 1 underlying22 hi0 hz0 hz1 hz2 rfl dc _ _ _ rfl (hown.alloc _) wr 1 1 [.int .u8 44] rfl rfl (QS _ _ _) (Vt _ _) (by rw[yL];unfold maxLen;omega) (by rw[yL];omega) so ?_;intro v1 w1 own1 hg1 _;have own1':=Qg (m:=[44]) own1 rfl rfl;have HB1:=zb ((HB.alloc hwsz _).grown hg1 so (fun k hk=>(hown.lt k hk).1));have hw1:=HB1.size;have hal1:(acc++[44]).length<=40000002:=by {simp;omega});clear own1 hg1 hown HB;obtain⟨k00,k01⟩:=uh keepc _ (HB1.drew)
    go_region_law (first
      |(
        go_simp;go_call uh HQ _ as e w2 ⟨rfl,b2⟩;have B2:=zh (HB1.drew) b2;obtain⟨cap3,W3,hcv,hcell,b3,hk3,hs3⟩:=UA w2 (zo p);have own3:=hk3 _ _ _ _ _ (Zl (w:=w1.drew) own1' b2);have B3:=zh B2 b3;have HCELL:=zb hcell;have hw2:=B2.size;obtain⟨k0,k1⟩:=uh keepc _ B2;clear hcell hk3)
      |(
        refine Og rfl (.tmp 17) (.tmp 31) 22 rfl w 5 i0 (.int .u8 0) 1 1 underlying22 hi0 hz0 hz1 hz2 rfl dc _ _ _ rfl (by exact own3) w2 (zo p).length cap3 (Α (zo p)) rfl (by rw[yL];omega) (by exact HCELL) (KK _) (by rw[yL];unfold maxLen;omega) (by rw[yL];omega) om ?_;intro v4 w4 own4 hg4;have B4:Below w w w4:=B3.grown hg4 om (fun k hk=>(own3.lt k hk).1)))
    all_goals
     have own4':=Qg (m:=zo p) own4 rfl rfl;clear own4 hg4 own3 HCELL B3 B2 hcv b2 b3 own1' keepc HB1;go_wp2;go_roundw
    all_goals first
     | exact⟨j+1,(acc++[44])++zo p,by go_num,om,by rw[uh HA,uh HJ];simp,own4',B4⟩
     |(simp[intOf];omega)
  .have t1:((j:Int)<(ps.length:Int))=False:=yR om;have HE:Hid (acc++[125]=qm ps):=by
    show _=_
    rw[uh HA,yr om];simp[qm]
   go_wp2_with (at_builtin;refine wpList_append_own _ rfl (.tmp 33) (.tmp 34) 22 rfl w 5 i0 (.int .u8 0) 1 1 underlying22 hi0 hz0 hz1 hz2 rfl dc _ _ _ rfl (hown.alloc _) wr 1 1 [.int .u8 125] rfl rfl (QS _ _ _) (Vt _ _) (by rw[yL];unfold maxLen;omega) (by rw[yL];omega) so ?_;intro v1 w1 own1 hg1 _;have own1':=Qg (m:=[125]) own1 rfl rfl;have HB1:=zb ((HB.alloc hwsz _).grown hg1 so (fun k hk=>(hown.lt k hk).1));have hcv:=Uy own1';clear own1 hg1 own1' hown HB);go_ret;exact⟨by rw[← uh HE];rfl,HB1⟩
def nx:List UInt8->Nat×List UInt8
 | []=>(0,[])
 | c :: r=>(c.toNat,r)
theorem QQ(q:List UInt8):(nx q).1<=255:=by
 cases q with
 | nil=>exact yu _
 | cons c r=>have:=Φ c;show c.toNat<=255;omega
def QI(k:Nat):List UInt8:=if k % 12<4 then [Γ (97+k % 12)]else if k % 12=4 then [48]else if k % 12=5 then [49,50]else if k % 12=6 then [97,47,98]
 else if k % 12=7 then [126,116]else if k % 12=8 then [195,169]else if k % 12=9 then []else if k % 12=10 then [45]else [120,39,92]
theorem WE(k:Nat):(QI k).length<=3:=by
 unfold QI
 repeat' split
 all_goals simp
def ZL(w:Wo)(B rb:Nat)(q:List UInt8):Prop:=∃ (a:Option Addr) (c p:Nat) (l:List UInt8) (bb bo:Nat),w.heap[rb]?=η (χ #[ς a l.length c,ι κ p] 103 (0,0))/\B<=rb/\p<=l.length/\l.length<=1200/\BS w a bb bo l/\(0<l.length->bb<B)/\q=l.drop p
theorem ZL.is(h:ZL w B rb q):J4 w B rb:=by
 obtain⟨a,c,p,l,b,d,k,f,m,g,i,j,_⟩:=h;exact⟨a,c,p,l,b,d,k,f,om,g,i,j⟩
theorem ZL.lt(h:ZL w B rb q):rb<w.heap.size:=h.is.lt
theorem ZL.ge(h:ZL w B rb q):B<=rb:=by obtain⟨_,_,_,_,_,_,_,a,_⟩:=h;exact a
theorem ZL.len(h:ZL w B rb q):q.length<=1200:=by
 obtain⟨a,c,p,l,b,d,_,_,_,f,_,_,rfl⟩:=h;rw[yv];omega
theorem ZL.grown{r:Option Nat}(h:ZL w B rb q)(hg:w.grownBy w' r)(hne:η rb≠r)(hB:∀ k,r=η k->B<=k):ZL w' B rb q:=by
 have b:=h.lt;obtain⟨a,c,p,l,d,g,s,i,j,m,n,f,o⟩:=h;exact⟨a,c,p,l,d,g,(hg.block rb b hne).trans s,i,j,m,n.grown hg (fun h0 e=>by have:=hB d e.symm;have:=f h0;omega),f,o⟩
structure DX(B rb:Nat)(w:Wo)(q:List UInt8)(w':Wo):Prop where
 rd:ZL w' B rb q
 gr:w.grownBy w' (η rb)
theorem DX.below(h:DX B rb w q w1)(hb:Below w1 w1 w2):DX B rb w q w2:=
 ⟨h.rd.grown (Yn (r:=ν) hb) sm (fun _ e=>by cases e),Jp h.gr (Yn hb)⟩
theorem DX.step(h:DX B rb w q w1)(k:DX B rb w1 r w2):DX B rb w r w2:=⟨k.rd,Jp h.gr k.gr⟩
theorem DX.refl(h:ZL w B rb q):DX B rb w q w:=⟨h,World.grownBy.refl _ _⟩
theorem DX.size(h:DX B rb w q w1):w.heap.size<=w1.heap.size:=h.gr.size
def DT(B rb:Nat)(w:Wo)(t q:List UInt8)(e:Ending)(w':Wo):Prop:=e=ε (σ (ze t))/\DX B rb w q w'
theorem Q5(B rb:Nat)(q:List UInt8)(w:Wo)(h:ZL w B rb q):
  δ prog 19 #[rb] w fun e w'=>e=ε (ι κ ((nx q).1:Int))/\DX B rb w (nx q).2 w':=by
 obtain⟨a,c,p,l,o,r,g,s,v,u,j,d,k⟩:=h;have c0:w.cell? rb=η (ς a l.length c):=by rw[yG g];rfl
 have c1:w.cell? ⟨rb,1,ν⟩=η (ι κ p):=by rw[yG g];rfl
 have z:=yJ g 1;have n:=zb g;have b:=zb j;by_cases f:p<l.length
 .have y:=b.cell p f;obtain rfl:=b.ad om;have hx:(l.getD p 0).toNat<=255:=by have:=Φ (l.getD p 0);omega
  have i:Hid (nx q=((l.getD p 0).toNat,l.drop (p+1))):=by
   show nx q=_
   rw[k,List.drop_eq_getElem_cons f];simp[nx,List.getD,f]
  rw[uh i];generalize (l.getD p 0).toNat=x at *;go_in;go_wp2;go_quiet (fail);go_wp2;go_quiet (fail);go_wp2;go_ret;refine⟨rfl,⟨_,c,p+1,l,o,r,?_,s,om,u,b.grown (Rz w _ rb 1 _) (fun h0 e=>by have:=d h0;injection e with e;omega),d,rfl⟩,Rz w _ rb 1 _⟩;exact Mx _ rb _ _ _ _ n
 .have m:q=[]:=by rw[k,List.drop_eq_nil_iff];omega
  subst m;have i:=zb k;go_in;go_wp2;go_quiet (fail);go_wp2;go_ret;exact⟨rfl,⟨a,c,p,l,o,r,n,s,v,u,b.grown (OG w _ ν) (fun _ e=>by cases e),d,i⟩,OG w _ _⟩
theorem zaR(B rb:Nat)(q:List UInt8)(w:Wo)(h:ZL w B rb q):
  δ prog 56 #[rb] w fun e w'=>e=ε (ι κ (q.length:Int))/\DX B rb w q w':=by
 obtain⟨a,c,p,l,o,r,g,s,v,u,f,d,i⟩:=h;have c0:w.cell? rb=η (ς a l.length c):=by rw[yG g];rfl
 have c1:w.cell? ⟨rb,1,ν⟩=η (ι κ p):=by rw[yG g];rfl
 have k:=zb g;have b:=zb f;have m:Hid ((q.length:Int)=(l.length:Int) - (p:Int)):=by show _=_;rw[i,yv];omega
 have j:IntKind.i64.wrap ((l.length:Int) - (p:Int))=(l.length:Int) - (p:Int):=by rw[IntKind.wrap_i64];omega
 have n:=zb i;go_in;go_wp2;go_quiet (fail);go_wp2;go_ret;exact⟨by rw[uh m];rfl,⟨a,c,p,l,o,r,k,s,v,u,b.grown (OG w _ ν) (fun _ e=>by cases e),d,n⟩,OG w _ _⟩
theorem zjx(xa:Option Addr)(xb xo xc:Nat)(l:List UInt8)(w:Wo)(h:BS w xa xb xo l)(hl:l.length<=1048576)(hc:l.length<=xc):
  δ prog 18 #[ς xa l.length xc] w fun e w'=>e=ε w/\ZL w' w w (l.take 1200)/\Below w w w'/\w'.heap.size=w.heap.size+1:=by
 have b:0<l.length->xb<w.heap.size:=fun h0=>yK _ _ (h.cell 0 h0);have d:=zb h;have a:=zb b;by_cases g:1200<l.length
 .go_in;go_wp2;go_ret;refine⟨rfl,⟨_,xc,0,l.take 1200,xb,xo,?_,ye _,yu _,by rw[ym];omega,(d.take 1200).grown (Δ w _ ν) (fun _ e=>by cases e),fun _=>uh a om,by rw[List.drop_zero]⟩,(yI _ _).alloc (ye _) _,sm⟩;rw[yH];rw[ym,Nat.min_eq_left om];rfl
 .have f:Hid (l.take 1200=l):=yr om;go_in;go_wp2;go_ret;refine⟨rfl,⟨_,xc,0,l,xb,xo,?_,ye _,yu _,om,d.grown (Δ w _ ν) (fun _ e=>by cases e),a,by rw[List.drop_zero];exact uh f⟩,(yI _ _).alloc (ye _) _,sm⟩;rw[yH];rfl
theorem XU(k:Nat)(w:Wo)(hk:k<=255):
  δ prog 160 #[ι κ k] w fun e w'=>e=ε (σ (ze (QI k)))/\w=w':=by
 have e:(k:Int) % 12=((k % 12:Nat):Int):=om;have a:Hid (QI k=QI (k % 12)):=by show _=_;unfold QI;rw[Nat.mod_mod]
 rw[uh a];generalize k % 12=m at *;rcases (show m=0∨m=1∨m=2∨m=3∨m=4∨m=5∨m=6∨m=7∨m=8∨m=9∨m=10∨m=11 from by omega)with rfl | rfl | rfl | rfl | rfl | rfl | rfl | rfl | rfl | rfl | rfl | rfl
 all_goals
  go_in;go_wp2;go_ret;exact⟨rfl,rfl⟩
theorem XV(n:Nat)(h:n<=1000000000):(Zg n).length<=10:=by
 have:∀ (k n:Nat),n<10 ^ (k+1)->(Zg n).length<=k+1:=by
  intro k;induction k with
  | zero=>intro n a;rw[JZ om];simp
  | succ k ih=>
   intro n a;by_cases h:n<10
   .rw[JZ h];simp
   .rw[U5 h,yh];have b:=ih (n / 10) (by rw[Nat.pow_succ]at a;omega);rw[JZ (n:=n % 10) om];simp;omega
 exact this 9 n om
def sumA(ps:List zx):Nat:=(ps.map (fun p=>p.2.length+1)).sum
theorem zjy(ps:List zx)(j:Nat)(h:j<ps.length):joinC ((ps.take (j+1)).map (·.2))=joinC ((ps.take j).map (·.2))++(if j=0 then ps[j].2 else 44 :: ps[j].2):=by
 rw[yz h,yx,List.map_singleton,Pi];by_cases a:j=0
 .subst a;simp
 .rw[yf (by simp;exact⟨a,by intro e;subst e;simp at h⟩),yf a]
theorem zaS(a b:List zx):sumA (a++b)=sumA a+sumA b:=by
 unfold sumA;rw[yx,Ρ]
theorem zaT(ps:List zx)(j:Nat):sumA (ps.take j)<=sumA ps:=by
 have h:=congrArg sumA (List.take_append_drop j ps);have e:=zaS (ps.take j) (ps.drop j);omega
theorem zaU(ps:List zx)(j:Nat):(joinC ((ps.take j).map (·.2))).length<=sumA ps:=by
 have h:=Pj ((ps.take j).map (·.2));have a:=zaT ps j;rw[List.map_map]at h;exact yQ h a
theorem zjz(ps:List zx)(j:Nat)(h:j<ps.length):ps[j].2.length+1<=sumA ps:=by
 have a:=zaT ps (j+1);rw[yz h]at a;have e:sumA (ps.take j++[ps[j]])=sumA (ps.take j)+(ps[j].2.length+1):=by rw[zaS];simp[sumA]
 omega
theorem zaV(B:Nat)(v:ω)(ps:List zx)(w:Wo)(h:PR w B v ps)(hn:sumA ps<=40000000)(hl:ps.length<=40000000):
  δ prog 203 #[v] w fun e w'=>e=ε (σ (ze (qe (ps.map (·.2)))))/\Below w w w':=by
 obtain⟨S,C,E,F,G⟩:=info_parts Ux;obtain⟨x,len,H,rfl,Q⟩:∃ x len H,v=ς x len H/\len=ps.length:=by
  rcases h.2 with ⟨hv,h0⟩ |⟨g,H,cur,hv,_⟩
  .exact⟨_,_,_,hv,h0.symm⟩
  .exact⟨_,_,_,hv,rfl⟩
 subst Q;have HP:=zb h;go_in;go_wp2_with fail;go_loopw [3,4] (fun r k wr=>∃ (j:Nat) (b:List UInt8),k=ι κ (j:Int)/\j<=ps.length/\b=91 :: joinC ((ps.take j).map (·.2))/\wr.ownsRow w 5 1 r (Α b).length (Α b)/\Below w w wr) (fun _ k _=>ps.length - (intOf k).toNat)
 case atStart=>
  exact⟨0,[91],rfl,yu _,rfl,Ζ w #[.int .u8 91] 1 (ye _) mo rfl,(yI _ _).alloc (ye _) _⟩
 case round=>
  obtain⟨j,b,rfl,hj,u,a,Z⟩:=hrel;have V:=zb u;have N:=zb Z;have y:=Z.size;have hal:b.length<=40000001:=by
   have:=zaU ps j;rw[u];simp only[yp];omega
  clear u Z;by_cases D:j<ps.length
  .have t1:((j:Int)<(ps.length:Int))=True:=eq_true om;have i1:(0:Int)<=(j:Int):=om;have i2:(j:Int)<(ps.length:Int):=om;have hm:=zjz ps j D;have R:=zb (zjy ps j D);by_cases K:j=0
   .have t2:(0<j)=False:=yR om;rw[yg K]at R;obtain⟨g,O,he,hgB,J,c0,c1⟩:=HP.cells j D;injection he with he1 he2 he3;subst he1;subst he3;generalize ps[j]=p at *;clear K;have Y:=(N.cell J).trans c1;have c1w:=c1;obtain⟨s,W3,P,l,W,L,hs3⟩:=UA wr p.2;have f:=L _ _ _ _ _ a;have T:=N.trans (W.mono y);have i:=zb l;go_wp2_with (at_builtin;refine wpList_append_own _ rfl (.tmp 17) (.tmp 23) 22 rfl w 5 S (.int .u8 0) 1 1 underlying22 C E F G rfl dc _ _ _ rfl f wr p.2.length s (Α p.2) rfl (by rw[yL];omega) (by exact i) (KK _) (by rw[yL];unfold maxLen;omega) (by rw[yL];omega) om ?_;intro v4 w4 z I _;have U:Below w w w4:=T.grown I om (fun k hk=>(f.lt k hk).1));have n:=Qg (m:=p.2) z rfl rfl;go_wp2;go_roundw
    all_goals first
     | exact⟨j+1,b++p.2,by go_num,om,by rw[uh V,uh R];simp,n,U⟩
     |(simp[intOf];omega)
   .have t2:(0<j)=True:=eq_true om;rw[yf K]at R;obtain⟨g,O,he,hgB,J,c0,c1⟩:=HP.cells j D;injection he with he1 he2 he3;subst he1;subst he3;generalize ps[j]=p at *;have M:=zb fun (X:Wo) (hX:Below w w X)=>(hX.cell J).trans c1;go_wp2_with (at_builtin;refine wpList_append_own _ rfl (.tmp 14) (.tmp 15) 22 rfl w 5 S (.int .u8 0) 1 1 underlying22 C E F G rfl dc _ _ _ rfl (a.alloc _) wr 1 1 [.int .u8 44] rfl rfl (QS _ _ _) (Vt _ _) (by rw[yL];unfold maxLen;omega) (by rw[yL];omega) so ?_);intro v1 w1 o A _;have d:=Qg (m:=[44]) o rfl rfl;have q:=zb ((N.alloc y _).grown A so (fun k hk=>(a.lt k hk).1));have hw1:=q.size;have hal1:(b++[44]).length<=40000002:=so;obtain⟨s,W3,P,l,W,L,hs3⟩:=UA w1 p.2;have f:=L _ _ _ _ _ d;have T:=q.trans (W.mono hw1);have i:=zb l;have Y:=uh M _ q;go_wp2_with (at_builtin;refine wpList_append_own _ rfl (.tmp 17) (.tmp 23) 22 rfl w 5 S (.int .u8 0) 1 1 underlying22 C E F G rfl dc _ _ _ rfl f w1 p.2.length s (Α p.2) rfl (by rw[yL];omega) (by exact i) (KK _) (by rw[yL];unfold maxLen;omega) (by rw[yL];omega) om ?_;intro v4 w4 z I _;have U:Below w w w4:=T.grown I om (fun k hk=>(f.lt k hk).1));have n:=Qg (m:=p.2) z rfl rfl;go_wp2;go_roundw
    all_goals first
     | exact⟨j+1,(b++[44])++p.2,by go_num,om,by rw[uh V,uh R];simp,n,U⟩
     |(simp[intOf];omega)
  .have t1:((j:Int)<(ps.length:Int))=False:=yR om;have HE:Hid (b++[93]=qe (ps.map (·.2))):=by
    show _=_
    rw[uh V,yr om];simp[qe]
   go_wp2_with (at_builtin;refine wpList_append_own _ rfl (.tmp 25) (.tmp 26) 22 rfl w 5 S (.int .u8 0) 1 1 underlying22 C E F G rfl dc _ _ _ rfl (a.alloc _) wr 1 1 [.int .u8 93] rfl rfl (QS _ _ _) (Vt _ _) (by rw[yL];unfold maxLen;omega) (by rw[yL];omega) so ?_;intro v1 w1 o A _;have d:=Qg (m:=[93]) o rfl rfl;have q:=zb ((N.alloc y _).grown A so (fun k hk=>(a.lt k hk).1));have P:=Uy d;clear o A d a N);go_ret;exact⟨by rw[← uh HE];rfl,q⟩
def Kn(k:Nat):List UInt8:=if k % 8<5 then QI (k / 8)else if k % 8=5 then [10,1,34,127]else if k % 8=6 then [240,159,152,128,226,130,172]else [97,98]
theorem zaW(k:Nat):(Kn k).length<=8:=by
 unfold Kn;have:=WE (k / 8)
 repeat' split
 all_goals first |(simp;done) | omega
theorem zjA(k:Nat)(w:Wo)(hk:k<=255):
  δ prog 234 #[ι κ k] w fun e w'=>e=ε (σ (ze (Kn k)))/\w=w':=by
 unfold Kn;by_cases a:k % 8<5
 .have e:(k:Int) % 8<5:=om;rw[yg a];have f:(k:Int) / 8=((k / 8:Nat):Int):=om;have b:=zb (XU (k / 8) w om);have d:k / 8<=255:=om;generalize k / 8=y at *;generalize QI y=t at *;go_in;go_wp2_with fail;go_call b as e w1 ⟨rfl,rfl⟩;go_wp2;go_ret;exact⟨rfl,rfl⟩
 .rw[yf a];rcases (show k % 8=5∨k % 8=6∨k % 8=7 from by omega)with h | h | h
  all_goals
   have e:(k:Int) % 8=((k % 8:Nat):Int):=om;rw[h]at e ⊢;go_in;go_wp2;go_ret;exact⟨rfl,rfl⟩
def Ko(k:Nat):List UInt8:=if k % 16=15 then [34,92,117,100,56,51,100,92,117,68,69,48,48,92,47,92,117,48,48,52,49,34]else if k % 16=14 then [34,92,116,92,117,48,48,48,97,92,117,48,48,101,57,92,98,34]else quoted (Kn k)
theorem zjB(k:Nat):(Ko k).length<=50:=by
 unfold Ko;have a:=zaW k;have b:=Q0 (Kn k)
 repeat' split
 all_goals first |(simp;done) | omega
theorem zjC(k:Nat)(w:Wo)(hk:k<=255):
  δ prog 202 #[ι κ k] w fun e w'=>e=ε (σ (ze (Ko k)))/\Below w w w':=by
 unfold Ko;by_cases h:k % 16=15
 .have e:(k:Int) % 16=15:=om;rw[yg h];go_in;go_wp2;go_ret;exact⟨rfl,yI _ _⟩
 .rw[yf h];by_cases b:k % 16=14
  .have e:(k:Int) % 16=14:=om;rw[yg b];go_in;go_wp2;go_ret;exact⟨rfl,yI _ _⟩
  .rw[yf b];have f:((k:Int) % 16 ==15)=ζ:=so;have g:((k:Int) % 16 ==14)=ζ:=so;have d:=zb (zjA k w hk);have i:=zaW k;generalize Kn k=t at *;have a:=zb (XT (ze t) w (by rw[zK];omega));rw[Zb]at a;generalize quoted t=u at *;go_in;go_wp2_with fail;go_call d as e w1 ⟨rfl,rfl⟩;go_wp2_with fail;go_call a as e w2 ⟨rfl,b2⟩;go_wp2;go_ret;exact⟨rfl,b2⟩
def Uo(x:Nat):List UInt8:=if x=255 then [57,50,50,51,51,55,50,48,51,54,56,53,52,55,55,53,56,48,55]else if x=254 then [45,57,50,50,51,51,55,50,48,51,54,56,53,52,55,55,53,56,48,56]else if x=253 then [45,48]
 else if 200<=x then Zg (x*1000003)else if x % 3=2 then 45 :: Zg (1+x / 3 % 9)else Zg (x / 3 % 12)
theorem zjD(x:Nat)(hx:x<=255):(Uo x).length<=20:=by
 unfold Uo;have a:=XV (x*1000003) om;have b:=XV (1+x / 3 % 9) om;have d:=XV (x / 3 % 12) om
 repeat' split
 all_goals first |(simp;done) | omega |(rw[yp];omega)
theorem zjE(B rb:Nat)(q:List UInt8)(w:Wo)(h:ZL w B rb q):
  δ prog 201 #[rb] w (DT B rb w (Uo (nx q).1) (nx q).2):=by
 have a:=zb (Q5 B rb q w h);have hx:=QQ q;generalize (nx q).1=x at *;generalize (nx q).2=A at *;unfold Uo;by_cases d:x=255
 .subst d;go_in;go_wp2_with fail;go_call a as e w1 ⟨rfl,r1⟩;go_wp2;go_ret;exact⟨rfl,r1⟩
 .by_cases f:x=254
  .subst f;go_in;go_wp2_with fail;go_call a as e w1 ⟨rfl,r1⟩;go_wp2;go_ret;exact⟨rfl,r1⟩
  .by_cases g:x=253
   .subst g;go_in;go_wp2_with fail;go_call a as e w1 ⟨rfl,r1⟩;go_wp2;go_ret;exact⟨rfl,r1⟩
   .have r:((x:Int) ==255)=ζ:=so;have s:((x:Int) ==254)=ζ:=so;have v:((x:Int) ==253)=ζ:=so;rw[yf d,yf f,yf g];by_cases i:200<=x
    .have m:(200:Int)<=(x:Int):=om;rw[yg i];have l:(x:Int)*1000003=((x*1000003:Nat):Int):=om;have b:=zb fun w1=>XH _ (x*1000003) w1 (ye _) om;have k:x*1000003<=1000000000:=om;generalize x*1000003=y at *;generalize Zg y=u at *;go_in;go_wp2_with fail;go_call a as e w1 ⟨rfl,r1⟩;go_wp2_with fail;go_call uh b w1 as e w2 ⟨rfl,b2⟩;go_wp2;go_ret;exact⟨rfl,r1.below b2⟩
    .have m:¬ (200:Int)<=(x:Int):=om;rw[yf i];by_cases j:x % 3=2
     .have n:(x:Int) % 3=2:=om;rw[yg j];have l:1+(x:Int) / 3 % 9=((1+x / 3 % 9:Nat):Int):=om;have b:=zb fun w1=>XH _ (1+x / 3 % 9) w1 (ye _) om;have p:=XV (1+x / 3 % 9) om;have k:1+x / 3 % 9<=10:=om;generalize 1+x / 3 % 9=y at *;have o:(⟨#[45]⟩:Bs)++ze (Zg y)=ze (45 :: Zg y):=by rw[show (⟨#[45]⟩:Bs)=ze [45]from rfl,Vn];rfl
      have z:(ze (Zg y)).size<=10:=by rw[zK];exact p
      generalize Zg y=u at *;go_in;go_wp2_with fail;go_call a as e w1 ⟨rfl,r1⟩;go_wp2_with fail;go_call uh b w1 as e w2 ⟨rfl,b2⟩;go_wp2;go_ret;exact⟨rfl,r1.below b2⟩
     .have n:((x:Int) % 3 ==2)=ζ:=so;rw[yf j];have l:(x:Int) / 3 % 12=((x / 3 % 12:Nat):Int):=om;have b:=zb fun w1=>XH _ (x / 3 % 12) w1 (ye _) om;have k:x / 3 % 12<=12:=om;generalize x / 3 % 12=y at *;generalize Zg y=u at *;go_in;go_wp2_with fail;go_call a as e w1 ⟨rfl,r1⟩;go_wp2_with fail;go_call uh b w1 as e w2 ⟨rfl,b2⟩;go_wp2;go_ret;exact⟨rfl,r1.below b2⟩
def GB:Nat->Nat
 | 0=>50
 | d+1=>98+4*GB d
theorem zaX:∀ d,50<=GB d
 | 0=>ye _
 | d+1=>by have:=zaX d;rw[GB];omega
theorem zjF:∀ d,d<=4->GB d<=21130:=by
 intro d a;rcases (show d=0∨d=1∨d=2∨d=3∨d=4 from by omega)with h | h | h | h | h<;>subst h<;>decide
structure GS(w:Wo)(B rb M:Nat)(v:ω)(ps:List zx)(wr:Wo):Prop where
 row:PR wr w.heap.size v ps
 key:∀ p∈ps,p.1.length<=3/\p.2.length<=M
 rd:J4 wr B rb
 gr:w.grownBy wr (η rb)
theorem Oh{e size n:Nat}{xs:List ω}(h:w.ownsRow B e size v n xs):∃ a c,v=ς a n c:=by
 rcases h.2 with ⟨b,i⟩ |⟨g,d,f,b,_⟩
 .exact⟨_,_,by rw[b,i]⟩
 .exact⟨_,_,b⟩
theorem GS.next(h:GS w B rb M v ps wr)(hr:J4 w1 B rb)(hg:wr.grownBy w1 (η rb))(hrb:rb<w.heap.size):GS w B rb M v ps w1:=
 ⟨Ky h.row hg (fun k e=>by injection e with e;omega),h.key,hr,Jp h.gr hg⟩
theorem GS.step(h:GS w B rb M v ps wr)(h1:t1.length<=3)(h2:t2.length<=M)(own:w7.ownsRow w 120 2 v7 (ps.length+1) (ps.flatMap Zc++Zc (t1,t2)))(hg:(wr.alloc o).grownBy w7 v.ownBlock)(hrb:rb<w.heap.size):GS w B rb M v7 (ps++[(t1,t2)]) w7:=by
 have g:=h.gr.size;have d:=h.rd.lt;obtain⟨_,_,_,_,_,_,_,b,_⟩:=id h.rd;refine⟨?_,fun p a=>?_,(h.rd.grown (Δ wr o ν) sm (fun k e=>by cases e)).grown hg (fun e=>?_) (fun k e=>?_),GW (Jp h.gr (Δ wr o _)) hg (fun k e=>(World.ownsRow.lt h.row k e).1)⟩
 .unfold PR;rw[yh,Θ];simpa using own
 .rcases Τ.1 a with a | a
  .exact h.key p a
  .simp at a;subst a;exact⟨h1,h2⟩
 .have f:=(World.ownsRow.lt h.row rb e.symm).1;omega
 .have:=(World.ownsRow.lt h.row k e).1;omega
theorem GS.sumA(h:GS w B rb M v ps wr):sumA ps<=ps.length*(M+1):=by
 have:∀ ps:List zx,(∀ p∈ps,p.1.length<=3/\p.2.length<=M)->Go.Proofs.YtgoafoojaceadaaGreatDoor.sumA ps<=ps.length*(M+1):=by
  intro ps;induction ps with
  | nil=>intro _;simp[Go.Proofs.YtgoafoojaceadaaGreatDoor.sumA]
  | cons p r ih=>
   intro a;have b:=ih (fun q hq=>a q (yw _ hq));have d:=(a p yq).2;unfold Go.Proofs.YtgoafoojaceadaaGreatDoor.sumA at *;rw[yi,yM,yp,Χ];omega
 exact this ps h.key
theorem GS.sumT(h:GS w B rb M v ps wr):sumT ps<=ps.length*(M+22):=by
 have:∀ ps:List zx,(∀ p∈ps,p.1.length<=3/\p.2.length<=M)->Go.Proofs.YtgoafoojaceadaaGreatDoor.sumT ps<=ps.length*(M+22):=by
  intro ps;induction ps with
  | nil=>intro _;simp[Go.Proofs.YtgoafoojaceadaaGreatDoor.sumT]
  | cons p r ih=>
   intro a;have b:=ih (fun q hq=>a q (yw _ hq));have d:=a p yq;have f:=Q0 p.1;have g:=Po p;unfold Go.Proofs.YtgoafoojaceadaaGreatDoor.sumT at *;rw[yi,yM,yp,Χ];omega
 exact this ps h.key
theorem zjG:(qe (ps.map (·.2))).length<=sumA ps+2:=by
 have h:=zaU ps ps.length;rw[List.take_length]at h;simp[qe];omega
theorem zaY(ps:List zx):(qm ps).length<=sumT ps+2:=by
 have h:=zaQ ps ps.length;rw[List.take_length]at h;simp[qm];omega
def V9(g:List UInt8->List UInt8×List UInt8)(op:Nat):Nat->List zx->List UInt8->List zx×List UInt8
 | 0,ps,q=>(ps,q)
 | n+1,ps,q=>V9 g op n (if op<7∨VP ps (QI (nx q).1)=ζ then ps++[(QI (nx q).1,(g (nx q).2).1)]else ps) (g (nx q).2).2
def WF(op:Nat)(r:List zx×List UInt8):List UInt8×List UInt8:=(if op<7 then qe (r.1.map (·.2))else qm r.1,r.2)
def Oi(x op:Nat)(q:List UInt8):List UInt8×List UInt8:=if op=0 then (Uo (nx q).1,(nx q).2)else if op=1 then (Ko (x / 10),q)else if op=2 then ([116,114,117,101],q)else if op=3 then ([110,117,108,108],q)
 else if x / 10 % 2=0 then (Uo (nx q).1,(nx q).2)else ([102,97,108,115,101],q)
def QR(d:Nat)(q:List UInt8):Nat:=if d=0∨(nx q).2=[]then (nx q).1 % 5 else (nx q).1 % 10
def Qq:Nat->List UInt8->List UInt8×List UInt8
 | 0,q=>Oi (nx q).1 (QR 0 q) (nx q).2
 | d+1,q=>if QR (d+1) q<5 then Oi (nx q).1 (QR (d+1) q) (nx q).2 else WF (QR (d+1) q) (V9 (Qq d) (QR (d+1) q) (1+(nx q).1 / 10 % 4) [] (nx q).2)
theorem zaZ(q:List UInt8):QR 0 q<5:=by unfold QR;rw[yg (.inl rfl)];omega
theorem zjH(d:Nat)(q:List UInt8):QR d q<10:=by unfold QR;split<;>omega
theorem zjI(h:QR d q<5):Qq d q=Oi (nx q).1 (QR d q) (nx q).2:=by
 cases d with
 | zero=>rw[Qq]
 | succ d=>rw[Qq,yg h]
theorem zjJ(h:¬ QR d q<5):Qq d q=WF (QR d q) (V9 (Qq (d - 1)) (QR d q) (1+(nx q).1 / 10 % 4) [] (nx q).2):=by
 cases d with
 | zero=>exact absurd (zaZ q) h
 | succ d=>rw[Qq,yf h];rfl
def YA(M:Nat)(ps:List zx):Prop:=∀ p∈ps,p.1.length<=3/\p.2.length<=M
theorem YA.sumA:∀ {ps:List zx},YA M ps->sumA ps<=ps.length*(M+1)
 | [],_=>yu _
 | p :: r,hk=>by
  have h1:=YA.sumA (ps:=r) (fun q hq=>hk q (yw _ hq));have a:=(hk p yq).2;unfold Go.Proofs.YtgoafoojaceadaaGreatDoor.sumA at *;rw[yi,yM,yp,Χ];omega
theorem YA.sumT:∀ {ps:List zx},YA M ps->sumT ps<=ps.length*(M+22)
 | [],_=>yu _
 | p :: r,hk=>by
  have h1:=YA.sumT (ps:=r) (fun q hq=>hk q (yw _ hq));have a:=hk p yq;have b:=Q0 p.1;have d:=Po p;unfold Go.Proofs.YtgoafoojaceadaaGreatDoor.sumT at *;rw[yi,yM,yp,Χ];omega
theorem YA.snoc(h:YA M ps){a b:List UInt8}(ha:a.length<=3)(hb:b.length<=M):YA M (ps++[(a,b)]):=fun p d=>by
 rcases Τ.1 d with d | d
 .exact h p d
 .rw[List.mem_singleton]at d;subst d;exact⟨ha,hb⟩
theorem LX{g:List UInt8->List UInt8×List UInt8}{op:Nat}(hg:∀ q,(g q).1.length<=M):∀ (n:Nat) (ps:List zx) (q:List UInt8),YA M ps->YA M (V9 g op n ps q).1/\(V9 g op n ps q).1.length<=ps.length+n
 | 0,ps,q,h=>⟨h,ye _⟩
 | n+1,ps,q,h=>by
  rw[V9];split
  .obtain⟨h1,h2⟩:=LX (op:=op) hg n _ (g (nx q).2).2 (h.snoc (WE _) (hg (nx q).2));rw[yh,yS]at h2;exact⟨h1,om⟩
  .obtain⟨h1,h2⟩:=LX (op:=op) hg n _ (g (nx q).2).2 h;exact⟨h1,om⟩
theorem zjK{op:Nat}{r:List zx×List UInt8}(h:YA M r.1)(hl:r.1.length<=4):(WF op r).1.length<=98+4*M:=by
 have a:=h.sumA;have b:=h.sumT;have d:=zjG (ps:=r.1);have f:=zaY r.1;have g:r.1.length*(M+1)<=4*(M+1):=Η _ hl;have i:r.1.length*(M+22)<=4*(M+22):=Η _ hl;unfold WF;simp only;split<;>omega
theorem za0(x op:Nat)(q:List UInt8):(Oi x op q).1.length<=50:=by
 have a:=zjD (nx q).1 (QQ q);have b:=zjB (x / 10);unfold Oi
 repeat' split
 all_goals first |(simp;done) |(simp only;omega)
theorem XW:∀ (d:Nat) (q:List UInt8),(Qq d q).1.length<=GB d
 | 0,q=>by rw[Qq];exact za0 _ _ _
 | d+1,q=>by
  have hb:=zaX d;rw[Qq];split
  .have:=za0 (nx q).1 (QR (d+1) q) (nx q).2;rw[GB];omega
  .obtain⟨a,b⟩:=LX (op:=QR (d+1) q) (XW d) (1+(nx q).1 / 10 % 4) [] (nx q).2 (fun p hp=>by cases hp);rw[yE]at b;exact zjK a om
structure GX(w:Wo)(B rb M:Nat)(v:ω)(ps:List zx)(q:List UInt8)(wr:Wo):Prop where
 row:PR wr w.heap.size v ps
 key:YA M ps
 dx:DX B rb w q wr
theorem GX.next(h:GX w B rb M v ps q wr)(d:DX B rb wr r w1)(hrb:rb<w.heap.size):GX w B rb M v ps r w1:=
 ⟨Ky h.row d.gr (fun k e=>by injection e with e;omega),h.key,h.dx.step d⟩
theorem GX.step(h:GX w B rb M v ps q wr)(h1:t1.length<=3)(h2:t2.length<=M)(own:w7.ownsRow w 120 2 v7 (ps.length+1) (ps.flatMap Zc++Zc (t1,t2)))(hg:(wr.alloc o).grownBy w7 v.ownBlock)(hrb:rb<w.heap.size):GX w B rb M v7 (ps++[(t1,t2)]) q w7:=by
 have f:=h.dx.gr.size;have b:=h.dx.rd.lt;have a:=h.dx.rd.ge;refine⟨?_,h.key.snoc h1 h2,(h.dx.rd.grown (Δ wr o ν) sm (fun k e=>by cases e)).grown hg (fun e=>?_) (fun k e=>?_),GW (Jp h.dx.gr (Δ wr o _)) hg (fun k e=>(World.ownsRow.lt h.row k e).1)⟩
 .unfold PR;rw[yh,Θ];simpa using own
 .have d:=(World.ownsRow.lt h.row rb e.symm).1;omega
 .have:=(World.ownsRow.lt h.row k e).1;omega
theorem LY:∀ (d:Nat) (dI:Int) (B rb:Nat) (q:List UInt8) (w:Wo),dI=d->d<=4->ZL w B rb q->δ prog 159 #[rb,ι κ dI] w (DT B rb w (Qq d q).1 (Qq d q).2):=by
 intro d;induction d using Nat.strongRecOn with
 | _ d ih=>
 intro dI B rb q w hd hd4 h;have V:=h.lt;have HX:=zb (Q5 B rb q w h);have hx:=QQ q;have W:=zb fun (h0:0<d) (q:List UInt8) (w:Wo) (hr:ZL w B rb q)=>ih (d - 1) om (dI - 1) B rb q w om om hr;have HLN:=zb (XW (d - 1));have HGB:=zb (zjF (d - 1) om);have A:=zb fun (h:QR d q<5)=>zjI h;have C:Hid (¬ QR d q<5->0<d/\Qq d q=WF (QR d q) (V9 (Qq (d - 1)) (QR d q) (1+(nx q).1 / 10 % 4) [] (nx q).2)):=fun h=>⟨by
  cases d with
  | zero=>exact absurd (zaZ q) h
  | succ d=>omega,zjJ h⟩
 have hop:=zjH d q;obtain⟨b,hb⟩:∃ b:Bool,decide (d=0∨(nx q).2=[])=b:=⟨_,rfl⟩;have T:Hid (QR d q=if b=ξ then (nx q).1 % 5 else (nx q).1 % 10):=by
  show QR d q=_
  unfold QR;rw[← hb];simp only[decide_eq_true_eq]
 have HL:=zb fun w (hr:ZL w B rb (nx q).2)=>zaR B rb (nx q).2 w hr;have Q:=zb hb;have hlq:(nx q).2.length<=1200:=by
  have:=h.len
  cases q with
  | nil=>exact yu _
  | cons c r=>simp[nx]at *;omega
 have HDI:=zb hd;have hdz:Hid (d=0->dI<=0):=fun h=>by omega
 have X:Hid (¬ d=0->0<dI/\dI<=4):=fun h=>by omega
 clear ih h hb hd hd4;generalize Qq d q=R at *;generalize QR d q=k at *;generalize (nx q).1=x at *;generalize (nx q).2=m at *;generalize Qq (d - 1)=gg at *;generalize GB (d - 1)=M at *;go_in;go_wp2_with fail;go_call HX as e w1 ⟨rfl,d1⟩;have F:=zb d1;clear HX d1;go_upto_region 3 with fail;go_cut [22]from 16 to 22 (fun y wx=>y=θ b/\DX B rb w m wx)
 case first=>
  by_cases h0:d=0
  .have hdp:=uh hdz h0;have eb:b=ξ:=by have:=uh Q;rw[← this];simp[h0]
   subst eb;go_wp2;go_meet
   case rel=>exact⟨rfl,F⟩
  .have hdp:¬ dI<=0:=by have:=uh X h0;omega
   have hdd:decide (dI<=0)=ζ:=so;have HC:=zb (uh HL _ F.rd);by_cases hq:m=[]
   .subst hq;have eb:b=ξ:=by have:=uh Q;rw[← this];simp
    subst eb;go_wp2_with fail;go_call HC as e w2 ⟨rfl,d2⟩;clear HC;go_wp2;go_meet
    case rel=>exact⟨rfl,F.step d2⟩
   .have hql:¬ m.length=0:=fun h=>hq (yO h);have eb:b=ζ:=by have:=uh Q;rw[← this];simp[h0,hq]
    have hli:((m.length:Int)<=0)=False:=yR om;have hlj:decide ((m.length:Int)<=0)=ζ:=so;subst eb;generalize m.length=ql at *;clear hq;go_wp2_with fail;go_call HC as e w2 ⟨rfl,d2⟩;clear HC;go_wp2;go_meet
    case rel=>exact⟨rfl,F.step d2⟩
 obtain⟨rfl,hD⟩:=hcut;have N:=zb hD;clear hD F HL Q;go_upto_if 22 with fail;go_cut [6]from 23 to 24 (fun y wx=>y=ι κ (k:Int)/\wc=wx)
 case first=>
  cases b with
  | true=>
   have e5:(x:Int) % 5=(k:Int):=by have:=uh T;rw[yg rfl]at this;omega
   go_wp2;go_meet
   case rel=>exact⟨rfl,rfl⟩
  | false=>
   have e5:(x:Int) % 10=(k:Int):=by have:=uh T;rw[yf dc]at this;omega
   go_wp2;go_meet
   case rel=>exact⟨by rw[e5],rfl⟩
 obtain⟨rfl,rfl⟩:=hcut;by_cases U:k<5
 .have HR:=zb (uh A U);clear A C W HLN HGB T hop;have n:=zb (zjE B rb m wc N.rd);have D:=zb (zjC (x / 10) wc om);rcases (show k=0∨k=1∨k=2∨k=3∨k=4 from by omega)with rfl | rfl | rfl | rfl | rfl
  .have E:R=(Uo (nx m).1,(nx m).2):=by rw[uh HR];rfl
   subst E;clear HR U;go_wp2_with fail;go_call n as e w3 ⟨rfl,d3⟩;clear n D;go_wp2;go_ret;exact⟨rfl,N.step d3⟩
  .have E:R=(Ko (x / 10),m):=by rw[uh HR];rfl
   subst E;clear HR U;have hd:(x:Int) / 10=((x / 10:Nat):Int):=om;have hb:x / 10<=255:=om;generalize x / 10=z at *;generalize Ko z=rt at *;go_wp2_with fail;go_call D as e w3 ⟨rfl,b3⟩;clear n D;go_wp2;go_ret;exact⟨rfl,N.below b3⟩
  .have E:R=([116,114,117,101],m):=by rw[uh HR];rfl
   subst E;clear HR U n D;go_wp2;go_ret;exact⟨rfl,N⟩
  .have E:R=([110,117,108,108],m):=by rw[uh HR];rfl
   subst E;clear HR U n D;go_wp2;go_ret;exact⟨rfl,N⟩
  .by_cases h2:x / 10 % 2=0
   .have e2:(x:Int) / 10 % 2=0:=om;have E:R=(Uo (nx m).1,(nx m).2):=by rw[uh HR];show (if x / 10 % 2=0 then _ else _)=_;rw[yg h2]
    subst E;clear HR U h2;go_wp2_with fail;go_call n as e w3 ⟨rfl,d3⟩;clear n D;go_wp2;go_ret;exact⟨rfl,N.step d3⟩
   .have e2:((x:Int) / 10 % 2 ==0)=ζ:=so;have E:R=([102,97,108,115,101],m):=by rw[uh HR];show (if x / 10 % 2=0 then _ else _)=_;rw[yf h2]
    subst E;clear HR U h2 n D;go_wp2;go_ret;exact⟨rfl,N⟩
 .obtain⟨hd0,E⟩:=uh C U;subst E;have HI:=zb (uh W hd0);clear A C W T;have e0:((k:Int) ==0)=ζ:=so;have e1:((k:Int) ==1)=ζ:=so;have e2:((k:Int) ==2)=ζ:=so;have e3:((k:Int) ==3)=ζ:=so;have e4:((k:Int) ==4)=ζ:=so;have hnn:1+(x:Int) / 10 % 4=((1+x / 10 % 4:Nat):Int):=om;have hn4:1+x / 10 % 4<=4:=om;generalize 1+x / 10 % 4=P at *;have hdp:¬ dI<=0:=by have:=uh X om;omega
  have hdq:dI<=4:=by have:=uh X om;omega
  have hs2:=N.size;have HO:Hid ((wc.alloc (χ #[] 120)).ownsRow w 120 2 (ς (η wc) 0 0) 0 []):=Ζ wc #[] 0 hs2 mo rfl;have HGS:Hid (GX w B rb M (ς (η wc) 0 0) [] m (wc.alloc (χ #[] 120))):=⟨HO,fun p hp=>by (cases hp),N.below (ZF wc _)⟩;clear HO U N hd0;go_wp2_with fail;obtain⟨i0,hi0,hz0,hz1,hz2⟩:=info_parts Ua;generalize hRR:V9 gg k P [] m=RR at *;have l:=zb hRR;clear hRR;go_loopw [8,9] (fun v i wr=>∃ (j:Nat) (a:List zx) (va:Option Addr) (vc:Nat) (r:List UInt8),v=ς va a.length vc/\i=ι κ j/\j<=P/\a.length<=j/\GX w B rb M (ς va a.length vc) a r wr/\V9 gg k (P - j) a r=RR) (fun _ i _=>P - (intOf i).toNat)
  case atStart=>exact⟨0,[],_,_,m,rfl,rfl,yu _,ye _,HGS,l⟩
  case round=>
   obtain⟨j,a,va,vc,r,rfl,rfl,hj,hpl,Y,L⟩:=hrel;have O:=zb Y;have hws:=Y.dx.size;clear Y HGS l;by_cases hlt:j<P
   .have hltI:(j:Int)<(P:Int):=om;rw[show P - j=(P - (j+1))+1 by omega,V9]at L;have HX:=zb (Q5 B rb r wr O.dx.rd);have hy1:=QQ r;have ht1:=WE (nx r).1;have HK:=zb fun w=>XU (nx r).1 w hy1;have ht2:=uh HLN (nx r).2;have HG:=zb (uh HI (nx r).2);have l:=zb L;clear L;generalize (nx r).1=y1 at *;generalize (nx r).2=r1 at *;generalize QI y1=t1 at *;generalize (gg r1).1=t2 at *;generalize (gg r1).2=r2 at *;go_wp2_with fail;go_call HX as e w3 ⟨rfl,d3⟩;have ZH:=zb (O.next d3 V);have hw3:=ZH.dx.size;clear HX O d3;go_wp2_with fail;go_call uh HK w3 as e w4 ⟨rfl,rfl⟩;have HG3:=zb (uh HG w3 ZH.dx.rd);clear HK HG;go_wp2_with fail;go_call HG3 as e w5 ⟨rfl,d5⟩;have s:=zb (ZH.next d5 V);have hw5:=s.dx.size;have I:=zb fun (o:Obj)=>World.ownsRow.alloc s.row o;clear HG3 ZH d5 hy1;have hkk:a.length<=4:=om;have S:Hid (a.length+1=(a++[(t1,t2)]).length):=by show _=_;simp
    by_cases h7:(k:Int)<7
    .have f:=uh l;rw[yg (.inl om)]at f;have G:=zb f;clear f l;go_wp2_with (at_builtin;refine wpList_append_own _ rfl (.tmp 71) (.tmp 75) 116 rfl w 120 i0 (γ #[Β,Β]) 2 32 underlying116 hi0 hz0 hz1 hz2 rfl dc _ _ _ rfl (uh I _) w5 1 1 (Zc (t1,t2)) rfl rfl (Yd _ _ _ _) (fun u hu=>by {simp[Zc]at hu;rcases hu with rfl | rfl<;>rfl}) mo om so ?_);intro v7 w7 g J _;obtain⟨Z,aa,rfl⟩:=Oh g;have H:=zb (s.step ht1 ht2 g J V);have K:=uh S;rw[K]at H;clear g J s I S;go_wp2;go_roundw
     case rel=>exact⟨j+1,a++[(t1,t2)],Z,aa,r2,by rw[K],by go_num,om,so,H,G⟩
     case measure=>simp[intOf];omega
    .have HF:=zb (Lk w _ a t1 w5 s.row om);go_wp2_with fail;go_call HF as e w6 ⟨z,rfl,hz,rfl⟩;clear HF;by_cases hzz:z<0
     .have f:=uh l;rw[yg (.inr (by rw[← hz];simp;omega))]at f;have G:=zb f;clear hz f l;go_wp2_with (at_builtin;refine wpList_append_own _ rfl (.tmp 71) (.tmp 75) 116 rfl w 120 i0 (γ #[Β,Β]) 2 32 underlying116 hi0 hz0 hz1 hz2 rfl dc _ _ _ rfl (uh I _) w5 1 1 (Zc (t1,t2)) rfl rfl (Yd _ _ _ _) (fun u hu=>by {simp[Zc]at hu;rcases hu with rfl | rfl<;>rfl}) mo om so ?_);intro v7 w7 g J _;obtain⟨Z,aa,rfl⟩:=Oh g;have H:=zb (s.step ht1 ht2 g J V);have K:=uh S;rw[K]at H;clear g J s I S;go_wp2;go_roundw
      case rel=>exact⟨j+1,a++[(t1,t2)],Z,aa,r2,by rw[K],by go_num,om,so,H,G⟩
      case measure=>simp[intOf];omega
     .have f:=uh l;rw[yf (by rw[← hz];simp;omega)]at f;have G:=zb f;clear I hz f l;go_wp2;go_roundw
      case rel=>exact⟨j+1,a,va,vc,r2,rfl,by go_num,om,om,s,G⟩
      case measure=>simp[intOf];omega
   .have hltI:¬ (j:Int)<(P:Int):=om;have hl4:a.length<=4:=om;obtain rfl:(a,r)=RR:=by rw[← L,show P - j=0 by omega,V9]
    clear L;have hsA:=O.key.sumA;have hsT:=O.key.sumT;have hA4:a.length*(M+1)<=4*(M+1):=Η _ hl4;have hT4:a.length*(M+22)<=4*(M+22):=Η _ hl4;have hle:=uh HGB;have HW:=zb (zaV w _ a wr O.row om om);have HV:=zb (Un w _ a wr O.row om om (fun p hp=>by have:=(O.key p hp).1;omega));clear hsA hsT hA4 hT4 hle HI;by_cases h7:(k:Int)<7
    .have hN:WF k (a,r)=(qe (a.map (·.2)),r):=by unfold WF;rw[yg om]
     generalize qe (a.map (·.2))=tA at *;have HN:=zb hN;clear HV hN;go_wp2_with fail;go_call HW as e w6 ⟨rfl,b6⟩;clear HW;go_wp2;go_ret;exact by rw[uh HN];exact⟨rfl,O.dx.below b6⟩
    .have hN:WF k (a,r)=(qm a,r):=by unfold WF;rw[yf om]
     generalize qm a=tO at *;have HN:=zb hN;clear HW hN;go_wp2_with fail;go_call HV as e w6 ⟨rfl,b6⟩;clear HV;go_wp2;go_ret;exact by rw[uh HN];exact⟨rfl,O.dx.below b6⟩
theorem Rf(l:List zx):l.length<=sumT l:=by
 induction l with
 | nil=>simp
 | cons p r ih=>simp[sumT]at *;omega
theorem zjL(acc:JM)(k:List UInt8):VP (zm acc) k=(QF acc).contains k:=by unfold VP;rw[FS]
theorem PR.other(h:PR w B v ps){p:Addr}(hp:p.block<B)(u:ω):PR (w.setCell p u) B v ps:=by
 refine⟨h.1,?_⟩;rcases h.2 with d |⟨g,a,b,j,f,i,r⟩
 .exact .inl d
 .exact .inr ⟨g,a,b,j,f,(Below.heap_setCell w p u g om).trans i,r⟩
theorem zjM (s:Bs) (i:Nat) (w:Wo) (hs:s.size<=100000) (hi:i<s.size) (h123:bt s i=123)
  (IH:∀ (j:Nat) (w:Wo),i<j->j<=s.size->δ prog 121 #[.string s,ι κ j] w (GP w (val s j))):
  δ prog 170 #[.string s,ι κ i] w (GP w (val s i)):=by
 obtain⟨i0,hi0,hz0,hz1,hz2⟩:=info_parts Ua;have o:=zb (Lj s om);have HSTR:=zb fun (j:Nat) w (hj:j<=s.size+1)=>Kd s j w om hj;have g0:=Zd s (i+1);have g1:=(JB (s:=s) (i:=i+1) om).2;have HV:=zb (Ph h123);have HIH:=zb IH;generalize hk0:sk s (i+1)=F at *;go_in;go_wp2_with fail;go_call (uh o).1 _ (i+1) _ om as e w1 ⟨rfl,rfl⟩;rw[hk0];go_wp2_with fail;go_call (uh o).2 125 F _ dc as e w1 ⟨rfl,rfl⟩;by_cases m:bt s F=125
 .rw[yj m];have HR:Hid (val s i=η (.obj .nil,F+1)):=zb (by rw[uh HV,yg m]);go_wp2;go_returns;rw[uh HR];exact⟨((ZF w _).trans ((yI _ _).alloc sm _)).trans ((yI _ _).alloc so _),rfl⟩
 .rw[yk m];have HR:Hid (val s i=(QY s F).map fun q=>(.obj q.1,q.2)):=zb (by rw[uh HV,yf m]);go_wp2_with fail;go_loopg [1,6] (s.size+1 - F) (fun gk k pr wr=>∃ (j:Nat) (f:JM),gk=s.size+1 - j/\k=ι κ (j:Int)/\F<=j/\j<=s.size/\Zs w ⟨#[]⟩ 0 ζ ζ ζ wr/\Zs (w.heap.size+1) ⟨#[]⟩ 0 ξ (Z7 f) (Z1 [] f) wr/\PR wr (w.heap.size+2) pr (zm f)/\Below w w wr/\sumT (zm f)<=31*j/\(∀ p∈zm f,p.1.length<=1048576)/\QY s F=(QY s j).map fun q=>(f.app q.1,q.2))
  case atStart=>
   refine⟨F,.nil,rfl,rfl,ye _,g1,?_,?_,?_,((ZF w _).trans ((yI _ _).alloc sm _)).trans ((yI _ _).alloc so _),by simp[zm,sumT],by simp[zm],by simp[JM.app]⟩
   .show (World.alloc _ _).heap[_]?=_
    rw[Μ _ _ _ so,Μ _ _ _ sm];exact yH w _
   .show (World.alloc _ _).heap[_]?=_
    rw[Μ _ _ _ sm];have:=yH (w.alloc (qY ⟨#[]⟩ 0 ζ ζ ζ)) (qY ⟨#[]⟩ 0 ξ ζ ζ);rw[show (w.alloc (qY ⟨#[]⟩ 0 ζ ζ ζ)).heap.size=w.heap.size+1 from by simp]at this;exact this
   .refine⟨rfl,.inr ⟨w.heap.size+2,0,#[],rfl,ye _,?_,ye _,mo,rfl,rfl⟩⟩;have:=yH ((w.alloc (qY ⟨#[]⟩ 0 ζ ζ ζ)).alloc (qY ⟨#[]⟩ 0 ξ ζ ζ)) (χ #[] 120);rw[show ((w.alloc (qY ⟨#[]⟩ 0 ζ ζ ζ)).alloc (qY ⟨#[]⟩ 0 ξ ζ ζ)).heap.size=w.heap.size+2 from by simp]at this;exact this
  case round=>
   obtain⟨j,f,hg,rfl,hj1,hj2,hr,P,hpr,hb,hsl,hkl,hst⟩:=hrel;have HST:=zb hst;have HG:=zb P;have HRR:=zb hr;have HP:=zb hpr;have HB:=zb hb;have HKL:=zb hkl;have hwsz:=hb.size;have hgl:=P.lt;have G:=zb (uh HSTR j wr om)
   cases hq:ZS s j with
   | none=>
    have X:Hid (val s i=ν):=by
     show _=_
     rw[uh HR,uh HST,FR,hq];rfl
    rw[hq]at G;go_wp2_with fail;go_call G as e w2 ⟨b2,t,k,hk,_,rfl⟩;have C:=HRR.below b2;have U:=zh HB b2;go_wp2_with fail;go_call (uh o).1 _ k _ rfl as e w3 ⟨rfl,rfl⟩;obtain⟨r0,r1,r2,r3,r4⟩:=C.cells;obtain⟨q0,q1,q2,q3,q4⟩:=C.fzs;have L:=zb (C.put ⟨#[]⟩ 0 0 rfl ζ ζ ζ);have H:=zb (Vl U (ye _) (σ ⟨#[]⟩) (ι κ 0) (θ ζ) (θ ζ) (θ ζ));go_wp2;try simp only[Ε,Exit.then]
    refine bodyPost_ret (Vm rfl rfl L) rfl ?_;exact GP.bad X H
   | some q=>
    obtain⟨g,a⟩:=q;have hqo:=Yu hq;have hql:=FU hq;have HM:Hid (QY s F=(if bt s (sk s a)=58 then (val s (sk s (sk s a+1))).bind fun q=>
      if bt s (sk s q.2)=125 then η (JM.cons g q.1 .nil,sk s q.2+1)
      else if bt s (sk s q.2)=44 then (QY s (sk s (sk s q.2+1))).map fun r=>(JM.cons g q.1 r.1,r.2)
      else ν else ν).map fun q=>(f.app q.1,q.2)):=by
     show _=_
     rw[uh HST,FR,hq];rfl
    rw[hq]at G;have hn1:=Zd s a;have hn2:=(JB hqo.2).2;go_wp2_with fail;go_call G as e w2 ⟨b2,rfl⟩;have C:=HRR.below b2;have G2:=HG.below b2;have P2:=HP.below b2;have U:=zh HB b2;have hw2:=b2.size;go_wp2_with fail;go_call (uh o).1 _ a _ rfl as e w3 ⟨rfl,rfl⟩;generalize hsk:sk s a=Z at *;go_wp2_with fail;go_call (uh o).2 58 Z _ dc as e w3 ⟨rfl,rfl⟩;by_cases D:bt s Z=58
    .rw[yj D];rw[yg D]at HM;have hka:Z<s.size:=Zf om;have gs1:=Zd s (Z+1);have gs2:=(JB (s:=s) (i:=Z+1) om).2;go_wp2_with fail;go_call (uh o).1 _ (Z+1) _ om as e w3 ⟨rfl,rfl⟩;generalize sk s (Z+1)=kv at *;have G:=zb (uh HIH kv w2 om om)
     cases E:val s kv with
     | none=>
      have X:Hid (val s i=ν):=by
       show _=_
       rw[uh HR,uh HM,E];rfl
      rw[E]at G;go_wp2_with fail;go_call G as e w3 ⟨b3,t,n,bb,tw,rfl⟩;have R3:=(C.below b3).alloc (qY t n ζ bb tw);have B3:Below w w (w3.alloc (qY t n ζ bb tw)):=(zh U b3).alloc (by have:=b3.size;omega) _;obtain⟨r0,r1,r2,r3,r4⟩:=R3.cells;obtain⟨q0,q1,q2,q3,q4⟩:=R3.fzs;have L:=zb (R3.put ⟨#[]⟩ 0 0 rfl ζ ζ ζ);have H:=zb (Vl B3 (ye _) (σ ⟨#[]⟩) (ι κ 0) (θ ζ) (θ ζ) (θ ζ));simp only[QG];go_wp2;try simp only[Ε,Exit.then]
      refine bodyPost_ret (Vm rfl rfl L) rfl ?_;exact GP.bad X H
     | some q=>
      obtain⟨v,n⟩:=q;have hvo:=VO E;have hvl:=Pk E;have y:Hid (QY s F=(if bt s (sk s n)=125 then η (JM.cons g v .nil,sk s n+1)else if bt s (sk s n)=44 then (QY s (sk s (sk s n+1))).map fun r=>(JM.cons g v r.1,r.2)else ν).map fun q=>(f.app q.1,q.2)):=by
       show _=_
       rw[uh HM,E];rfl
      rw[E]at G;have hsn1:=Zd s n;have hsn2:=(JB hvo.2).2;clear E HM;have HBB:Hid (Z7 (f.app (.cons g v .nil))=(Z7 f || zY v)):=by show _=_;rw[Le];simp[Z7]
      have HTT:Hid (Z1 [] (f.app (.cons g v .nil))=((Z1 [] f || zF v) || VP (zm f) g)):=by
       show _=_
       rw[Lg,zjL];simp[Z1,Bool.or_assoc]
      have W:Hid (zm (f.app (.cons g v .nil))=zm f++[(g,ct v)]):=by show _=_;rw[EN];simp[zm]
      go_wp2_with fail;go_call G as e w3 ⟨b3,rfl⟩;simp only[QG];have R4:=zb ((C.below b3).alloc (qY (ze (ct v)) n ξ (zY v) (zF v)));have G4:=zb ((G2.below b3).alloc (qY (ze (ct v)) n ξ (zY v) (zF v)));have P4:=zb ((P2.below b3).below (ZF w3 (qY (ze (ct v)) n ξ (zY v) (zF v))));have V4:Hid (Zs w3 (ze (ct v)) n ξ (zY v) (zF v) (w3.alloc (qY (ze (ct v)) n ξ (zY v) (zF v)))):=yH w3 _;have B4:Hid (Below w w (w3.alloc (qY (ze (ct v)) n ξ (zY v) (zF v)))):=(zh U b3).alloc (by have:=b3.size;omega) _;have hw3:=b3.size;have hgl2:=G2.lt;clear G C G2 P2 U b3;simp only[qY]at G4 V4 R4 B4 P4;generalize zY v=bv at *;generalize zF v=tv at *;generalize hbm:Z7 f=ba at *;generalize htm:Z1 [] f=ta at *;generalize hfk:VP (zm f) g=fk at *;have vok:=V4.c2;generalize hw4:w3.alloc (χ #[σ (ze (ct v)),ι κ (n:Int),θ ξ,θ bv,θ tv] 197 (0,0))=w4 at *;have hvg:w3.heap.size≠w.heap.size+1:=om;go_upto_region 13 with fail;go_cut []from 23 to 102 (fun wx=>wx=w4.setCell ⟨w.heap.size+1,3,ν⟩ (θ (ba || bv)))
      case first=>
       have g3:=G4.c3;have v3:=V4.c3;have f3:=G4.fz 3
       cases ba
       .go_wp2;go_meet
        case rel=>rfl
       .go_wp2;go_meet
        case rel=>rfl
      case rest=>
       have G5:=zb (hcut ▸ G4.set3 (ba || bv));have R5:=zb (hcut ▸ R4.other (p:=⟨w.heap.size+1,3,ν⟩) (by show _≠w.heap.size+1;omega) _);have V5:=zb (hcut ▸ V4.other (p:=⟨w.heap.size+1,3,ν⟩) hvg _);have P5:=zb (hcut ▸ P4.other (p:=⟨w.heap.size+1,3,ν⟩) (by show w.heap.size+1<_;omega) _);have B5:=zb (hcut ▸ B4.setCell (p:=⟨w.heap.size+1,3,ν⟩) (by show _<=w.heap.size+1;omega) _);clear hcut G4 R4 V4 P4 B4 vok hw4;generalize (ba || bv)=bb at *;have HFI:Hid (δ prog 126 #[u6,σ (ze g)] wc fun e w'=>∃ z:Int,e=ε (ι κ z)/\decide ((0:Int)<=z)=fk/\wc=w'):=by
        have h:=Lk (w.heap.size+2) u6 (zm f) g wc P5 (by have:=Rf (zm f);omega);rw[hfk]at h;exact h
       go_upto_region 14 with fail;go_cut []from 23 to 102 (fun wx=>wx=wc.setCell ⟨w.heap.size+1,4,ν⟩ (θ ((ta || tv) || fk)))
       case first=>
        have g3:=G5.c4;have v3:=V5.c4;have f3:=G5.fz 4
        cases ta
        .cases tv
         .go_wp2_with fail;go_call HFI as e w6 ⟨z,rfl,hz,rfl⟩;go_wp2;go_meet
          case rel=>rw[← hz];simp
         .go_wp2;go_meet
          case rel=>rfl
        .go_wp2;go_meet
         case rel=>rfl
       case rest=>
        have G6:=zb (hcut ▸ G5.set4 ((ta || tv) || fk));have O:=zb (hcut ▸ R5.other (p:=⟨w.heap.size+1,4,ν⟩) (by show _≠w.heap.size+1;omega) _);have V6:=zb (hcut ▸ V5.other (p:=⟨w.heap.size+1,4,ν⟩) hvg _);have P6:=zb (hcut ▸ P5.other (p:=⟨w.heap.size+1,4,ν⟩) (by show w.heap.size+1<_;omega) _);have B6:=zb (hcut ▸ B5.setCell (p:=⟨w.heap.size+1,4,ν⟩) (by show _<=w.heap.size+1;omega) _);clear hcut G5 R5 V5 P5 B5 HFI hfk;generalize ((ta || tv) || fk)=tt at *;have v0:=V6.c0;have hw6:=V6.lt;have x:wc.ownsRow (w.heap.size+2) 120 2 u6 (zm f).length ((zm f).flatMap Zc):=uh P6;have hcl:=Rf (zm f);have R:∀ k,u6.ownBlock=η k->w.heap.size+2<=k/\k≠w3.heap.size:=fun k hk=>by
         refine⟨(x.lt k hk).1,fun e=>?_⟩;subst e;rcases x.2 with ⟨E,_⟩ |⟨gg,cap,cur,E,_,M,_⟩
         .rw[E]at hk;cases hk
         .rw[E]at hk;injection hk with hk;rw[show gg=w3.heap.size from hk,uh V6]at M;injection M with M;injection M with _ h2;exact absurd h2 dc
        have B:=zb R;clear R;go_wp2_with (at_builtin;refine wpList_append_own _ rfl (.tmp 72) (.tmp 77) 116 rfl (w.heap.size+2) 120 i0 (γ #[σ Β,σ Β]) 2 32 underlying116 hi0 hz0 hz1 hz2 rfl dc _ _ _ rfl (x.alloc _) ⟨wc,0,ν⟩ 1 1 (Zc (g,ct v)) rfl rfl (Yd _ _ _ _) (fun u hu=>by {simp[Zc]at hu;rcases hu with rfl | rfl<;>rfl}) mo om so ?_;intro v7 T S hg7 _;have Y:(wc.alloc (χ #[σ (ze g),σ (ze (ct v))] 120)).grownBy T u6.ownBlock:=hg7;have keep:∀ k,k<wc.heap.size->η k≠u6.ownBlock->T.heap[k]?=wc.heap[k]?:=(fun k hk hn=>(Y.block k so hn).trans (Μ wc _ k hk));have G7:Hid (Zs (w.heap.size+1) ⟨#[]⟩ 0 ξ bb tt T):=(keep _ G6.lt (fun e=>by have:=(uh B _ e.symm).1;omega)).trans G6;have R7:Hid (Zs w ⟨#[]⟩ 0 ζ ζ ζ T):=(keep _ O.lt (fun e=>by have:=(uh B _ e.symm).1;omega)).trans O;have V7:Hid (Zs w3 (ze (ct v)) n ξ bv tv T):=(keep _ V6.lt (fun e=>(uh B _ e.symm).2 rfl)).trans V6;have P7:Hid (PR T (w.heap.size+2) v7 (zm f++[(g,ct v)])):=(by show PR T (w.heap.size+2) v7 (zm f++[(g,ct v)]);unfold PR;rw[yh,Θ];simpa using S);have B7:Hid (Below w w T):=(B6.alloc om _).grown Y so (fun k hk=>by have:=(uh B k hk).1;omega);have v71:=V7.c1;clear S hg7 Y keep x G6 O V6 P6 B6 B v0);go_call (uh o).1 _ n _ rfl as e w8 ⟨rfl,rfl⟩;clear v71 V7;rw[← uh W]at P7;have hsl2:sumT (zm (f.app (.cons g v .nil)))<=31*sk s n:=by
         rw[uh W,LV];have e2:sumT [(g,ct v)]=(quoted g).length+1+(ct v).length+1:=by simp[sumT,zo];omega
         have:=Q0 g;omega
        have Q:Hid (∀ p∈zm (f.app (.cons g v .nil)),p.1.length<=1048576):=fun p N=>by
         rw[uh W]at N;rcases Τ.1 N with N | N
         .exact uh HKL p N
         .simp at N;subst N;show g.length<=_;omega
        generalize sk s n=k at *;generalize hA2:f.app (.cons g v .nil)=l at *;go_wp2_with fail;go_call (uh o).2 125 k _ dc as e w8 ⟨rfl,rfl⟩;by_cases m:bt s k=125
        .rw[yj m];have HVV:Hid (val s i=η (.obj l,k+1)):=by
          show _=_
          rw[uh HR,uh y,yg m,← hA2];rfl
         have HSO:=zb (XJ _ _ _ _ P7 (by have:=Rf (zm l);omega));clear m y;go_wp2_with fail;go_call HSO as e w9 ⟨v9,rfl,p9,b9⟩;have HMK:=zb (Un _ _ _ _ p9 (by rw[XG];omega) (by have:=Rf (zI (zm l));rw[XG]at this;omega) (fun p N=>by
          have:p∈zm l:=by
           have hm:=qZ (zm l);exact hm.mem_iff.1 N
          exact uh Q p this))
         have G9:=G7.below b9;have R9:=R7.below b9;have B9:=zh B7 b9;clear HSO p9 b9 G7 R7 B7 P7;go_wp2_with fail;go_call HMK as e w10 ⟨rfl,b10⟩;have I:=G9.below b10;have R10:=R9.below b10;have B10:=zh B9 b10;clear G9 R9 B9 b10 HMK;have HSF:Hid (ze (ct (.obj l))=ze (qm (zI (zm l)))):=zb (by rw[ct]);generalize ze (qm (zI (zm l)))=sf at *;have c0:=I.c0;have f0:=I.fz 0;have J:=I.set0 sf;have c71:=J.c1;have f71:=J.fz 1;have V:=J.set1 ((k:Int)+1) (k+1) om;have K:=(R10.other (p:=⟨w.heap.size+1,0,ν⟩) (by show _≠w.heap.size+1;omega) (.string sf)).other (p:=⟨w.heap.size+1,1,ν⟩) (by show _≠w.heap.size+1;omega) (ι κ ((k:Int)+1));have B12:=(B10.setCell (p:=⟨w.heap.size+1,0,ν⟩) (by show _<=w.heap.size+1;omega) (.string sf)).setCell (p:=⟨w.heap.size+1,1,ν⟩) (by show _<=w.heap.size+1;omega) (ι κ ((k:Int)+1));obtain⟨a0,a1',a2,a3,a4⟩:=V.cells;have a1:=a1'.trans (show _=η (Value.int .i64 ((k:Int)+1)) by rw[show ((k+1:Nat):Int)=(k:Int)+1 from by omega]);obtain⟨r0,r1,r2,r3,r4⟩:=K.cells;obtain⟨q0,q1,q2,q3,q4⟩:=K.fzs;have L:=zb (K.copyTo V ((k:Int)+1) om);have H:=zb (fun a b c d e=>Vl B12 (ye _) a b c d e);clear a1' I J V R10 K B10 B12 HR;go_wp2;try simp only[Ε,Exit.then]
         refine bodyPost_ret (Vm rfl rfl L) rfl ?_;rw[uh HVV];refine⟨uh H _ _ _ _ _,?_⟩;show _=Ending.returned (QG (ze (ct (.obj l))) (k+1) ξ (Z7 l) (Z1 [] l))
         rw[uh HSF,uh HBB,uh HTT]
        .rw[yk m];go_wp2_with fail;go_call (uh o).2 44 k _ dc as e w8 ⟨rfl,rfl⟩;by_cases A:bt s k=44
         .rw[yj A];have hkl:k<s.size:=Zf om;have HST2:Hid (QY s F=(QY s (sk s (k+1))).map fun q=>(l.app q.1,q.2)):=by
           show _=_
           rw[uh y,yf m,yg A,Option.map_map,← hA2];congr 1;funext q;simp[JM.app_assoc,JM.app]
          have hs1:=Zd s (k+1);have hs2:=(JB (s:=s) (i:=k+1) om).2;clear y m A;go_wp2_with fail;go_call (uh o).1 _ (k+1) _ om as e w9 ⟨rfl,rfl⟩;go_wp2;go_roundg (s.size+1 - sk s (k+1))
          case rel=>exact⟨sk s (k+1),l,rfl,rfl,om,hs2,R7,by rw[uh HBB,uh HTT];exact uh G7,P7,B7,om,Q,HST2⟩
          case measure=>omega
         .rw[yk A];have X:Hid (val s i=ν):=by
           show _=_
           rw[uh HR,uh y,yf m,yf A];rfl
          have O:=uh R7;obtain⟨r0,r1,r2,r3,r4⟩:=O.cells;obtain⟨q0,q1,q2,q3,q4⟩:=O.fzs;have L:=zb (O.put ⟨#[]⟩ 0 0 rfl ζ ζ ζ);have H:=zb (Vl B7 (ye _) (σ ⟨#[]⟩) (ι κ 0) (θ ζ) (θ ζ) (θ ζ));clear O G7 R7 B7 P7 y m A;go_wp2;try simp only[Ε,Exit.then]
          refine bodyPost_ret (Vm rfl rfl L) rfl ?_;exact GP.bad X H
    .rw[yk D];have X:Hid (val s i=ν):=by
      show _=_
      rw[uh HR,uh HM,yf D];rfl
     obtain⟨r0,r1,r2,r3,r4⟩:=C.cells;obtain⟨q0,q1,q2,q3,q4⟩:=C.fzs;have L:=zb (C.put ⟨#[]⟩ 0 0 rfl ζ ζ ζ);have H:=zb (Vl U (ye _) (σ ⟨#[]⟩) (ι κ 0) (θ ζ) (θ ζ) (θ ζ));clear C U G2 P2 D;go_wp2;try simp only[Ε,Exit.then]
     refine bodyPost_ret (Vm rfl rfl L) rfl ?_;exact GP.bad X H
theorem za1(h:i+4<=s.size):Zr s i (i+4)=[s.data.toList.getD i 0,s.data.toList.getD (i+1) 0,s.data.toList.getD (i+2) 0,s.data.toList.getD (i+3) 0]:=by
 have e:∀ k,i+k<s.size->s.data.toList.drop (i+k)=s.data.toList.getD (i+k) 0 :: s.data.toList.drop (i+k+1):=fun k hk=>by
  rw[QT s (i+k) hk,Κ,RN s (i+k) hk];rfl
 unfold Zr;rw[show i+4 - i=4 by omega];have a:=e 0 om;rw[Nat.add_zero]at a;rw[a,e 1 om,e 2 om,e 3 om];rfl
theorem zjN(h:i+5<=s.size):Zr s i (i+5)=[s.data.toList.getD i 0,s.data.toList.getD (i+1) 0,s.data.toList.getD (i+2) 0,s.data.toList.getD (i+3) 0,s.data.toList.getD (i+4) 0]:=by
 have e:∀ k,i+k<s.size->s.data.toList.drop (i+k)=s.data.toList.getD (i+k) 0 :: s.data.toList.drop (i+k+1):=fun k hk=>by
  rw[QT s (i+k) hk,Κ,RN s (i+k) hk];rfl
 unfold Zr;rw[show i+5 - i=5 by omega];have a:=e 0 om;rw[Nat.add_zero]at a;rw[a,e 1 om,e 2 om,e 3 om,e 4 om];rfl
theorem Y5(a:UInt8)(n:Nat)(h:n<256):(a=Γ n)↔a.toNat=n:=by
 constructor
 .rintro rfl;rw[UInt8.toNat_ofNat'];omega
 .intro e;apply UInt8.toNat_inj.1;rw[UInt8.toNat_ofNat'];omega
theorem za2(s:Bs)(i:Nat):(decide (i+4<=s.size) && (s.extract i (i+4)).toList ==[110,117,108,108])=Ju s i:=by
 by_cases h:i+4<=s.size
 .rw[yj h,Ι,U3,za1 h];unfold Ju bt;rw[Υ];simp only[yD,Ξ,List.cons.injEq,and_true];rw[show (110:UInt8)=Γ 110 from rfl,show (117:UInt8)=Γ 117 from rfl,show (108:UInt8)=Γ 108 from rfl,Y5 _ _ dc,Y5 _ _ dc,Y5 _ _ dc,Y5 _ _ dc];simp only[and_assoc]
 .rw[yk h,Ω];by_cases a:Ju s i=ξ
  .exact absurd (XB a) h
  .simpa using a
theorem za3(s:Bs)(i:Nat):(decide (i+4<=s.size) && (s.extract i (i+4)).toList ==[116,114,117,101])=JD s i:=by
 by_cases h:i+4<=s.size
 .rw[yj h,Ι,U3,za1 h];unfold JD bt;rw[Υ];simp only[yD,Ξ,List.cons.injEq,and_true];rw[show (116:UInt8)=Γ 116 from rfl,show (114:UInt8)=Γ 114 from rfl,show (117:UInt8)=Γ 117 from rfl,show (101:UInt8)=Γ 101 from rfl,Y5 _ _ dc,Y5 _ _ dc,Y5 _ _ dc,Y5 _ _ dc];simp only[and_assoc]
 .rw[yk h,Ω];by_cases a:JD s i=ξ
  .exact absurd (XC a) h
  .simpa using a
theorem zjO(s:Bs)(i:Nat):(decide (i+5<=s.size) && (s.extract i (i+5)).toList ==[102,97,108,115,101])=JY s i:=by
 by_cases h:i+5<=s.size
 .rw[yj h,Ι,U3,zjN h];unfold JY bt;rw[Υ];simp only[yD,Ξ,List.cons.injEq,and_true];rw[show (102:UInt8)=Γ 102 from rfl,show (97:UInt8)=Γ 97 from rfl,show (108:UInt8)=Γ 108 from rfl,show (115:UInt8)=Γ 115 from rfl,show (101:UInt8)=Γ 101 from rfl,Y5 _ _ dc,Y5 _ _ dc,Y5 _ _ dc,Y5 _ _ dc,Y5 _ _ dc];simp only[and_assoc]
 .rw[yk h,Ω];by_cases a:JY s i=ξ
  .exact absurd (FQ a) h
  .simpa using a
theorem zjP(h:Ju s i=ξ):Zr s i (i+4)=[110,117,108,108]:=by
 have a:=za2 s i;rw[h,yj (XB h),Ι,yD,U3]at a;exact a
theorem zjQ(h:JD s i=ξ):Zr s i (i+4)=[116,114,117,101]:=by
 have a:=za3 s i;rw[h,yj (XC h),Ι,yD,U3]at a;exact a
theorem GP.form{w0:Wo}{o:Option (JV×Nat)}{e:Ending}(h:GP w0 o e w2):∃ t n ok b tw,e=ε (QG t n ok b tw)/\Bw w0 w2/\∀ W W',Bw W W'->GP W o (ε (QG t n ok b tw)) W':=by
 obtain⟨a,h⟩:=h
 cases o with
 | none=>
  obtain⟨t,n,b,tw,rfl⟩:=h;exact⟨t,n,ζ,b,tw,rfl,a,fun W W' hW=>⟨hW,t,n,b,tw,rfl⟩⟩
 | some q=>
  exact⟨_,_,_,_,_,h,a,fun W W' hW=>⟨hW,rfl⟩⟩
theorem Rg(w:Wo):Zs w ⟨#[]⟩ 0 ζ ζ ζ (w.alloc (qY ⟨#[]⟩ 0 ζ ζ ζ)):=yH w _
theorem za4 (s:Bs) (i:Nat) (w:Wo) (hs:s.size<=100000) (hi:i<=s.size)
  (IH:∀ (j:Nat) (w:Wo),i<j->j<=s.size->δ prog 121 #[s,ι κ j] w (GP w (val s j))):
  δ prog 121 #[s,ι κ i] w (GP w (val s i)):=by
 have y:=zb (Lj s om);have G:=zb fun w (B:i<s.size) (h:bt s i=91)=>zii s i w om B h IH;have I:=zb fun w (B:i<s.size) (h:bt s i=123)=>zjM s i w hs B h IH;have H:=zb fun w=>zgK s i w om om;have J:=zb fun w=>Kd s i w om om;have K:Hid (∀ w,δ prog 171 #[s,ι κ i,σ ⟨#[110,117,108,108]⟩] w (Rk (θ (Ju s i)) w)):=fun w=>by
  have h:=Lc s ⟨#[110,117,108,108]⟩ i w om dc om;rw[← za2 s i];rw[ByteArray.toList_eq (⟨#[110,117,108,108]⟩:Bs)]at h;exact h
 have L:Hid (∀ w,δ prog 171 #[s,ι κ i,σ ⟨#[116,114,117,101]⟩] w (Rk (θ (JD s i)) w)):=fun w=>by
  have h:=Lc s ⟨#[116,114,117,101]⟩ i w om dc om;rw[← za3 s i];rw[ByteArray.toList_eq (⟨#[116,114,117,101]⟩:Bs)]at h;exact h
 have M:Hid (∀ w,δ prog 171 #[s,ι κ i,σ ⟨#[102,97,108,115,101]⟩] w (Rk (θ (JY s i)) w)):=fun w=>by
  have h:=Lc s ⟨#[102,97,108,115,101]⟩ i w om dc om;rw[← zjO s i];rw[ByteArray.toList_eq (⟨#[102,97,108,115,101]⟩:Bs)]at h;exact h
 go_in;go_wp2_with fail;go_call (uh y).2 91 i _ dc as e w1 ⟨rfl,rfl⟩;by_cases u:bt s i=91
 .rw[yj u];have B:i<s.size:=Zf om;go_wp2_with fail;refine (uh G _ B u).mono ?_;intro e E p;obtain⟨t,n,m,b,v,rfl,f,d⟩:=p.form;have o:=(Rg w).below f;obtain⟨Y,Z,r2,r3,r4⟩:=o.cells;obtain⟨S,T,U,V,X⟩:=o.fzs;have A:=zb (o.put t (n:Int) n rfl m b v);have x:=zb (Vl (zh (ZF w _) f) (ye _) t (ι κ (n:Int)) (θ m) (θ b) (θ v));have a:=zb d;simp only[QG];go_wp2;try simp only[Ε,Exit.then]
  refine bodyPost_ret (Vm rfl rfl A) rfl ?_;exact uh a _ _ x
 .rw[yk u];go_wp2_with fail;go_call (uh y).2 123 i _ dc as e w1 ⟨rfl,rfl⟩;by_cases g:bt s i=123
  .rw[yj g];have B:i<s.size:=Zf om;go_wp2_with fail;refine (uh I _ B g).mono ?_;intro e E p;obtain⟨t,n,m,b,v,rfl,f,d⟩:=p.form;have o:=(Rg w).below f;obtain⟨Y,Z,r2,r3,r4⟩:=o.cells;obtain⟨S,T,U,V,X⟩:=o.fzs;have A:=zb (o.put t (n:Int) n rfl m b v);have x:=zb (Vl (zh (ZF w _) f) (ye _) t (ι κ (n:Int)) (θ m) (θ b) (θ v));have a:=zb d;simp only[QG];go_wp2;try simp only[Ε,Exit.then]
   refine bodyPost_ret (Vm rfl rfl A) rfl ?_;exact uh a _ _ x
  .rw[yk g];go_wp2_with fail;go_call (uh y).2 34 i _ dc as e w1 ⟨rfl,rfl⟩;by_cases r:bt s i=34
   .rw[yj r];have z:=zb (Lb r);go_wp2_with fail;refine (uh J _).mono ?_;intro e E Q;obtain⟨t,n,m,R,rfl,f,d⟩:∃ (t:Bs) (n:Nat) (m:Bool),t.size<=1048576/\e=ε (τ #[t,ι κ (n:Int),θ m])/\Below (w.alloc (qY ⟨#[]⟩ 0 ζ ζ ζ)).heap.size (w.alloc (qY ⟨#[]⟩ 0 ζ ζ ζ)) E/\∀ W W',Bw W W'->GP W (val s i) (ε (QG (ze (quoted t.data.toList)) n m ζ ζ)) W':=by
     obtain⟨f,F⟩:=Q
     cases hq:ZS s i with
     | none=>
      rw[hq]at F;obtain⟨t,k,_,ht,rfl⟩:=F;refine⟨t,k,ζ,om,rfl,f,fun W W' hW=>?_⟩;rw[uh z,hq];exact⟨hW,_,_,_,_,rfl⟩
     | some q=>
      rw[hq]at F;obtain⟨l,k⟩:=q;have hql:=FU hq;have hqo:=Yu hq;refine⟨ze l,k,ξ,by rw[zK];omega,F,f,fun W W' hW=>?_⟩;rw[uh z,hq,Zb];exact⟨hW,rfl⟩
    have HQ:=zb (XT t E R);have o:=(Rg w).below f;have B2:=zh (ZF w _) f;have a:=zb d;go_wp2_with fail;go_call HQ as e w3 ⟨rfl,b3⟩;have O:=o.below b3;have B3:=zh B2 b3;generalize ze (quoted t.data.toList)=qt at *;obtain⟨Y,Z,r2,r3,r4⟩:=O.cells;obtain⟨S,T,U,V,X⟩:=O.fzs;have A:=zb (O.put qt (n:Int) n rfl m ζ ζ);have x:=zb (Vl B3 (ye _) qt (ι κ (n:Int)) (θ m) (θ ζ) (θ ζ));go_wp2;try simp only[Ε,Exit.then]
    refine bodyPost_ret (Vm rfl rfl A) rfl ?_;exact uh a _ _ x
   .rw[yk r];have z:=zb (Wv u g r);go_wp2_with fail;go_call uh K _ as e w1 ⟨rfl,rfl⟩
    cases hw:Ju s i with
    | true=>
     have C:=XB hw;have HR:Hid (val s i=η (JV.nul,i+4)):=zb (by rw[uh z,yg hw]);have N:Hid (s.extract i (i+4)=ze (ct JV.nul)):=by show _=_;rw[XF,zjP hw];rfl
     have i1:(i:Int)<=(i:Int)+4:=om;have i2:(i:Int)+4<=(s.size:Int):=om;have i3:(0:Int)<=(i:Int):=om;go_wp2;go_returns;rw[uh HR,uh N];exact⟨ZF w _,rfl⟩
    | false=>
     have P:=hw;go_wp2_with fail;go_call uh L _ as e w1 ⟨rfl,rfl⟩
     cases hw:JD s i with
     | true=>
      have C:=XC hw;have HR:Hid (val s i=η (JV.tt,i+4)):=by show _=_;rw[uh z,yf (by rw[P];simp),yg hw]
      have N:Hid (s.extract i (i+4)=ze (ct JV.tt)):=by show _=_;rw[XF,zjQ hw];rfl
      have i1:(i:Int)<=(i:Int)+4:=om;have i2:(i:Int)+4<=(s.size:Int):=om;have i3:(0:Int)<=(i:Int):=om;go_wp2;go_returns;rw[uh HR,uh N];exact⟨ZF w _,rfl⟩
     | false=>
      have D:=hw;go_wp2_with fail;go_call uh M _ as e w1 ⟨rfl,rfl⟩
      cases hw:JY s i with
      | true=>
       have C:=FQ hw;have HR:Hid (val s i=η (JV.ff,i+5)):=by show _=_;rw[uh z,yf (by rw[P];simp),yf (by rw[D];simp),yg hw]
       go_wp2;go_returns;rw[uh HR];exact⟨ZF w _,rfl⟩
      | false=>
       have HR:Hid (val s i=(nm s i).map fun q=>(JV.num q.1,q.2)):=by show _=_;rw[uh z,yf (by rw[P];simp),yf (by rw[D];simp),yf (by rw[hw];simp)]
       go_wp2_with fail;refine (uh H _).mono ?_;intro e E p;rw[← uh HR]at p;obtain⟨t,n,m,b,v,rfl,f,d⟩:=p.form;have o:=(Rg w).below f;obtain⟨Y,Z,r2,r3,r4⟩:=o.cells;obtain⟨S,T,U,V,X⟩:=o.fzs;have A:=zb (o.put t (n:Int) n rfl m b v);have x:=zb (Vl (zh (ZF w _) f) (ye _) t (ι κ (n:Int)) (θ m) (θ b) (θ v));have a:=zb d;simp only[QG];go_wp2;try simp only[Ε,Exit.then]
       refine bodyPost_ret (Vm rfl rfl A) rfl ?_;exact uh a _ _ x
theorem za5(s:Bs)(hs:s.size<=100000):∀ (n i:Nat) (w:Wo),s.size - i<=n->i<=s.size->δ prog 121 #[s,ι κ i] w (GP w (val s i))
 | 0,i,w,hn,hi=>za4 s i w hs hi fun j w' hj hj2=>by omega
 | n+1,i,w,hn,hi=>za4 s i w hs hi fun j w' hj hj2=>za5 s hs n j w' om hj2
def Oj:Option JV->Sum Nat JV
 | none=>.inl 2
 | some v=>if zY v then .inl 3 else if zF v then .inl 4 else if 100<zJ v∨3000<zn v then .inl 5 else .inr v
theorem zjR(h:¬ 20000<s.size):Zn s=Oj (Qv s):=by
 unfold Zn;rw[yf h]
 cases Qv s<;>rfl
theorem XX(s:Bs)(w:Wo)(hz:s.size<=33554432):
  δ prog 63 #[s] w fun e w'=>e=ε (qi s)/\Below w w w':=by
 by_cases B:20000<s.size
 .have tl:(20000:Int)<(s.size:Int):=om;have k:Hid (qi s= .tuple #[σ ⟨#[]⟩,ι κ 1]):=by show _=_;unfold qi Zn;rw[yg B];rfl
  go_in;go_wp2;go_ret2;exact⟨by rw[uh k];rfl,yI _ _⟩
 .have tl:¬ (20000:Int)<(s.size:Int):=om;have z:sk s 0<=s.size:=(JB (yu _)).2;have r:=zb fun (i:Nat) (w:Wo)=>EM s i w om;have g:Hid (δ prog 122 #[s,ι κ 0] w (Rk (ι κ ((sk s 0:Nat):Int)) w)):=uh r 0 w;have f:=zb (za5 s om s.size (sk s 0) w om z);have HR:=zb (zjR B);have d:Qv s=(val s (sk s 0)).bind fun q=>if sk s q.2=s.size then η q.1 else ν:=rfl
  cases hv:val s (sk s 0)with
  | none=>
   rw[hv]at f d;have k:Hid (qi s= .tuple #[σ ⟨#[]⟩,ι κ 2]):=by show _=_;unfold qi;rw[uh HR,d];rfl
   go_in;go_wp2_with fail;go_call g as e w1 ⟨rfl,rfl⟩;go_wp2_with fail;go_call f as e w1 ⟨b1,t,n,b,u,rfl⟩;have l:=b1.alloc b1.size (χ #[t,ι κ (n:Int),θ ζ,θ b,θ u] 197);simp only[QG];go_wp2;go_ret2;exact⟨by rw[uh k];rfl,l⟩
  | some q=>
   obtain⟨v,n⟩:=q;obtain⟨I,J⟩:=VO hv;have A:=Ak hv;have G:=Ho hv;have H:=Pk hv;rw[hv]at f d;simp only[yB]at d;by_cases C:sk s n=s.size
   .rw[yg C]at d;have K:((sk s n:Int) !=(s.size:Int))=ζ:=by rw[bne_eq_false_iff_eq];omega
    rw[d]at HR;have j:=zb (fun w=>uh r n w);have p:=zb fun (w:Wo)=>LG v A w om om
    cases hb:zY v with
    | true=>
     have k:Hid (qi s= .tuple #[σ ⟨#[]⟩,ι κ 3]):=by show _=_;unfold qi;rw[uh HR,Oj,hb];rfl
     have a:Hid (δ prog 121 #[s,ι κ ((sk s 0:Nat):Int)] w fun e w'=>e=ε (QG (ze (ct v)) n ξ ξ (zF v))/\Below w w w'):=f.mono fun e w' h=>⟨by have:=h.2;simp only[Ο]at this;rw[hb]at this;exact this,h.1⟩;generalize ze (ct v)=o at *;generalize zF v=u at *;generalize sk s n=m at *;go_in;go_wp2_with fail;go_call g as e w1 ⟨rfl,rfl⟩;go_wp2_with fail;go_call a as e w1 ⟨rfl,b1⟩;have l:=b1.alloc b1.size (χ #[o,ι κ (n:Int),θ ξ,θ ξ,θ u] 197);simp only[QG];go_wp2_with fail;go_call uh j _ as e w2 ⟨rfl,rfl⟩;go_wp2;go_ret2;exact⟨by rw[uh k];rfl,l⟩
    | false=>
     cases ht:zF v with
     | true=>
      have k:Hid (qi s= .tuple #[σ ⟨#[]⟩,ι κ 4]):=by show _=_;unfold qi;rw[uh HR,Oj,hb,ht];rfl
      have a:Hid (δ prog 121 #[s,ι κ ((sk s 0:Nat):Int)] w fun e w'=>e=ε (QG (ze (ct v)) n ξ ζ ξ)/\Below w w w'):=f.mono fun e w' h=>⟨by have:=h.2;simp only[Ο]at this;rw[hb,ht]at this;exact this,h.1⟩;generalize ze (ct v)=o at *;generalize sk s n=m at *;go_in;go_wp2_with fail;go_call g as e w1 ⟨rfl,rfl⟩;go_wp2_with fail;go_call a as e w1 ⟨rfl,b1⟩;have l:=b1.alloc b1.size (χ #[o,ι κ (n:Int),θ ξ,θ ζ,θ ξ] 197);simp only[QG];go_wp2_with fail;go_call uh j _ as e w2 ⟨rfl,rfl⟩;go_wp2;go_ret2;exact⟨by rw[uh k];rfl,l⟩
     | false=>
      have a:Hid (δ prog 121 #[s,ι κ ((sk s 0:Nat):Int)] w fun e w'=>e=ε (QG (ze (ct v)) n ξ ζ ζ)/\Below w w w'):=f.mono fun e w' h=>⟨by have:=h.2;simp only[Ο]at this;rw[hb,ht]at this;exact this,h.1⟩;by_cases D:zJ v<=100/\zn v<=3000
      .have k:Hid (qi s= .tuple #[σ (ze (ct v)),ι κ 0]):=by show _=_;unfold qi;rw[uh HR,Oj,hb,ht,yf dc,yf dc,yf om]
       rw[yj D]at p;generalize ze (ct v)=o at *;generalize sk s n=m at *;go_in;go_wp2_with fail;go_call g as e w1 ⟨rfl,rfl⟩;go_wp2_with fail;go_call a as e w1 ⟨rfl,b1⟩;have l:=zb (b1.alloc b1.size (χ #[o,ι κ (n:Int),θ ξ,θ ζ,θ ζ] 197));simp only[QG];go_wp2_with fail;go_call uh j _ as e w2 ⟨rfl,rfl⟩;have E:Zs w1 o n ξ ζ ζ (w1.alloc (χ #[o,ι κ (n:Int),θ ξ,θ ζ,θ ζ] 197)):=yH w1 _;have y:=zb E;go_wp2_with fail;go_call uh p _ as e w3 ⟨rfl,b3⟩;have c3:=(y.below b3).c0;have x:=zh l b3;go_wp2;go_ret2;exact⟨by rw[uh k];rfl,x⟩
      .have k:Hid (qi s= .tuple #[σ ⟨#[]⟩,ι κ 5]):=by show _=_;unfold qi;rw[uh HR,Oj,hb,ht,yf dc,yf dc,yg om];rfl
       rw[yk D]at p;generalize ze (ct v)=o at *;generalize sk s n=m at *;go_in;go_wp2_with fail;go_call g as e w1 ⟨rfl,rfl⟩;go_wp2_with fail;go_call a as e w1 ⟨rfl,b1⟩;have l:=zb (b1.alloc b1.size (χ #[o,ι κ (n:Int),θ ξ,θ ζ,θ ζ] 197));simp only[QG];go_wp2_with fail;go_call uh j _ as e w2 ⟨rfl,rfl⟩;go_wp2_with fail;go_call uh p _ as e w3 ⟨rfl,b3⟩;have x:=zh l b3;go_wp2;go_ret2;exact⟨by rw[uh k];rfl,x⟩
   .rw[yf C]at d;have K:((sk s n:Int) !=(s.size:Int))=ξ:=by rw[bne_iff_ne];omega
    have k:Hid (qi s= .tuple #[σ ⟨#[]⟩,ι κ 2]):=by show _=_;unfold qi;rw[uh HR,d];rfl
    have j:=zb (fun w=>uh r n w);have a:Hid (δ prog 121 #[s,ι κ ((sk s 0:Nat):Int)] w fun e w'=>e=ε (QG (ze (ct v)) n ξ (zY v) (zF v))/\Below w w w'):=f.mono fun e w' h=>⟨h.2,h.1⟩;generalize ze (ct v)=o at *;generalize zF v=u at *;generalize zY v=F at *;generalize sk s n=m at *;go_in;go_wp2_with fail;go_call g as e w1 ⟨rfl,rfl⟩;go_wp2_with fail;go_call a as e w1 ⟨rfl,b1⟩;have l:=b1.alloc b1.size (χ #[o,ι κ (n:Int),θ ξ,θ F,θ u] 197);simp only[QG];go_wp2_with fail;go_call uh j _ as e w2 ⟨rfl,rfl⟩;go_wp2;go_ret2;exact⟨by rw[uh k];rfl,l⟩
theorem zjS:(prog.info? 256).map (fun i=>(i.zero,i.size,i.bytes))=η (η (γ #[Β,Β]),2,32):=by kernel_rfl
def HR(w:Wo)(B:Nat)(v:ω)(hs:List zx):Prop:=w.ownsRow B 256 2 v hs.length (hs.flatMap Zc)
theorem HR.below{hs:List zx}(h:HR w B v hs)(hb:Below w w w'):HR w' B v hs:=Zl h hb
theorem HR.cells(h:HR w B v ps)(j:Nat)(hj:j<ps.length):
  ∃ g cap,v=ς (η ⟨g,0,ν⟩) ps.length cap/\B<=g/\g<w.heap.size/\w.cell? ⟨g,j*2,ν⟩=η (σ (ze ps[j].1))/\w.cell? ⟨g,j*2+1,ν⟩=η (σ (ze ps[j].2)):=by
 obtain⟨o,m |⟨g,cap,f,l,i,b,p,n,k,d⟩⟩:=h
 .omega
 .have a:=EW ps j hj;refine⟨g,cap,l,i,(yC.1 b).1,?_,?_⟩
  .rw[yG b,← Array.getElem?_toList,← a.1,← d,Ν om]
  .rw[yG b,← Array.getElem?_toList,← a.2,← d,Ν om]
theorem zjT(hs:List zx):(hs.flatMap Zc).length=hs.length*2:=by
 induction hs with
 | nil=>rfl
 | cons p r ih=>rw[List.flatMap_cons,yh,ih,yp];simp[Zc];omega
theorem zjU(hs:List zx):∀ u∈hs.flatMap Zc,u.oneCell'=ξ:=by
 intro u b;obtain⟨p,_,a⟩:=List.mem_flatMap.1 b;simp[Zc]at a;rcases a with rfl | rfl<;>rfl
theorem zjV(k:List UInt8)(w:Wo)(hk:k.length<=1000000)(g:Nat)(c:w.cell? g=η (ze k)):
  δ prog 98 #[ς (η g) 1 1] w fun e w'=>e=ε (σ (ze (47 :: Ze k)))/\Below w w w':=by
 have h:SS w (η g) g 0 [ze k]:=⟨fun _=>rfl,fun j hj=>by
  have:j=0:=by simp at hj;omega
  subst this;exact c⟩
 have a:[ze k].length+qQ [ze k]<=1048576:=by simp[qQ,zK];omega
 have e:Zy [ze k]=47 :: Ze k:=by simp[Zy,Zb]
 have:=UB (η g) g 0 1 [ze k] w h a;rw[e]at this;exact this
theorem za6:∀ (n:Nat) (v:JV) (p:List UInt8) (w:Wo),zy v->zF v=ζ->zJ v<=n->(ct v).length<=1000000->p.length+2*(ct v).length<=4000000->zn v<=1000000 ->
  δ prog 163 #[σ (ze (ct v)),σ (ze p)] w fun e w'=>∃ r,e=ε r/\HR w' w r (Zu n p v)/\Below w w w':=by
 intro n;induction n with
 | zero=>intro v p w _ _ h;have:=(YR v).2;omega
 | succ n ih=>
  intro v p w hok htw hd hl0 hl hc;obtain⟨i0,hi0,hz0,hz1,hz2⟩:=info_parts zjS;have HPA:=zb fun w=>WC v hok w om;rw[LL]at HPA;have HREC:Hid (∀ k (hk:k<(Zz v).length) (w:Wo),(Zz v)[k].1.length+(ct (Zz v)[k].2).length<=1000000/\(Qw p (Zz v)[k].1).length<=4000000/\(Zu n (Qw p (Zz v)[k].1) (Zz v)[k].2).length=zn (Zz v)[k].2/\δ prog 163 #[σ (ze (ct (Zz v)[k].2)),σ (ze (Qw p (Zz v)[k].1))] w fun e w'=>∃ r,e=ε r/\HR w' w r (Zu n (Qw p (Zz v)[k].1) (Zz v)[k].2)/\Below w w w'):=fun k hk w=>by
   obtain⟨a,b,c,d⟩:=XQ hok htw (yt hk);have e1:=Hx p (Zz v)[k].1;have e2:zn (Zz v)[k].2<=zn v:=by
    have:=Hy v (k+1);rw[yz hk,yx,Ρ]at this;simp at this;omega
   exact⟨om,om,F7 n _ _ a b om,ih _ _ w a b om om om om⟩
  have HT:Hid (∀ k,k<=(Zz v).length->(((Zz v).take k).flatMap fun q=>Zu n (Qw p q.1) q.2).length+1<=zn v):=fun k hk=>by
   rw[LM _ (fun q=>zn q.2) _ (fun q hq=>by
    obtain⟨a,b,c,_⟩:=XQ hok htw (List.mem_of_mem_take hq);exact F7 n _ q.2 a b om)]
   exact Hy v k
  have HF:Hid (∀ k (hk:k<(Zz v).length),(((Zz v).take (k+1)).flatMap fun q=>Zu n (Qw p q.1) q.2)=(((Zz v).take k).flatMap fun q=>Zu n (Qw p q.1) q.2)++Zu n (Qw p (Zz v)[k].1) (Zz v)[k].2):=fun k hk=>zil (fun q:List UInt8×JV=>Zu n (Qw p q.1) q.2) (Zz v) k hk;have HE:Hid (Zu (n+1) p v=(p,ct v) ::(((Zz v).take (Zz v).length).flatMap fun q=>Zu n (Qw p q.1) q.2)):=by
   show _=_
   rw[Zu,yr (ye _)]
  generalize Zu (n+1) p v=R at *;have hkl:(Zz v).length<=1000000:=by
   have:=uh HT (Zz v).length (ye _);have h2:(Zz v).length<=((Zz v).map fun q=>zn q.2).sum:=by
    have:∀ l:List (List UInt8×JV),l.length<=(l.map fun q=>zn q.2).sum:=by
     intro l;induction l with
     | nil=>simp
     | cons q r ih=>have h3:=(YR q.2);rw[yi,yM,yp];omega
    exact this _
   have h4:=XR v;omega
  have hml:((Zz v).map kt).length=(Zz v).length:=yl _;generalize Zz v=K at *;have hcv:(ze (ct v)).size<=1000000:=by rw[zK];omega
  have hpl:p.length<=4000000:=om;go_in;go_wp2_with fail;go_call uh HPA _ as e w1 ⟨r1,rfl,p1,b1⟩;have O0:Hid (HR (w.alloc (χ #[σ (ze p),σ (ze (ct v))] 256)) w (ς (η ⟨w,0,ν⟩) 1 1) [(p,ct v)]):=Ζ w #[σ (ze p),σ (ze (ct v))] 1 (ye _) mo rfl;have B0:Hid (Below w w (w.alloc (χ #[σ (ze p),σ (ze (ct v))] 256))):=(yI _ _).alloc (ye _) _;have O1:=zb (O0.below b1);have B1:=zb (B0.trans (b1.mono B0.size));have P1:Hid (PR w1 w r1 (K.map kt)):=p1.mono B0.size;obtain⟨x1,cap1,rfl⟩:∃ x cap,r1=ς x K.length cap:=by
   rcases p1.2 with ⟨hv,h0⟩ |⟨g,cap,cur,hv,_⟩
   .rw[hml]at h0;exact⟨ν,0,by rw[hv,h0]⟩
   .rw[hml]at hv;exact⟨_,_,hv⟩
  go_wp2_with fail;go_loopw [5,7] (fun u i wr=>∃ k:Nat,k<=K.length/\i=ι κ (k:Int)/\HR wr w u ((p,ct v) ::((K.take k).flatMap fun q=>Zu n (Qw p q.1) q.2))/\PR wr w (ς x1 K.length cap1) (K.map kt)/\Below w w wr) (fun _ i _=>K.length - (intOf i).toNat)
  case atStart=>exact⟨0,yu _,rfl,by simpa using uh O1,P1,B1⟩
  case round=>
   obtain⟨k,hk,rfl,ho,hpr,hb⟩:=hrel;have hwsz:=hb.size;by_cases hlt:k<K.length
   .have hltI:(k:Int)<(K.length:Int):=om;obtain⟨g,cap',he,hgB,hgl,c0,c1⟩:=hpr.cells k (by rw[hml];exact hlt);injection he with he1 he2 he3;subst he1;subst he3;have ek:(K.map kt)[k]'(by rw[hml];exact hlt)=kt K[k]:=List.getElem_map _;rw[ek]at c0 c1;obtain⟨l1,l2,l3,_⟩:=uh HREC k hlt w;have HRC:=zb fun w=>(uh HREC k hlt w).2.2.2;have l4:=uh HT (k+1) hlt;have l5:=uh HT k hk;rw[uh HF k hlt,yh]at l4;have l6:=(YR K[k].2);have HEK:Hid ((p,ct v) ::((K.take (k+1)).flatMap fun q=>Zu n (Qw p q.1) q.2)=((p,ct v) ::((K.take k).flatMap fun q=>Zu n (Qw p q.1) q.2))++Zu n (Qw p K[k].1) K[k].2):=by
     show _=_
     rw[uh HF k hlt];rfl
    have hcat:ze p++ze (47 :: Ze K[k].1)=ze (Qw p K[k].1):=Vn _ _;have hzz:(9223372036854775807<(ze p).size+(ze (47 :: Ze K[k].1)).size)=False:=yR (by
     rw[zK,zK];have:=Uw K[k].1;simp only[yp];omega)
    have hAl:((p,ct v) ::((K.take k).flatMap fun q=>Zu n (Qw p q.1) q.2)).length+(Zu n (Qw p K[k].1) K[k].2).length<=1000000:=by
     simp only[yp];omega
    have hZ0:1<=(Zu n (Qw p K[k].1) K[k].2).length:=om;have HT1:=zb fun (w:Wo) (g:Nat) (c:w.cell? ⟨g,0,ν⟩=η (σ (ze K[k].1)))=>zjV K[k].1 w om g c;have d0:wr.cell? ⟨g,k*2,ν⟩=η (σ (ze K[k].1)):=c0;have d1:wr.cell? ⟨g,k*2+1,ν⟩=η (σ (ze (ct K[k].2))):=c1;have HO:=zb ho;have HPR:=zb hpr;have HB:=zb hb;clear c0 c1 ek he2 hml HREC HT HF HE l1 l2 l3 l4 l5 l6 ho hpr hb;generalize (p,ct v) ::((K.take k).flatMap fun q=>Zu n (Qw p q.1) q.2)=A at *;generalize Zu n (Qw p K[k].1) K[k].2=Z at *;generalize ze (Qw p K[k].1)=np at *;generalize ze (47 :: Ze K[k].1)=tk at *;generalize ze K[k].1=key at *;generalize ze (ct K[k].2)=tx at *;have bA0:Below wr wr (wr.alloc (χ #[.string key] 9)):=(yI _ _).alloc (ye _) _;have bA:=bA0.drew;have a0:=(bA0.cell (p:=⟨g,k*2,ν⟩) hgl).trans d0;have a1:=(bA0.cell (p:=⟨g,k*2+1,ν⟩) hgl).trans d1;have aT:((wr.alloc (χ #[.string key] 9)).drew).cell? ⟨wr,0,ν⟩=η (.string key):=QS wr 9 (.string key) 0 _ rfl;have HBA:=zb bA;have HTA:=zb (uh HT1 _ _ aT);go_wp2_with fail
    go_region_law (first
      |(
        refine Og rfl (.tmp 20) (.tmp 35) 253 rfl w 256 i0 (γ #[σ Β,σ Β]) 2 32 underlying253 hi0 hz0 hz1 hz2 rfl dc _ _ _ rfl (by exact own5) ⟨g5,0,ν⟩ Z.length cap5 (Z.flatMap Zc) rfl (zjT Z) (by exact HCELL) (zjU Z) mo om om ?_;intro v6 w6 own6 hg6)
      |(
        have hb4:=b4;go_simp;go_call uh HRC _ as e w5 ⟨r5,rfl,h5,b5⟩;have b5':=zh b4' b5;have own5:=Zl HO b5';have P5:=HPR.below b5';have B5:=HB.trans (b5'.mono hwsz);have hw5:=B5.size;obtain⟨g5,cap5,rfl⟩:∃ g5 cap5,r5=ς (η ⟨g5,0,ν⟩) Z.length cap5:=(by
         rcases h5.2 with ⟨_,h0⟩ |⟨g5,cap5,cur5,hv5,_⟩
         .omega
         .exact⟨g5,cap5,hv5⟩)
        have HCELL:Hid (∀ j u,(Z.flatMap Zc)[j]?=η u->w5.cell? ((⟨g5,0,ν⟩:Addr).add j)=η u):=fun j u hj=>World.ownsRow.cells h5 rfl j u hj)
      |(
        go_simp;go_call HTA as e w4 ⟨rfl,b4⟩;have b4':=zh HBA b4;have k0:w4.cell? ⟨g,k*2,ν⟩=η (.string key):=(b4'.cell (p:=⟨g,k*2,ν⟩) hgl).trans d0;have k1:w4.cell? ⟨g,k*2+1,ν⟩=η (.string tx):=(b4'.cell (p:=⟨g,k*2+1,ν⟩) hgl).trans d1))
    all_goals
     have O6:Hid (HR w6 w v6 (A++Z)):=by
      show HR w6 w v6 (A++Z)
      unfold HR;rw[yh,Θ];exact own6
     have B6:Hid (Below w w w6):=B5.grown hg6 hw5 (fun k hk=>(own5.lt k hk).1);have P6:Hid (PR w6 w (ς (η ⟨g,0,ν⟩) K.length cap1) (K.map kt)):=World.ownsRow.kept P5 hg6 (zim P5 own5 dc);clear own6 hg6 B5 P5 own5 h5 b5 b5' HCELL b4 b4' k0 k1 a0 a1 d0 d1 HBA HTA HRC HO HPR HB;go_wp2;go_roundw
    all_goals first
     | exact⟨k+1,om,by go_num,by rw[uh HEK];exact uh O6,P6,B6⟩
     |(simp[intOf];omega)
   .have hk':k=K.length:=om;subst hk';have e:=uh HE;rw[← e]at ho;have HO:=zb ho;have HB:=zb hb;clear ho hb e HREC HT HF HE hpr hml;go_wp2;go_ret;exact⟨_,rfl,HO,HB⟩
theorem zjW(b:Bs):ze b.data.toList=b:=by obtain⟨⟨l⟩⟩:=b;rfl
theorem zjX(hs:Small ts)(hl:ts.length<=4):qQ (ts.map zz)<=12:=by
 have:∀ ts:List (List UInt8),Small ts->qQ (ts.map zz)<=3*ts.length:=by
  intro ts;induction ts with
  | nil=>intro _;simp[qQ]
  | cons t r ih=>
   intro h;have a:=ih (fun q hq=>h q (yw _ hq));have b:=h t yq;have d:(zz t).size=t.length:=zK t;unfold qQ at *;simp only[yi,yM,yp];omega
 have:=this ts hs;omega
theorem zjY(hs:Small ts)(hl:ts.length<=4):(Zy (ts.map zz)).length<=28:=by
 have:∀ ts:List (List UInt8),Small ts->(Zy (ts.map zz)).length<=7*ts.length:=by
  intro ts;induction ts with
  | nil=>intro _;simp[Zy]
  | cons t r ih=>
   intro h;have b:=ih (fun q hq=>h q (yw _ hq));have d:=h t yq;have f:=Uw t;have a:(zz t).data.toList=t:=Zb t;rw[yi,ON,yp,yh,a,yp];omega
 have:=this ts hs;omega
theorem zjZ(w:Wo)(b:Bs):∃ cap W,(convert 9 22 b).run prog w= .ok (ς (η w.heap.size) b.data.toList.length cap) W /\
  (∀ j u,(Α b.data.toList)[j]?=η u->W.cell? ((w.heap.size:Addr).add j)=η u)/\Bw w W/\(∀ (B e:Nat) v n xs,w.ownsRow B e 1 v n xs->W.ownsRow B e 1 v n xs)/\w.heap.size<=W.heap.size:=by
 have:=UA w b.data.toList
 rwa [zjW]at this
theorem Ol(w:Wo)(rb i:Nat)(z:ω):w.grownBy (w.setCell ⟨rb,i,ν⟩ z) (η rb):=
 ⟨rfl,rfl,rfl,by simp[World.setCell],fun k _ hne=>Below.heap_setCell w ⟨rb,i,ν⟩ z k (fun e=>hne (by rw[e]))⟩
theorem J4.setP(h:J4 w B rb)(z:Nat)(hz:z<=300):J4 (w.setCell ⟨rb,1,ν⟩ (ι κ (z:Int))) B rb:=by
 obtain⟨a,c,p,l,d,f,k,g,m,i,j,b⟩:=h;exact⟨a,c,z,l,d,f,Mx _ rb _ _ _ _ k,g,om,i,j.grown (Ol w rb 1 _) (fun h0 e=>by have:=b h0;injection e with e;omega),b⟩
theorem J4.p1(h:J4 w B rb):(∃ p:Int,w.cell? ⟨rb,1,ν⟩=η (ι κ p))/\w.frozen? ⟨rb,1,ν⟩=ζ:=by
 obtain⟨a,c,p,l,d,f,b,_⟩:=h;exact⟨⟨p,by rw[yG b];rfl⟩,yJ b 1⟩
