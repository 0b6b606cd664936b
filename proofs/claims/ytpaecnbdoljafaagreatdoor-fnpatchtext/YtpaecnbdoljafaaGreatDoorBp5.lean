import Derived.Test.YtpaecnbdoljafaaGreatDoorBp1
set_option maxRecDepth 100000
set_option maxHeartbeats 8000000
namespace Go.Proofs.YtpaecnbdoljafaaGreatDoor
open Go.RowKit Go.Proofs.Tryz
theorem XA {P:Program} {ops:Array Oper} {o:Oper} {a:Act} {w:Wo} {K:Act->Wo->Prop} {Q:Exit->Act->Wo->Prop} {E:Prop}
  (hg:o.guard=none) (s x:Operand) (t:TypeId) (hop:o.op=Op.call {callee:=Callee.builtin Builtin.append,args:=#[s,x],argTypes:=#[t,t]})
  (base:Nat) (e:TypeId) (i:TypeInfo) (z:Value) (size bytes:Nat) (ht:P.underlying t=some (.slice e)) (hi:P.info? e=some i) (hz:i.zero=some z)
  (hsize:i.size=size) (hby:i.bytes=bytes) (hzs:z.cells.size=size) (hsz:0<size)
  (v:Value) (n:Nat) (xs:List Value) (hs:a.eval s=v) (hown:w.ownsRow base e size v n xs)
  (ad:Addr) (m c:Nat) (news:List Value) (hx:a.eval x= .slice (some ad) m c) (hl:news.length=m*size) (hnews:∀ j u,news[j]?=some u->w.cell? (ad.add j)=some u) (h1:∀ u∈news,u.oneCell'=true)
  (h63:n+m<=maxLen) (hbytes:(n+m)*bytes<=140737488355328) (hbase:base<=w.heap.size)
  (hK:∀ v' w',w'.ownsRow base e size v' (n+m) (xs++news)->w.grownBy w' v.ownBlock->K (a.put o.dst v') w'):
  if Region.wanted o (yielded ops a.tmps)=true then Oper.wp P o a w K Q else E:=by
 have b:Region.wanted o (yielded ops a.tmps)=true:=by simp[Region.wanted,hg]
 rw[yf b];exact wp_append_own w s x t hop base e i z size bytes ht hi hz hsize hby hzs hsz v n xs hs hown ad m c news hx hl hnews h1 h63 hbytes hbase fun v' w' h2 h3 _=>hK v' w' h2 h3
theorem Hw(w:Wo)(t:TypeId)(xs:List Value):∀ j u,xs[j]?=some u->(w.alloc (.cells xs.toArray t)).cell? ((⟨w.heap.size,0,none⟩:Addr).add j)=some u:=by
 intro j u a;rw[Go.WideShapes.add_plain,cell_of_row _ w.heap.size (0+j) xs.toArray t (0,0) (yF w _),Nat.zero_add];simpa using a
theorem Hx(ks:List Int):∀ u∈ks.map (Value.int .u8),u.oneCell'=true:=by
 intro u a;obtain⟨k,_,rfl⟩:=yN.1 a;rfl
theorem WM(s:Bs)(w:Wo)(hs:s.size<=1048576):
  Calls prog 70 #[.string s] w fun e w'=>e= .returned (.string (zi (quoted s.data.toList)))/\Bw w w':=by
 obtain⟨F,D,o,q,r⟩:=info_parts VR;go_in;go_wp2;go_loopw [4,5] (fun v i wr=>∃ (j:Nat) (p:List UInt8),j<=s.size/\i= .int .i64 j/\p=34 :: qs (s.data.toList.take j)/\wr.ownsRow w.heap.size 5 1 v (Lib.byteCells p).length (Lib.byteCells p)/\Bw w wr) (fun _ i _=>s.size - (intOf i).toNat)
 case atStart=>exact⟨0,[34],yr _,rfl,rfl,World.ownsRow_lit w #[.int .u8 34] 1 (yd _) (by unfold maxLen;omega) rfl,(yG _ _).alloc (yd _) _⟩
 case round=>
  obtain⟨j,p,hj,rfl,L,h,K⟩:=hrel;have n:=K.size;have Q:p.length<=1+6*j:=by
   have h1:=NA (s.data.toList.take j);have h5:(s.data.toList.take j).length=j:=by rw[yl,Zb];omega
   rw[L,ym];omega
  have E:(Lib.byteCells p).length<=1+6*j:=by rw[yJ];exact Q
  have u:=zh K;clear K;by_cases W:j<s.size
  ·have G:Hid (34 :: qs (s.data.toList.take (j+1))=p++qB s[j]):=by
    show _=_;rw[L,WT s j W,Ms];rfl
   clear L Q;have hcb:s[j].toNat<256:=UInt8.toNat_lt _;by_cases z:GW s[j].toNat
   ·have y:=zh (XT z);obtain⟨g1,g2,g3,g4,g5,g6⟩:=z;have t1:((s[j].toNat:Int) ==34)=false:=by rw[yb];omega
    have t2:((s[j].toNat:Int) ==92)=false:=by rw[yb];omega
    have t3:((s[j].toNat:Int) ==8)=false:=by rw[yb];omega
    have t4:((s[j].toNat:Int) ==9)=false:=by rw[yb];omega
    have t5:((s[j].toNat:Int) ==10)=false:=by rw[yb];omega
    have t6:((s[j].toNat:Int) ==12)=false:=by rw[yb];omega
    have t7:((s[j].toNat:Int) ==13)=false:=by rw[yb];omega
    have M:(s[j].toNat:Int)<32:=by omega
    have T:(0:Int)<=(s[j].toNat:Int):=by omega
    have C:Hid (({data:=#[48,49,50,51,52,53,54,55,56,57,97,98,99,100,101,102]}:Bs)=⟨QJ.toArray⟩):=rfl;have hexZ:({data:=#[48,49,50,51,52,53,54,55,56,57,97,98,99,100,101,102]}:Bs).size=16:=rfl;generalize ({data:=#[48,49,50,51,52,53,54,55,56,57,97,98,99,100,101,102]}:Bs)=hx at *;obtain⟨a,ha⟩:∃ a:Nat,a=s[j].toNat / 16:=⟨_,rfl⟩;obtain⟨b,K⟩:∃ b:Nat,b=s[j].toNat % 16:=⟨_,rfl⟩;have wa:IntKind.u8.wrap ((s[j].toNat:Int) / 16)=(a:Int):=by rw[IntKind.wrap_u8];omega
    have wb:IntKind.u8.wrap (b:Int)=(b:Int):=by rw[IntKind.wrap_u8];omega
    have wb2:(s[j].toNat:Int).tmod 16=(b:Int):=by rw[Int.tmod_eq_emod_of_nonneg (by omega)];omega
    have lb0:(0:Int)<=(b:Int):=by omega
    have la:(a:Int)<16:=by omega
    have lb:(b:Int)<16:=by omega
    have X:a<16:=by omega
    have Y:b<16:=by omega
    have pa:a<hx.size:=by omega
    have R:b<hx.size:=by omega
    have N:Hid (hx[a]'pa=QJ.getD (s[j].toNat / 16) 0):=by
     have e:=uh C;subst e;subst ha;exact Kb _ X
    have O:Hid (hx[b]'R=QJ.getD (s[j].toNat % 16) 0):=by
     have e:=uh C;subst e;subst K;exact Kb _ Y
    rw[← uh N,← uh O]at y;clear ha K C N O;go_wp2;go_region_law (refine XA rfl (.tmp 54) (.tmp 63) 22 rfl w.heap.size 5 F (.int .u8 0) 1 1 underlying22 D o q r rfl (by decide) _ _ _ rfl (by exact h.alloc _) ⟨wr.heap.size,0,none⟩ 6 6 [.int .u8 92,.int .u8 117,.int .u8 48,.int .u8 48,.int .u8 (hx[a]'pa).toNat,.int .u8 (hx[b]'R).toNat] rfl (by rfl) (by exact Hw _ _ _) (by exact Hx [92,117,48,48,((hx[a]'pa).toNat:Int),((hx[b]'R).toNat:Int)]) (by unfold maxLen;omega) (by omega) (by simp;omega) ?_;intro H x f d)
    all_goals
     have l:Bw w x:=((uh u).alloc n _).drew.grown d (by simp;omega) (fun k hk=>(h.lt k hk).1);have g:=qh (m:=[92,117,48,48,hx[a]'pa,hx[b]'R]) f (by simp[Lib.byteCells]) rfl;clear f d h u E;go_wp2;go_roundw
    all_goals first
     | exact⟨j+1,p++[92,117,48,48,hx[a]'pa,hx[b]'R],by omega,by go_num,by rw[uh G,uh y],g,l⟩
     |(simp[intOf];omega)
   ·by_cases I:s[j].toNat=34
    ·have y:=zh (GV (c:=s[j]) (by omega));have A:((s[j].toNat:Int) ==34)=true:=by rw[yB];omega
     clear I z;go_wp2_with (at_builtin;refine wpList_append_own _ rfl (.tmp 23) (.tmp 25) 22 rfl w.heap.size 5 F (.int .u8 0) 1 1 underlying22 D o q r rfl (by decide) _ _ _ rfl (h.alloc _) ⟨wr.heap.size,0,none⟩ 2 2 [.int .u8 92,.int .u8 s[j].toNat] rfl rfl (Yq _ _ _ _) (YT _ _ _) (by unfold maxLen;omega) (by omega) (by simp;omega) ?_);intro H x f d _;have l:Bw w x:=((uh u).alloc n _).grown d (by simp;omega) (fun k hk=>(h.lt k hk).1);have g:=qh (m:=[92,s[j]]) f (by simp[Lib.byteCells]) rfl;clear f d h u E;go_wp2;go_roundw
     case rel=>exact⟨j+1,p++[92,s[j]],by omega,by go_num,by rw[uh G,uh y],g,l⟩
     case measure=>simp[intOf];omega
    ·by_cases P:s[j].toNat=92
     ·have y:=zh (GV (c:=s[j]) (by omega));have A:((s[j].toNat:Int) ==34)=false:=by rw[yb];omega
      have B:((s[j].toNat:Int) ==92)=true:=by rw[yB];omega
      clear I P z;go_wp2_with (at_builtin;refine wpList_append_own _ rfl (.tmp 23) (.tmp 25) 22 rfl w.heap.size 5 F (.int .u8 0) 1 1 underlying22 D o q r rfl (by decide) _ _ _ rfl (h.alloc _) ⟨wr.heap.size,0,none⟩ 2 2 [.int .u8 92,.int .u8 s[j].toNat] rfl rfl (Yq _ _ _ _) (YT _ _ _) (by unfold maxLen;omega) (by omega) (by simp;omega) ?_);intro H x f d _;have l:Bw w x:=((uh u).alloc n _).grown d (by simp;omega) (fun k hk=>(h.lt k hk).1);have g:=qh (m:=[92,s[j]]) f (by simp[Lib.byteCells]) rfl;clear f d h u E;go_wp2;go_roundw
      case rel=>exact⟨j+1,p++[92,s[j]],by omega,by go_num,by rw[uh G,uh y],g,l⟩
      case measure=>simp[intOf];omega
     ·by_cases h8:s[j].toNat=8
      ·have y:=zh (XO (c:=s[j]) (by omega));have A:((s[j].toNat:Int) ==34)=false:=by rw[yb];omega
       have B:((s[j].toNat:Int) ==92)=false:=by rw[yb];omega
       have M:((s[j].toNat:Int) ==8)=true:=by rw[yB];omega
       go_wp2_with (at_builtin;refine wpList_append_own _ rfl (.tmp 29) (.tmp 30) 22 rfl w.heap.size 5 F (.int .u8 0) 1 1 underlying22 D o q r rfl (by decide) _ _ _ rfl (h.alloc _) ⟨wr.heap.size,0,none⟩ 2 2 [.int .u8 92,.int .u8 98] rfl rfl (Yq _ _ _ _) (YT _ _ _) (by unfold maxLen;omega) (by omega) (by simp;omega) ?_);intro H x f d _;have l:Bw w x:=((uh u).alloc n _).grown d (by simp;omega) (fun k hk=>(h.lt k hk).1);have g:=qh (m:=[92,98]) f (by simp[Lib.byteCells]) rfl;clear f d h u E;go_wp2;go_roundw
       case rel=>exact⟨j+1,p++[92,98],by omega,by go_num,by rw[uh G,uh y],g,l⟩
       case measure=>simp[intOf];omega
      ·by_cases h9:s[j].toNat=9
       ·have y:=zh (XP (c:=s[j]) (by omega));have A:((s[j].toNat:Int) ==34)=false:=by rw[yb];omega
        have B:((s[j].toNat:Int) ==92)=false:=by rw[yb];omega
        have M:((s[j].toNat:Int) ==8)=false:=by rw[yb];omega
        have T:((s[j].toNat:Int) ==9)=true:=by rw[yB];omega
        go_wp2_with (at_builtin;refine wpList_append_own _ rfl (.tmp 34) (.tmp 35) 22 rfl w.heap.size 5 F (.int .u8 0) 1 1 underlying22 D o q r rfl (by decide) _ _ _ rfl (h.alloc _) ⟨wr.heap.size,0,none⟩ 2 2 [.int .u8 92,.int .u8 116] rfl rfl (Yq _ _ _ _) (YT _ _ _) (by unfold maxLen;omega) (by omega) (by simp;omega) ?_);intro H x f d _;have l:Bw w x:=((uh u).alloc n _).grown d (by simp;omega) (fun k hk=>(h.lt k hk).1);have g:=qh (m:=[92,116]) f (by simp[Lib.byteCells]) rfl;clear f d h u E;go_wp2;go_roundw
        case rel=>exact⟨j+1,p++[92,116],by omega,by go_num,by rw[uh G,uh y],g,l⟩
        case measure=>simp[intOf];omega
       ·by_cases h10:s[j].toNat=10
        ·have y:=zh (XQ (c:=s[j]) (by omega));have A:((s[j].toNat:Int) ==34)=false:=by rw[yb];omega
         have B:((s[j].toNat:Int) ==92)=false:=by rw[yb];omega
         have M:((s[j].toNat:Int) ==8)=false:=by rw[yb];omega
         have T:((s[j].toNat:Int) ==9)=false:=by rw[yb];omega
         have J:((s[j].toNat:Int) ==10)=true:=by rw[yB];omega
         go_wp2_with (at_builtin;refine wpList_append_own _ rfl (.tmp 39) (.tmp 40) 22 rfl w.heap.size 5 F (.int .u8 0) 1 1 underlying22 D o q r rfl (by decide) _ _ _ rfl (h.alloc _) ⟨wr.heap.size,0,none⟩ 2 2 [.int .u8 92,.int .u8 110] rfl rfl (Yq _ _ _ _) (YT _ _ _) (by unfold maxLen;omega) (by omega) (by simp;omega) ?_);intro H x f d _;have l:Bw w x:=((uh u).alloc n _).grown d (by simp;omega) (fun k hk=>(h.lt k hk).1);have g:=qh (m:=[92,110]) f (by simp[Lib.byteCells]) rfl;clear f d h u E;go_wp2;go_roundw
         case rel=>exact⟨j+1,p++[92,110],by omega,by go_num,by rw[uh G,uh y],g,l⟩
         case measure=>simp[intOf];omega
        ·by_cases h12:s[j].toNat=12
         ·have y:=zh (XR (c:=s[j]) (by omega));have A:((s[j].toNat:Int) ==34)=false:=by rw[yb];omega
          have B:((s[j].toNat:Int) ==92)=false:=by rw[yb];omega
          have M:((s[j].toNat:Int) ==8)=false:=by rw[yb];omega
          have T:((s[j].toNat:Int) ==9)=false:=by rw[yb];omega
          have J:((s[j].toNat:Int) ==10)=false:=by rw[yb];omega
          have S:((s[j].toNat:Int) ==12)=true:=by rw[yB];omega
          go_wp2_with (at_builtin;refine wpList_append_own _ rfl (.tmp 44) (.tmp 45) 22 rfl w.heap.size 5 F (.int .u8 0) 1 1 underlying22 D o q r rfl (by decide) _ _ _ rfl (h.alloc _) ⟨wr.heap.size,0,none⟩ 2 2 [.int .u8 92,.int .u8 102] rfl rfl (Yq _ _ _ _) (YT _ _ _) (by unfold maxLen;omega) (by omega) (by simp;omega) ?_);intro H x f d _;have l:Bw w x:=((uh u).alloc n _).grown d (by simp;omega) (fun k hk=>(h.lt k hk).1);have g:=qh (m:=[92,102]) f (by simp[Lib.byteCells]) rfl;clear f d h u E;go_wp2;go_roundw
          case rel=>exact⟨j+1,p++[92,102],by omega,by go_num,by rw[uh G,uh y],g,l⟩
          case measure=>simp[intOf];omega
         ·by_cases h13:s[j].toNat=13
          ·have y:=zh (XS (c:=s[j]) (by omega));have A:((s[j].toNat:Int) ==34)=false:=by rw[yb];omega
           have B:((s[j].toNat:Int) ==92)=false:=by rw[yb];omega
           have M:((s[j].toNat:Int) ==8)=false:=by rw[yb];omega
           have T:((s[j].toNat:Int) ==9)=false:=by rw[yb];omega
           have J:((s[j].toNat:Int) ==10)=false:=by rw[yb];omega
           have S:((s[j].toNat:Int) ==12)=false:=by rw[yb];omega
           have Z:((s[j].toNat:Int) ==13)=true:=by rw[yB];omega
           go_wp2_with (at_builtin;refine wpList_append_own _ rfl (.tmp 49) (.tmp 50) 22 rfl w.heap.size 5 F (.int .u8 0) 1 1 underlying22 D o q r rfl (by decide) _ _ _ rfl (h.alloc _) ⟨wr.heap.size,0,none⟩ 2 2 [.int .u8 92,.int .u8 114] rfl rfl (Yq _ _ _ _) (YT _ _ _) (by unfold maxLen;omega) (by omega) (by simp;omega) ?_);intro H x f d _;have l:Bw w x:=((uh u).alloc n _).grown d (by simp;omega) (fun k hk=>(h.lt k hk).1);have g:=qh (m:=[92,114]) f (by simp[Lib.byteCells]) rfl;clear f d h u E;go_wp2;go_roundw
           case rel=>exact⟨j+1,p++[92,114],by omega,by go_num,by rw[uh G,uh y],g,l⟩
           case measure=>simp[intOf];omega
          ·have U:32<=s[j].toNat:=by unfold GW at z;omega
           have y:=zh (Ka (c:=s[j]) I P U);have t32:¬ (s[j].toNat:Int)<32:=by omega
           have A:((s[j].toNat:Int) ==34)=false:=by rw[yb];omega
           have B:((s[j].toNat:Int) ==92)=false:=by rw[yb];omega
           have M:((s[j].toNat:Int) ==8)=false:=by rw[yb];omega
           have T:((s[j].toNat:Int) ==9)=false:=by rw[yb];omega
           have J:((s[j].toNat:Int) ==10)=false:=by rw[yb];omega
           have S:((s[j].toNat:Int) ==12)=false:=by rw[yb];omega
           have Z:((s[j].toNat:Int) ==13)=false:=by rw[yb];omega
           go_wp2_with (at_builtin;refine wpList_append_own _ rfl (.tmp 65) (.tmp 67) 22 rfl w.heap.size 5 F (.int .u8 0) 1 1 underlying22 D o q r rfl (by decide) _ _ _ rfl (h.alloc _) ⟨wr.heap.size,0,none⟩ 1 1 [.int .u8 s[j].toNat] rfl rfl (QH _ _ _) (J8 _ _) (by unfold maxLen;omega) (by omega) (by simp;omega) ?_);intro H x f d _;have l:Bw w x:=((uh u).alloc n _).grown d (by simp;omega) (fun k hk=>(h.lt k hk).1);have g:=qh (m:=[s[j]]) f (by simp[Lib.byteCells]) rfl;clear f d h u E;go_wp2;go_roundw
           case rel=>exact⟨j+1,p++[s[j]],by omega,by go_num,by rw[uh G,uh y],g,l⟩
           case measure=>simp[intOf];omega
  ·have V:j=s.size:=by omega
   subst V;rw[XH]at L;have HP:Hid (quoted s.data.toList=p++[34]):=by show _=_;rw[L];rfl
   clear L;go_wp2_with (at_builtin;refine wpList_append_own _ rfl (.tmp 69) (.tmp 70) 22 rfl w.heap.size 5 F (.int .u8 0) 1 1 underlying22 D o q r rfl (by decide) _ _ _ rfl (h.alloc _) ⟨wr.heap.size,0,none⟩ 1 1 [.int .u8 34] rfl rfl (QH _ _ _) (J8 _ _) (by unfold maxLen;omega) (by omega) (by simp;omega) ?_);intro H x f d _;have l:Bw w x:=((uh u).alloc n _).grown d (by simp;omega) (fun k hk=>(h.lt k hk).1);have g:=qh (m:=[34]) f (by simp[Lib.byteCells]) rfl;have hcv:=VS g;clear f d h u E g;go_wp2;go_ret;exact⟨by rw[uh HP];rfl,l⟩
end Go.Proofs.YtpaecnbdoljafaaGreatDoor
