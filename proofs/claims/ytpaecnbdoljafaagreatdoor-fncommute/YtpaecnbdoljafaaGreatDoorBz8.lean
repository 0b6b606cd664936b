import Derived.Test.YtpaecnbdoljafaaGreatDoorBz1
import Derived.Test.YtpaecnbdoljafaaGreatDoorBz7
import Derived.Lib.RuneCount
set_option maxRecDepth 100000
set_option maxHeartbeats 8000000
namespace Go.Proofs.YtpaecnbdoljafaaGreatDoor
open Go.RowKit Go.Shelf Go.Proofs.Tryz
def ML(w:Wo):Prop:=∃ m,w.cell? ⟨Tryz.laysM146_ren.g 1,0,none⟩=some (.int .i64 m)
theorem ML.of{w:Wo}(h:w.ShapedOpen prog):ML w:=Tryz.laysM146.s1_3 w h
theorem ML.below{w w':Wo}(h:ML w)(hb:Bw w w'):ML w':=by
 obtain⟨m,a⟩:=h;exact⟨m,(hb.cell (yK _ _ a)).trans a⟩
def VF(s:Bs):List Bs:=Lib.splitB ⟨#[47]⟩ 0 (Lib.countB s ⟨#[47]⟩) s
theorem zgO(s:Bs):(VF s).map (·.data.toList)=ZK s.data.toList:=AA s
theorem SU(s:Bs):(VF s).length=Lib.countB s ⟨#[47]⟩+1:=Lib.splitB_all ⟨#[47]⟩ (by decide) 0 _ s rfl
theorem zgP(s:Bs):(VF s).length<=s.size+1:=by rw[SU];have:=Lib.countB_le ⟨#[47]⟩ (by decide) _ s (ye _);omega
theorem zgQ(s:Bs)(w:Wo)(h:ML w)(hs:s.size<=1048576):
  Calls prog 137 #[.string s,.string ⟨#[47]⟩] w fun e w'=>e= .returned (.slice (some ⟨w.heap.size,0,none⟩) (VF s).length (VF s).length)/\SS w' (some ⟨w.heap.size,0,none⟩) w.heap.size 0 (VF s)/\Bw w w'/\w.heap.size<w'.heap.size:=by
 obtain⟨m,b⟩:=h;refine Calls.mono (Any.strings_Split {Tryz.laysM146 with} Tryz.laysM146.i9 s ⟨#[47]⟩ m w (by omega) b (by decide)) ?_;rintro e w' ⟨rfl,rfl⟩;refine⟨?_,⟨fun _=>rfl,fun j hj=>?_⟩,(yI _ _).alloc (ye _) _,by simp⟩
 ·rw[SU]
 ·have a:=yH w (.cells ((VF s).map Value.string).toArray 9);show (w.alloc (.cells ((VF s).map Value.string).toArray 9)).cell? _=_
  rw[yG a];simp[hj]
end Go.Proofs.YtpaecnbdoljafaaGreatDoor
namespace Go.Proofs.YtpaecnbdoljafaaGreatDoor
open Go.RowKit Go.Proofs.Tryz
theorem zgR{c:UInt8}{r:List UInt8}(h:¬ c.toNat=47):∃ p ps,ZK (c :: r)=(c :: p) :: ps:=by
 cases hp:ZK r with
 | nil=>exact absurd hp (Gh r)
 | cons p ps=>exact⟨p,ps,Vh h hp⟩
theorem SV:∀ (l p:List UInt8),p∈ZK l->p.length<=l.length
 | [],p,h=>by simp[ZK]at h;subst h;simp
 | c :: r,p,h=>by
  have ih:=SV r;by_cases a:c.toNat=47
  ·rw[Gi r a]at h;rcases List.mem_cons.1 h with rfl | h
   ·simp
   ·have:=ih p h;simp;omega
  ·cases hp:ZK r with
   | nil=>exact absurd hp (Gh r)
   | cons q qs=>
    rw[Vh a hp]at h;rcases List.mem_cons.1 h with rfl | h
    ·have:=ih q (by rw[hp];exact yq);simp;omega
    ·have:=ih p (by rw[hp];exact yw _ h);simp;omega
def J5(qs:List (List UInt8))(k:Nat)(done:List (List UInt8)):Prop:=qs.mapM zQ=((qs.drop k).mapM zQ).map (done++·)
theorem J5.start(qs:List (List UInt8)):J5 qs 0 []:=by simp[J5]
theorem OR(p:List UInt8)(ps:List (List UInt8)):(p :: ps).mapM zQ=(zQ p).bind fun t=>(ps.mapM zQ).map (t :: ·):=by
 rw[List.mapM_cons]
 cases zQ p with
 | none=>rfl
 | some t=>cases List.mapM zQ ps<;>rfl
theorem J5.step{qs done:List (List UInt8)}{k:Nat}{t:List UInt8}(h:J5 qs k done)(hk:k<qs.length)(hu:zQ qs[k]=some t):J5 qs (k+1) (done++[t]):=by
 unfold J5 at *;rw[h,List.drop_eq_getElem_cons hk,OR,hu];show Option.map (done++·) (Option.map (t :: ·) _)=_
 rw[Option.map_map];congr 1;funext x;simp
theorem J5.bad{qs done:List (List UInt8)}{k:Nat}(h:J5 qs k done)(hk:k<qs.length)(hu:zQ qs[k]=none):qs.mapM zQ=none:=by
 unfold J5 at h;rw[h,List.drop_eq_getElem_cons hk,OR,hu];rfl
theorem J5.fin{qs done:List (List UInt8)}{k:Nat}(h:J5 qs k done)(hk:qs.length<=k):qs.mapM zQ=some done:=by
 unfold J5 at h;rw[h,List.drop_eq_nil_of_le hk];simp
theorem SW(s:Bs)(w:Wo)(hML:ML w)(hs:s.size<=1048576):
  Calls prog 95 #[.string s] w fun e w'=>∃ v,e= .returned (.tuple #[v,.bool (zK s.data.toList).isSome])/\OT w' w.heap.size v ((zK s.data.toList).getD [])/\Bw w w':=by
 obtain⟨i0,hi,T,U,V⟩:=info_parts Vi;by_cases h0:s.size=0
 ·have hse:s=⟨#[]⟩:=by
   have:s.data.toList=[]:=yO (by rw[Zg];exact h0);obtain⟨⟨l⟩⟩:=s;simp at this;subst this;rfl
  subst hse;clear h0;go_in;go_wp2;go_ret2;exact⟨_,rfl,World.ownsRow_nil _ _ _ _,yI _ _⟩
 ·have Q:s.toList.isEmpty=false:=by
   rw[Lib.toList_data,List.isEmpty_eq_false_iff];intro e;exact h0 (by rw[← Zg,e];rfl)
  have h0':0<s.size:=by omega
  have O:=Zg s;have C:=ze (zgQ s w hML hs);have b:=zgO s;have z:=zgP s;have A:s.data.toList=s[0] :: s.data.toList.drop 1:=by have:=Qw s 0 h0';simpa using this
  obtain⟨F,a,B⟩:∃ F a,VF s=F :: a:=by
   cases h:VF s with
   | nil=>have:=SU s;rw[h]at this;simp at this
   | cons F a=>exact⟨F,a,rfl⟩
  rw[B]at b z;rw[B]at C;by_cases m:s[0].toNat=47
  ·rw[A,Gi _ m]at b;simp only[yi,List.cons.injEq]at b;have R:F=⟨#[]⟩:=by obtain⟨⟨l⟩⟩:=F;have:=b.1;simp at this;subst this;rfl
   have Y:=ze b.2;have J:Hid (zK s.data.toList=Qq (s.data.toList.drop 1)):=Df (by omega) m;clear b A m O;subst R;go_in;go_wp2_with fail;refine (uh C).mono ?_;rintro e y ⟨rfl,s1,K,z1⟩;have c0:=s1.cell 0 (by simp);simp only[Nat.add_zero,List.getD_cons_zero]at c0;have hpl:a.length<=1048576:=by simp at z;omega
   have hpe:¬ a=[]:=by intro e;have h:=uh Y;rw[e]at h;exact Gh _ h.symm
   have hpp:0<a.length:=by cases a with
    | nil=>exact absurd rfl hpe
    | cons _ _=>simp
   have HS1:=ze s1;have E:=K.size;clear s1 z C B Q;go_wp2_with (at_make;refine wpList_make_own _ rfl _ _ 30 rfl y.heap.size 9 i0 (.string ByteArray.empty) 1 underlying30 hi T U .i64 .i64 _ a.length rfl rfl rfl (by rw[V];omega) (by unfold maxLen;omega) (ye _) ?_);intro w2 o f;have G:Hid (Bw y w2):=(yI _ _).grown f (ye _) (by intro k Z;cases Z);have I:=ze o;clear o f;go_wp2;go_loopw [5,25] (fun v i wr=>∃ (k:Nat) (d:List (List UInt8)),k<=a.length/\i= .int .i64 k/\d.length<=k/\OT wr y.heap.size v d/\Bw y wr/\J5 (a.map (·.data.toList)) k d) (fun _ i _=>a.length - (intOf i).toNat)
   case atStart=>exact⟨0,[],yu _,rfl,ye _,uh I,uh G,J5.start _⟩
   case round=>
    obtain⟨k,d,Z,rfl,hdn,j,M,P⟩:=hrel;have HM:=ze P;have hwsz:=M.size;clear P I G c0;by_cases n:k<a.length
    ·have N:=(uh HS1).cell (k+1) (by simp;omega);have hc:wr.cell? ⟨w.heap.size,1+k,none⟩=some (.string (a.getD k ByteArray.empty)):=by
      have h1:y.cell? ⟨w.heap.size,1+k,none⟩=some (.string (a.getD k ByteArray.empty)):=by
       rw[show 1+k=0+(k+1)from by omega,N];simp
      exact (M.cell (p:=⟨w.heap.size,1+k,none⟩) z1).trans h1
     have S:(a.getD k ByteArray.empty).size<=1048576:=by
      have hm:(a.getD k ByteArray.empty).data.toList∈a.map (·.data.toList):=yP.2 ⟨_,by simp[n],rfl⟩;rw[uh Y]at hm;have:=SV _ _ hm;rw[Zg,yv,Zg]at this;omega
     have D:(a.map (·.data.toList))[k]'(by simpa using n)=(a.getD k ByteArray.empty).data.toList:=by simp[n]
     have HC:=ze (AJ (a.getD k ByteArray.empty) wr S);clear N S;generalize a.getD k ByteArray.empty=p at *
     cases ho:zQ p.data.toList with
     | none=>
      have H:=ze ((uh HM).bad (by simpa using n) (by rw[D];exact ho));rw[ho,O5]at HC;clear D ho;go_wp2_with fail;refine (uh HC).mono ?_;rintro e w3 ⟨rfl,L⟩;have X:=zi M L;clear j HC;go_wp2;go_ret2;have HR:zK s.data.toList=none:=by rw[uh J];unfold Qq;rw[← uh Y];exact uh H
      exact⟨_,by rw[HR];rfl,by rw[HR];exact World.ownsRow_nil _ _ _ _,K.trans (X.mono E)⟩
     | some t=>
      have H:=ze ((uh HM).step (by simpa using n) (by rw[D];exact ho));rw[ho,O4]at HC;clear D ho;go_wp2_with fail;refine (uh HC).mono ?_;rintro e w3 ⟨rfl,L⟩;have X:=zi M L;have x:=Zd j L;have hw3:=X.size;clear j HC L;go_wp2_with (at_builtin;refine wpList_append_own _ rfl (.tmp 36) (.tmp 38) 30 rfl y.heap.size 9 i0 (.string ByteArray.empty) 1 16 underlying30 hi T U V rfl (by decide) _ _ _ rfl (x.alloc _) ⟨w3.heap.size,0,none⟩ 1 1 [.string (zH t)] rfl rfl (Qi _ _ _) (Vj _) (by unfold maxLen;omega) (by omega) (by simp;omega) ?_);intro v4 w4 u g _;have B4:Bw y w4:=(X.alloc hw3 _).grown g (by simp;omega) (fun k Z=>(x.lt k Z).1);have W:=OT.step (t:=t) u;clear u g x;go_wp2;go_roundw
      case rel=>exact⟨k+1,d++[t],by omega,by go_num,by simp;omega,W,B4,uh H⟩
      case measure=>simp[intOf];omega
    ·have H:=ze ((uh HM).fin (by simp;omega));go_wp2;go_ret2;have HR:zK s.data.toList=some d:=by rw[uh J];unfold Qq;rw[← uh Y];exact uh H
     exact⟨_,by rw[HR];rfl,by rw[HR];exact QO j E,K.trans (M.mono E)⟩
  ·obtain⟨q,qs,hq⟩:=zgR (r:=s.data.toList.drop 1) m;rw[A,hq]at b;simp only[yi,List.cons.injEq]at b;have R:F.toList.isEmpty=false:=by rw[Lib.toList_data,b.1];rfl
   have J:Hid (zK s.data.toList=none):=Dh (by omega) m;clear b A m O hq;go_in;go_wp2_with fail;refine (uh C).mono ?_;rintro e y ⟨rfl,s1,K,z1⟩;have c0:=s1.cell 0 (by simp);simp only[Nat.add_zero,List.getD_cons_zero]at c0;clear s1 C B z Q;go_wp2;go_ret2;exact⟨_,by rw[uh J];rfl,by rw[uh J];exact World.ownsRow_nil _ _ _ _,K⟩
theorem OU(w:Wo)(n B:Nat):Below B w (w.drewN n):=⟨rfl,rfl,rfl,ye _,fun _ _=>rfl⟩
theorem OV(l:List UInt8):((zK l).getD []).length<=l.length:=by
 cases l with
 | nil=>simp[zK]
 | cons c r=>
  rw[zK];split
  ·unfold Qq;have b:∀ (qs:List (List UInt8)),((qs.mapM zQ).getD []).length<=qs.length:=by
    intro qs;induction qs with
    | nil=>simp
    | cons q qs ih=>
     rw[OR]
     cases zQ q with
     | none=>simp
     | some t=>
      cases hq:List.mapM zQ qs with
      | none=>simp
      | some ts=>rw[hq]at ih;simp at ih ⊢;omega
   have d:∀ (l:List UInt8),(ZK l).length<=l.length+1:=by
    intro l;induction l with
    | nil=>simp[ZK]
    | cons c r ih=>
     by_cases a:c.toNat=47
     ·rw[Gi r a];simp;omega
     ·cases hp:ZK r with
      | nil=>exact absurd hp (Gh r)
      | cons q qs=>rw[Vh a hp];rw[hp]at ih;simp at ih ⊢;omega
   have:=b (ZK r);have:=d r;simp;omega
  ·simp
theorem Ap(B b:Nat)(bs:List Value)(r:Int)(hr0: -2147483648<=r)(hr1:r<=2147483647)(w:Wo)(h:Lib.IsBuilder 149 5 B b bs w)(hlen:bs.length+4<=140737488355328)(hBw:B<=w.heap.size):
  Calls prog 201 #[.pointer (some ⟨b,0,none⟩),.int .i32 r] w fun e w'=>(∃ n:Int,e= .returned (.tuple #[.int .i64 n,.nilIface]))/\(Lib.BuilderAt 149 5 B b (.pointer (some ⟨b,0,none⟩)) (bs++Lib.runeCells r) w'/\Below B w w'/\Lib.OthersKept 5 (some b) w w'):=by
 go_in;go_wp2_with (go_at_call 219;refine (Nt B b bs _ h).mono ?_);rintro e z ⟨rfl,O,x,A⟩;obtain⟨K,v,l,f,I⟩:=O;have c0:z.cell? ⟨b,0,none⟩=some (.pointer (some ⟨b,0,none⟩)):=by rw[yG l];rfl
 have c1:z.cell? ⟨b,1,none⟩=some v:=by rw[yG l];rfl
 obtain⟨C,E,D,rfl⟩:∃ m q a,v= .slice m q a:=by
  rcases f.2 with ⟨y,_⟩ |⟨g,a,F,y,_⟩
  ·exact⟨_,_,_,y⟩
  ·exact⟨_,_,_,y⟩
 have u:B<=z.heap.size:=by have:=x.size;omega
 have J:=ze (Tryz.utf8_AppendRune_plain B (.slice C E D) bs.length bs r hr0 hr1 z f hlen u);go_wp2_with fail;refine (uh J).mono ?_;rintro e s ⟨P,rfl,i,o,d⟩;have H:b<z.heap.size:=by
  rcases Nat.lt_or_ge b z.heap.size with G | G
  ·exact G
  ·simp[Array.getElem?_eq_none G]at l
 have j:s.heap[b]?=some (.cells #[.pointer (some ⟨b,0,none⟩),.slice C E D] 149 (0,0)):=by
  rw[d.block b (by simp;omega) (fun e=>I e.symm),Lib.alloc_old z _ b H];exact l
 have Q:s.cell? ⟨b,0,none⟩=some (.pointer (some ⟨b,0,none⟩)):=by rw[yG j];rfl
 have R:s.cell? ⟨b,1,none⟩=some (.slice C E D):=by rw[yG j];rfl
 have U:s.frozen? ⟨b,1,none⟩=false:=yJ j 1;obtain⟨m,q,a,rfl⟩:∃ m q a,P= .slice m q a:=by
  rcases i.2 with ⟨y,_⟩ |⟨g,a,F,y,_⟩
  ·exact⟨_,_,_,y⟩
  ·exact⟨_,_,_,y⟩
 have L:Hid (Lib.BuilderAt 149 5 B b (.pointer (some ⟨b,0,none⟩)) (bs++Lib.runeCells r) (s.setCell ⟨b,1,none⟩ (.slice m q a))):=Lib.BuilderAt.put (T:=149) (e:=5) K j (bs':=bs++Lib.runeCells r) (by simpa using i) (by decide);have M:Hid (Below B w (s.setCell ⟨b,1,none⟩ (.slice m q a))):=((x.alloc u _).grown d (by simp;omega) (fun k hk=>(f.lt k hk).1)).setCell (p:=⟨b,1,none⟩) K _;have N:Hid (Lib.OthersKept 5 (some b) w (s.setCell ⟨b,1,none⟩ (.slice m q a))):=((A.alloc o).grown d (Ns (f.alloc _))).setCell ⟨b,1,none⟩ rfl _;have S:(s.setCell ⟨b,1,none⟩ (.slice m q a)).cell? ⟨b,1,none⟩=some (.slice m q a):=by
  have:=heap_setCell_same s b 1 #[.pointer (some ⟨b,0,none⟩),.slice C E D] 149 (.slice m q a) j;rw[yG this];rfl
 clear J i d f l j x A;go_wp2;go_ret2;exact⟨⟨_,rfl⟩,uh L,uh M,uh N⟩
def pc(r:Nat):List UInt8:=if r<128 then qB (UInt8.ofNat r)else Lib.encodeRune r
theorem Aq(r:Nat):(pc r).length<=6:=by
 unfold pc;split
 ·exact Nb _
 ·have:=Lib.encodeRuneZ_length r;simp[Lib.encodeRune];omega
theorem VG{r:Nat}(h:r<128):pc r=qB (UInt8.ofNat r):=by unfold pc;rw[yg h]
theorem YF{r:Nat}(h:r<256):(UInt8.ofNat r).toNat=r:=by rw[UInt8.toNat_ofNat'];omega
abbrev Ji(b:Nat)(w w':Wo):Prop:=Lib.OthersKept 5 (some b) w w'
theorem zgS:∀ r:Fin 32,bits BinOp.and IntKind.i32 ((r.val:Nat):Int) 15=((r.val % 16:Nat):Int):=by decide +kernel
theorem zgT{r:Nat}(h:r<32):bits BinOp.and IntKind.i32 (r:Int) 15=((r % 16:Nat):Int):=zgS ⟨r,h⟩
theorem zgU(B b:Nat)(l:List UInt8)(r:Nat)(w:Wo)(h:zU B b l w)(hB:B<=w.heap.size)(hr:r<=1114111)(hl:l.length<=100000000):
  Calls prog 314 #[.pointer (some ⟨b,0,none⟩),.int .i32 r] w fun e w'=>e= .returned (.tuple #[])/\zU B b (l++pc r) w'/\Below B w w'/\Ji b w w':=by
 have hq:(Lib.byteCells l).length<=100000000:=by rw[yL];exact hl
 by_cases E:32<=r
 ·by_cases e:r=34
  ·have f:Hid (pc r=[92,34]):=by
    show _=_;rw[VG (by omega),Uj (by rw[YF (by omega)];omega)];subst e;rfl
   have j:((r:Int) ==34)=true:=by rw[yD];omega
   clear e;go_in;go_wp2_with fail;refine (YZ B b _ _ _ h (by show _+2<=_;omega) hB).mono ?_;rintro e s ⟨rfl,d,g,i⟩;have a:=zU.str (m:=[92,34]) rfl d;clear d;go_wp2;go_end0;exact⟨rfl,by rw[uh f];exact a,g,i⟩
  ·by_cases C:r=92
   ·have e:=C;clear C;have f:Hid (pc r=[92,92]):=by
     show _=_;rw[VG (by omega),Uj (by rw[YF (by omega)];omega)];subst e;rfl
    have j:((r:Int) ==34)=false:=by rw[yd];omega
    have k:((r:Int) ==92)=true:=by rw[yD];omega
    clear e;go_in;go_wp2_with fail;refine (YZ B b _ _ _ h (by show _+2<=_;omega) hB).mono ?_;rintro e s ⟨rfl,d,g,i⟩;have a:=zU.str (m:=[92,92]) rfl d;clear d;go_wp2;go_end0;exact⟨rfl,by rw[uh f];exact a,g,i⟩
   ·have f:Hid (Lib.runeCells r=Lib.byteCells (pc r)):=by
     show _=_
     by_cases N:r<128
     ·rw[VG N,XI (by rw[YF (by omega)];exact e) (by rw[YF (by omega)];exact C) (by rw[YF (by omega)];exact E)];unfold Lib.runeCells;rw[Lib.encodeRuneZ_one (by omega) (by omega)];simp only[yi,List.map_nil,Lib.byteCells,YF (show r<256 by omega)]
     ·unfold pc;rw[yf N,Lib.byteCells_encodeRune]
    have j:((r:Int) ==34)=false:=by rw[yd];omega
    have k:((r:Int) ==92)=false:=by rw[yd];omega
    have v:((r:Int) ==8)=false:=by rw[yd];omega
    have A:((r:Int) ==9)=false:=by rw[yd];omega
    have p:((r:Int) ==10)=false:=by rw[yd];omega
    have u:((r:Int) ==12)=false:=by rw[yd];omega
    have z:((r:Int) ==13)=false:=by rw[yd];omega
    have J:(32:Int)<=(r:Int):=by omega
    clear e C;go_in;go_wp2_with fail;refine (Ap B b _ (r:Int) (by omega) (by omega) _ h (by omega) hB).mono ?_;rintro e s ⟨⟨n,rfl⟩,d,g,i⟩;have a:=zU.cells (uh f) d;clear d;go_wp2;try simp only[Exit.inBlock,Exit.then]
    refine bodyPost_ret (results_none rfl _ _ _) rfl ?_;exact⟨rfl,a,g,i⟩
 ·by_cases F:Uk r
  ·have f:Hid (pc r=[92,117,48,48,Jx.getD (r / 16) 0,Jx.getD (r % 16) 0]):=by
    show _=_;rw[VG (by omega),Nj (by rw[YF (by omega)];exact F),YF (by omega)]
   obtain⟨W,X,Y,Z,g5,g6⟩:=F;have j:((r:Int) ==34)=false:=by rw[yd];omega
   have k:((r:Int) ==92)=false:=by rw[yd];omega
   have v:((r:Int) ==8)=false:=by rw[yd];omega
   have A:((r:Int) ==9)=false:=by rw[yd];omega
   have p:((r:Int) ==10)=false:=by rw[yd];omega
   have u:((r:Int) ==12)=false:=by rw[yd];omega
   have z:((r:Int) ==13)=false:=by rw[yd];omega
   have J:¬ (32:Int)<=(r:Int):=by omega
   obtain⟨q,o⟩:∃ q:Nat,q=r % 16:=⟨_,rfl⟩;have O:bits BinOp.and IntKind.i32 (r:Int) 15=(q:Int):=by rw[o];exact zgT (by omega)
   have y:q<16:=by omega
   have G:(q:Int)<16:=by omega
   have S:(0:Int)<=(q:Int):=by omega
   rw[← o]at f;clear o;go_in;go_wp2_with fail;refine (YZ B b _ _ _ h (by show _+4<=_;omega) hB).mono ?_;rintro e s ⟨rfl,d,g,i⟩;have a:=zU.str (m:=[92,117,48,48]) rfl d;have H:B<=s.heap.size:=by have:=g.size;omega
   clear d;go_wp2_with fail;refine (Uo B b _ _ _ a (by rw[yL];simp;omega) H).mono ?_;rintro e V ⟨rfl,L,K,T⟩;have x:=zU.byte (c:=Jx.getD (r / 16) 0) (congrArg (fun c:UInt8=>(c.toNat:Int)) (XJ (r / 16) (by omega))) L;have I:B<=V.heap.size:=by have:=K.size;omega
   clear L a;go_wp2_with fail;refine (Uo B b _ _ _ x (by rw[yL];simp;omega) I).mono ?_;rintro e w3 ⟨rfl,M,R,U⟩;have D:=zU.byte (c:=Jx.getD q 0) (congrArg (fun c:UInt8=>(c.toNat:Int)) (XJ q y)) M;have P:=(g.trans K).trans R;have Q:=(i.trans T).trans U;clear M x;go_wp2;go_end0;exact⟨rfl,by rw[uh f];simpa using D,P,Q⟩
  ·rcases (show r=8∨r=9∨r=10∨r=12∨r=13 from by unfold Uk at F;omega)with e | e | e | e | e
   ·have f:Hid (pc r=[92,98]):=by
     show _=_;rw[VG (by omega),Nd (by rw[YF (by omega)];omega)]
    have j:((r:Int) ==34)=false:=by rw[yd];omega
    have k:((r:Int) ==92)=false:=by rw[yd];omega
    have v:((r:Int) ==8)=true:=by rw[yD];omega
    clear e;go_in;go_wp2_with fail;refine (YZ B b _ _ _ h (by show _+2<=_;omega) hB).mono ?_;rintro e s ⟨rfl,d,g,i⟩;have a:=zU.str (m:=[92,98]) rfl d;clear d;go_wp2;go_end0;exact⟨rfl,by rw[uh f];exact a,g,i⟩
   ·have f:Hid (pc r=[92,116]):=by
     show _=_;rw[VG (by omega),Nf (by rw[YF (by omega)];omega)]
    have j:((r:Int) ==34)=false:=by rw[yd];omega
    have k:((r:Int) ==92)=false:=by rw[yd];omega
    have v:((r:Int) ==8)=false:=by rw[yd];omega
    have A:((r:Int) ==9)=true:=by rw[yD];omega
    clear e;go_in;go_wp2_with fail;refine (YZ B b _ _ _ h (by show _+2<=_;omega) hB).mono ?_;rintro e s ⟨rfl,d,g,i⟩;have a:=zU.str (m:=[92,116]) rfl d;clear d;go_wp2;go_end0;exact⟨rfl,by rw[uh f];exact a,g,i⟩
   ·have f:Hid (pc r=[92,110]):=by
     show _=_;rw[VG (by omega),Ng (by rw[YF (by omega)];omega)]
    have j:((r:Int) ==34)=false:=by rw[yd];omega
    have k:((r:Int) ==92)=false:=by rw[yd];omega
    have v:((r:Int) ==8)=false:=by rw[yd];omega
    have A:((r:Int) ==9)=false:=by rw[yd];omega
    have p:((r:Int) ==10)=true:=by rw[yD];omega
    clear e;go_in;go_wp2_with fail;refine (YZ B b _ _ _ h (by show _+2<=_;omega) hB).mono ?_;rintro e s ⟨rfl,d,g,i⟩;have a:=zU.str (m:=[92,110]) rfl d;clear d;go_wp2;go_end0;exact⟨rfl,by rw[uh f];exact a,g,i⟩
   ·have f:Hid (pc r=[92,102]):=by
     show _=_;rw[VG (by omega),Nh (by rw[YF (by omega)];omega)]
    have j:((r:Int) ==34)=false:=by rw[yd];omega
    have k:((r:Int) ==92)=false:=by rw[yd];omega
    have v:((r:Int) ==8)=false:=by rw[yd];omega
    have A:((r:Int) ==9)=false:=by rw[yd];omega
    have p:((r:Int) ==10)=false:=by rw[yd];omega
    have u:((r:Int) ==12)=true:=by rw[yD];omega
    clear e;go_in;go_wp2_with fail;refine (YZ B b _ _ _ h (by show _+2<=_;omega) hB).mono ?_;rintro e s ⟨rfl,d,g,i⟩;have a:=zU.str (m:=[92,102]) rfl d;clear d;go_wp2;go_end0;exact⟨rfl,by rw[uh f];exact a,g,i⟩
   ·have f:Hid (pc r=[92,114]):=by
     show _=_;rw[VG (by omega),Ni (by rw[YF (by omega)];omega)]
    have j:((r:Int) ==34)=false:=by rw[yd];omega
    have k:((r:Int) ==92)=false:=by rw[yd];omega
    have v:((r:Int) ==8)=false:=by rw[yd];omega
    have A:((r:Int) ==9)=false:=by rw[yd];omega
    have p:((r:Int) ==10)=false:=by rw[yd];omega
    have u:((r:Int) ==12)=false:=by rw[yd];omega
    have z:((r:Int) ==13)=true:=by rw[yD];omega
    clear e;go_in;go_wp2_with fail;refine (YZ B b _ _ _ h (by show _+2<=_;omega) hB).mono ?_;rintro e s ⟨rfl,d,g,i⟩;have a:=zU.str (m:=[92,114]) rfl d;clear d;go_wp2;go_end0;exact⟨rfl,by rw[uh f];exact a,g,i⟩
theorem Ar{T e:TypeId}{B b:Nat}{p:Value}{bs:List Value}{w:Wo}(h:Lib.BuilderAt T e B b p bs w){k:Nat}{s:Bs}{pos:Nat}(hk:w.heap[k]?=some (.stringIter s pos))(pos':Nat):Lib.BuilderAt T e B b p bs (w.iterAt k s pos'):=by
 obtain⟨u,v,l,a,r⟩:=h;have o:b≠k:=by
  intro j;rw[j,hk]at l
  cases l
 refine⟨u,v,(Lib.iterAt_other w k b s pos' o).trans l,⟨a.1,?_⟩,r⟩;rcases a.2 with x |⟨g,f,i,y,m,n,d⟩
 ·exact .inl x
 ·have q:g≠k:=by
   intro j;rw[j,hk]at n
   cases n
  exact .inr ⟨g,f,i,y,m,(Lib.iterAt_other w k g s pos' q).trans n,d⟩
theorem zU.iterAt{B b:Nat}{l:List UInt8}{w:Wo}(h:zU B b l w){k:Nat}{s:Bs}{pos:Nat}(hk:w.heap[k]?=some (.stringIter s pos))(pos':Nat):zU B b l (w.iterAt k s pos'):=
 h.elim (fun x=>.inl (Ar x hk pos')) (fun x=>.inr (Ar x hk pos'))
theorem zU.alloc{B b:Nat}{l:List UInt8}{w:Wo}(h:zU B b l w)(o:Obj):zU B b l (w.alloc o):=by
 have g:∀ p,Lib.BuilderAt 149 5 B b p (Lib.byteCells l) w->Lib.BuilderAt 149 5 B b p (Lib.byteCells l) (w.alloc o):=by
  rintro p ⟨i,v,f,a,d⟩;exact⟨i,v,(Lib.alloc_old w o b (yC.1 f).1).trans f,a.alloc o,d⟩
 exact h.elim (fun x=>.inl (g _ x)) (fun x=>.inr (g _ x))
theorem zU.lt{B b:Nat}{l:List UInt8}{w:Wo}(h:zU B b l w):b<w.heap.size:=h.elim (fun x=>x.lt) (fun x=>x.lt)
def YG(s:Bs):Nat->Nat->List UInt8
 | 0,_=>[]
 | f+1,pos=>if pos<s.size then pc (Utf8.decode s pos).1++YG s f (pos+(Utf8.decode s pos).2)else []
def rs(s:Bs):List UInt8:=YG s s.size 0
theorem zgV(s:Bs)(f pos:Nat)(h:¬ pos<s.size):YG s f pos=[]:=by
 cases f with
 | zero=>rfl
 | succ f=>simp[YG,h]
theorem zgW(s:Bs)(pos:Nat):(Utf8.decode s pos).1<=1114111:=by
 rw[YI];exact Lib.decodeN_rune_le _ _ _ _ _ (qi s pos)
theorem zgX{b k:Nat}{a w:Wo}(h:Ji b a w)(hk:a.heap.size<=k)(s:Bs)(pos:Nat):Ji b a (w.iterAt k s pos):=fun i o hi hb ho=>by
 have f:i<a.heap.size:=(yC.1 hi).1;have d:=Lib.below_iterAt (yI k w) (k:=k) (ye _) s pos;rw[d.block i (by omega)];exact h i o hi hb ho
theorem SX(B b:Nat)(l:List UInt8)(s:Bs)(w:Wo)(h:zU B b l w)(hB:B<=w.heap.size)(hl:l.length<=10000000)(hs:s.size<=10000000):
  Calls prog 313 #[.string s,.pointer (some ⟨b,0,none⟩)] w fun e w'=>e= .returned (.tuple #[])/\zU B b (l++34 ::(rs s++[34])) w'/\Below B w w'/\Ji b w w':=by
 have hq:(Lib.byteCells l).length<=10000000:=by rw[yL];exact hl
 have U:B<=b:=h.elim (fun x=>x.1) (fun x=>x.1);have Q:=h.lt;go_in;go_wp2_with fail;refine (Uo B b _ 34 _ h (by omega) hB).mono ?_;rintro e j ⟨rfl,r,O,R⟩;have Y:=O.size;have M:Hid (zU B b (l++[34]) (j.alloc (.stringIter s 0))):=(zU.byte (c:=34) rfl r).alloc _;have J:b<j.heap.size:=Lib.BuilderAt.lt r;have N:Hid (Ji b w (j.alloc (.stringIter s 0))):=Lib.OthersKept.alloc R _;clear r R h;go_wp2;go_loopw [] (fun wr=>∃ (a d:Nat) (i:List UInt8),zU B b i wr/\wr.heap[j.heap.size]?=some (.stringIter s a)/\Below B w wr/\Ji b w wr/\i++YG s d a=l++34 :: rs s/\s.size<=a+d/\i.length<=l.length+1+6*a) (fun wr=>s.size - wr.iterPos j.heap.size)
 case atStart=>
  refine⟨0,s.size,l++[34],uh M,?_,O.alloc (by omega) _,uh N,by simp[rs],by omega,by simp⟩;exact yH j _
 case round=>
  obtain⟨a,d,i,I,m,A,C,g,W,T⟩:=hrel;have Z:j.heap.size<wr.heap.size:=(yC.1 m).1;clear M N;have v:=ze C;clear C;by_cases D:a<s.size
  ·have L:∀ ty,(Instr.next (.pointer (some ⟨j.heap.size,0,none⟩)) true ty).run prog wr=_:=fun ty=>Lib.run_next_any_at wr j.heap.size s a ty m D;have aa:=Lib.decode_width_pos s a D;have K:=zgW s a;have X:=Aq (Utf8.decode s a).1;have z:=I.iterAt m (a+(Utf8.decode s a).2);have p:=Lib.iterAt_heap wr j.heap.size s a (a+(Utf8.decode s a).2) m;have o:=Lib.below_iterAt A (k:=j.heap.size) (by omega) s (a+(Utf8.decode s a).2);have q:B<=(wr.iterAt j.heap.size s (a+(Utf8.decode s a).2)).heap.size:=by rw[Lib.iterAt_size];omega
   obtain⟨f,rfl⟩:∃ f,d=f+1:=⟨d - 1,by omega⟩;have F:Hid ((i++pc (Utf8.decode s a).1)++YG s f (a+(Utf8.decode s a).2)=l++34 :: rs s):=by
    show _=_;rw[← g];simp[YG,D]
   have HC:=ze (zgU B b i (Utf8.decode s a).1 (wr.iterAt j.heap.size s (a+(Utf8.decode s a).2)) z q K (by omega));have n:=ze p;have G:=ze m;have u:=ze o;clear g I z p o q;go_wp2_with fail;refine (uh HC).mono ?_;rintro e S ⟨rfl,r,H,E⟩;go_wp2;go_roundw
   case rel=>exact⟨a+(Utf8.decode s a).2,f,i++pc (Utf8.decode s a).1,r,E.iter (uh n) (by omega),(uh u).trans H,(zgX (uh v) (by omega) _ _).trans E,uh F,by omega,by rw[yh];omega⟩
   case measure=>
    simp only[World.iterPos,E.iter (uh n) (by omega),uh G];omega
  ·have L:∀ ty,(Instr.next (.pointer (some ⟨j.heap.size,0,none⟩)) true ty).run prog wr=_:=fun ty=>Lib.run_next_end_at wr j.heap.size s a ty m D;rw[zgV s d a D,yT]at g;have F:=ze g;have P:(Lib.byteCells i).length<=100000000:=by
    rw[yL,g];have V:∀ f a,(YG s f a).length<=6*f:=by
     intro f;induction f with
     | zero=>intro a;simp[YG]
     | succ f ih=>
      intro a;rw[YG];split
      ·rw[yh];have:=ih (a+(Utf8.decode s a).2);have:=Aq (Utf8.decode s a).1;omega
      ·simp
    have:=V s.size 0;simp[rs];omega
   clear g;go_wp2_with fail;refine (Uo B b _ 34 _ I (by omega) (by omega)).mono ?_;rintro e S ⟨rfl,r,H,E⟩;have y:=zU.byte (c:=34) rfl r;go_wp2;go_end0;refine⟨rfl,?_,A.trans H,(uh v).trans E⟩;rw[uh F]at y;simpa using y
theorem zgY(s:Bs):zH s.data.toList=s:=by obtain⟨⟨l⟩⟩:=s;rfl
def VH(ss:List Bs):Prop:=ss.length<=1048576/\∀ s∈ss,s.size<=1048576
theorem VH.at{ss:List Bs}(h:VH ss){j:Nat}(hj:j<ss.length):(ss.getD j ByteArray.empty).size<=1048576:=h.2 _ (by simp[List.getD,hj])
theorem VH.of{ss:List Bs}(h:ss.length+qH ss<=1048576):VH ss:=⟨by omega,fun s hs=>by
 obtain⟨j,a,rfl⟩:=List.getElem_of_mem hs;have b:=U6 a;rw[show ss.getD j ByteArray.empty=ss[j] by simp[List.getD,a]]at b;omega⟩
def JP(ss:List Bs):List (List UInt8):=(ss.filter fun s=>(zK s.data.toList).isSome).map (·.data.toList)
theorem zgZ{ss:List Bs}{k:Nat}(h:k<ss.length):JP (ss.take (k+1))=JP (ss.take k)++(if (zK (ss.getD k ByteArray.empty).data.toList).isSome then [(ss.getD k ByteArray.empty).data.toList]else []):=by
 rw[Xz h];generalize ss.getD k ByteArray.empty=s;unfold JP;rw[List.filter_append,yx];congr 1
 cases hp:(zK s.data.toList).isSome<;>simp[hp]
theorem SY(ss:List Bs):(JP ss).length<=ss.length:=by
 unfold JP;rw[yl];exact List.length_filter_le _ _
theorem zg0(s:Bs)(w:Wo)(hML:ML w)(hsz:s.size<=1048576):
  Calls prog 91 #[.string s] w fun e w'=>e= .returned (.bool (zK s.data.toList).isSome)/\Bw w w':=by
 have a:=ze (SW s w hML hsz);clear hML;generalize (zK s.data.toList).isSome=z at *;go_in;go_wp2_with fail;refine (uh a).mono ?_;rintro e h ⟨g,rfl,f,b⟩;have d:=ze b;clear a f b;go_wp2;go_ret;exact⟨rfl,uh d⟩
theorem As(xa:Option Addr)(xb xo xc:Nat)(ss:List Bs)(w:Wo)(hML:ML w)(h:SS w xa xb xo ss)(hm:VH ss):
  Calls prog 45 #[.slice xa ss.length xc] w fun e w'=>∃ v,e= .returned v/\OT w' w.heap.size v (JP ss)/\Bw w w':=by
 obtain⟨F,E,l,m,n⟩:=info_parts Vi;have f:=h.ad;have HC:=ze h.cell;clear h;have L:ss.length<=1048576:=hm.1;have Q:=ze hm;have P:=ze hML;clear hm hML;go_in;go_wp2;go_loopw [3,8] (fun v i wr=>∃ k:Nat,k<=ss.length/\i= .int .i64 k/\OT wr w.heap.size v (JP (ss.take k))/\Bw w wr) (fun _ i _=>ss.length - (intOf i).toNat)
 case atStart=>exact⟨0,yu _,rfl,World.ownsRow_nil _ _ _ _,yI _ _⟩
 case round=>
  obtain⟨k,K,rfl,b,u⟩:=hrel;by_cases q:k<ss.length
  ·have x:=uh HC k q;have J:xb<w.heap.size:=yK _ _ x;obtain rfl:=f (by omega);have H:(ss.getD k ByteArray.empty).size<=1048576:=(uh Q).at q;have z:=zgZ q;have G:=SY (ss.take k);have y:(ss.take k).length<=k:=by rw[ym];omega
   generalize hs:ss.getD k ByteArray.empty=s at *;have j:=ze z;have U:wr.cell? ⟨xb,xo+k,none⟩=some (.string s):=(u.cell (p:=⟨xb,xo+k,none⟩) J).trans x;have r:=ze (zg0 s wr ((uh P).below u) H);generalize JP (ss.take k)=p at *;have S:p.length<=1048576:=by omega
   have D:=ze u;have M:=u.size;clear f z hs G y u
   cases hp:(zK s.data.toList).isSome with
   | false=>
    rw[hp]at r j;clear hp;go_wp2_with fail;refine (uh r).mono ?_;rintro e B ⟨rfl,o⟩;have C:=zi (uh D) o;have a:=Zd b o;clear b o r D;go_wp2;go_roundw
    case rel=>exact⟨k+1,by omega,by go_num,by rw[uh j];simpa using a,C⟩
    case measure=>simp[intOf];omega
   | true=>
    rw[hp]at r j;clear hp;go_wp2_with fail;refine (uh r).mono ?_;rintro e B ⟨rfl,o⟩;have C:=zi (uh D) o;have I:=C.size;have a:=Zd b o;have R:=ze (zgY s);clear b o r D;go_wp2_with (at_builtin;first |(refine wpList_append_own _ rfl (.tmp 15) (.tmp 17) 30 rfl w.heap.size 9 F (.string ByteArray.empty) 1 16 underlying30 E l m n rfl (by decide) _ _ _ rfl (a.alloc _) ⟨B.heap.size,0,none⟩ 1 1 [.string s] rfl rfl (Qi _ _ _) (Vj _) (by unfold maxLen;omega) (by omega) (by simp;omega) ?_) |(refine wpList_append_own _ rfl (.tmp 14) (.tmp 16) 30 rfl w.heap.size 9 F (.string ByteArray.empty) 1 16 underlying30 E l m n rfl (by decide) _ _ _ rfl (a.alloc _) ⟨B.heap.size,0,none⟩ 1 1 [.string s] rfl rfl (Qi _ _ _) (Vj _) (by unfold maxLen;omega) (by omega) (by simp;omega) ?_) |(refine wpList_append_own _ rfl (.tmp 13) (.tmp 15) 30 rfl w.heap.size 9 F (.string ByteArray.empty) 1 16 underlying30 E l m n rfl (by decide) _ _ _ rfl (a.alloc _) ⟨B.heap.size,0,none⟩ 1 1 [.string s] rfl rfl (Qi _ _ _) (Vj _) (by unfold maxLen;omega) (by omega) (by simp;omega) ?_) |(refine wpList_append_own _ rfl (.tmp 16) (.tmp 18) 30 rfl w.heap.size 9 F (.string ByteArray.empty) 1 16 underlying30 E l m n rfl (by decide) _ _ _ rfl (a.alloc _) ⟨B.heap.size,0,none⟩ 1 1 [.string s] rfl rfl (Qi _ _ _) (Vj _) (by unfold maxLen;omega) (by omega) (by simp;omega) ?_));intro T N g d _;have O:Bw w N:=(C.alloc I _).grown d (by simp;omega) (fun k K=>(a.lt k K).1);have A:OT N w.heap.size T (p++[s.data.toList]):=OT.step (t:=s.data.toList) (by rw[show QJ s.data.toList= .string s from congrArg Value.string (uh R)];exact g);clear g d a;go_wp2;go_roundw
    case rel=>exact⟨k+1,by omega,by go_num,by rw[uh j];exact A,O⟩
    case measure=>simp[intOf];omega
  ·have e:ss.take k=ss:=yr (by omega);rw[e]at b;clear f;go_wp2;go_ret;exact⟨_,rfl,b,u⟩
theorem At(x y:Bs)(w:Wo):
  Calls prog 92 #[.string x,.string y] w fun e w'=>e= .returned (.bool (JS x.data.toList y.data.toList))/\w=w':=by
 have HC:=ze (Tryz.strings_CutPrefix y x w);have HR:Hid (JS x.data.toList y.data.toList=(Lib.hasPrefix y.data.toList x.data.toList && (match Lib.trimPrefix y.data.toList x.data.toList with | []=>true | c :: _=>c.toNat ==47))):=rfl;generalize Lib.hasPrefix y.data.toList x.data.toList=b at *;generalize Lib.trimPrefix y.data.toList x.data.toList=r at *;generalize JS x.data.toList y.data.toList=z at *
 cases b with
 | false=>
  go_in;go_wp2_with fail;refine (uh HC).mono ?_;rintro e h ⟨rfl,rfl⟩;clear HC;go_wp2;go_ret;exact⟨by rw[uh HR];rfl,rfl⟩
 | true=>
  cases r with
  | nil=>
   go_in;go_wp2_with fail;refine (uh HC).mono ?_;rintro e h ⟨rfl,rfl⟩;clear HC;go_wp2;go_ret;exact⟨by rw[uh HR];rfl,rfl⟩
  | cons c r=>
   have g:(⟨(c :: r).toArray⟩:Bs).size=r.length+1:=by show (c :: r).toArray.size=_;simp
   have i:(⟨(c :: r).toArray⟩:Bs).toList.isEmpty=false:=by rw[Lib.toList_data];rfl
   have k:((⟨(c :: r).toArray⟩:Bs)[0]'(by rw[g];omega))=c:=rfl;have f:Hid (z=(c.toNat ==47)):=ze (by have:=uh HR;simpa using this);clear HR;generalize (⟨(c :: r).toArray⟩:Bs)=q at *;by_cases a:(c.toNat:Int)=47
   ·have j:((c.toNat:Int) ==47)=true:=by simpa using a
    have d:Hid (z=true):=ze (by rw[uh f];simp;omega);clear f a;go_in;go_wp2_with fail;refine (uh HC).mono ?_;rintro e h ⟨rfl,rfl⟩;clear HC;go_wp2;go_ret;exact⟨by rw[uh d];rfl,rfl⟩
   ·have j:((c.toNat:Int) ==47)=false:=by simpa using a
    have d:Hid (z=false):=ze (by rw[uh f];simp;omega);clear f a;go_in;go_wp2_with fail;refine (uh HC).mono ?_;rintro e h ⟨rfl,rfl⟩;clear HC;go_wp2;go_ret;exact⟨by rw[uh d];rfl,rfl⟩
def YX(x y:List UInt8):Bool:=JS x y || JS y x
theorem zg1(x y:Bs)(w:Wo):
  Calls prog 46 #[.string x,.string y] w fun e w'=>e= .returned (.bool (YX x.data.toList y.data.toList))/\w=w':=by
 have d:=ze (At x y w);have f:=ze (At y x w);have HR:Hid (YX x.data.toList y.data.toList=(JS x.data.toList y.data.toList || JS y.data.toList x.data.toList)):=rfl;generalize JS x.data.toList y.data.toList=a at *;generalize JS y.data.toList x.data.toList=b at *
 cases a with
 | true=>
  go_in;go_wp2_with fail;refine (uh d).mono ?_;rintro e g ⟨rfl,rfl⟩;clear d f;go_wp2;go_ret;exact⟨by rw[uh HR];rfl,rfl⟩
 | false=>
  go_in;go_wp2_with fail;refine (uh d).mono ?_;rintro e g ⟨rfl,rfl⟩;clear d;go_wp2_with fail;refine (uh f).mono ?_;rintro e g ⟨rfl,rfl⟩;clear f;go_wp2;go_ret;exact⟨by rw[uh HR];rfl,rfl⟩
end Go.Proofs.YtpaecnbdoljafaaGreatDoor
